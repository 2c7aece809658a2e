/- Texts joined: SlA, SlLa, SlLb, FOver, FRefNum, FRef. -/
import Derived.Test.YtonokaelbpfjnaaGreatDoorJhAz
import Derived.Test.YtonokaelbpfjnaaGreatDoorCards
import Derived.Test.YtonokaelbpfjnaaGreatDoorTie
import Derived.ProofKit
import Derived.OpenShut
import Derived.Deep.DeepHandedRow
import Derived.Lib.LaidTab
import Derived.ChangeOld
import Derived.SizedLaws
import Derived.Test.YtonokaelbpfjnaaGreatDoorJhAq
import Derived.Maps.AppendAt
/- awake. -/
namespace Go.Proofs.YtonokaelbpfjnaaGreatDoor
open Go.RowKit Ap
attribute [local go_sem ↓] Go.wp_at_zero Go.wp_at_succ
theorem bytes_splice {A xs : List Nat} {o : Nat} (h : Bytes A) (hx : Bytes xs) : Bytes (splice A o xs) := by
  intro y hy
  simp only [splice, List.mem_append] at hy
  rcases hy with hy | hy | hy
  · exact h y (List.mem_of_mem_take hy)
  · exact hx y hy
  · exact h y (List.mem_of_mem_drop hy)
theorem bytes_zs (n : Nat) : Bytes (zs n) := by
  intro y hy
  unfold zs at hy
  have := List.eq_of_mem_replicate hy
  omega
theorem bytes_svT {T : List Nat} {size F : Nat} {hd : Fm.Hd} {xs : List Nat} (h : Bytes T) (hx : Bytes xs) : Bytes (svT T size F hd xs) :=
  bytes_splice (bytes_splice h hx) (bytes_splice (bytes_zs _) (Fm.nats_lt hd.out_byt))
theorem bytes_abc : Bytes [97, 98, 99] := by intro x hx; simp at hx; omega
theorem bytes_none : Bytes [] := by intro x hx; cases hx
theorem hd0_ok : hd0.Ok := zHd_ok
/-- The first header, the second one. -/
def hA : Fm.Hd := nxH hd0 7 [97, 98, 99]
def hB : Fm.Hd := nxH hA 9 []
theorem hA_ok : hA.Ok ∧ hA.May := nxH_ok hd0_ok (by decide) (by decide) (by decide) bytes_abc (by decide)
theorem hB_ok : hB.Ok ∧ hB.May := nxH_ok hA_ok.1 (by decide) (by decide) (by decide) bytes_none (by decide)
def TA : List Nat := svT (zs 640) 64 0 hA [97, 98, 99]
def TB : List Nat := svT TA 64 5 hB []
theorem zs_len (n : Nat) : (zs n).length = n := by simp [zs]
theorem TA_len : TA.length = 640 := svT_len (n := 10) (by decide) (zs_len 640) (by decide)
theorem TB_len : TB.length = 640 := svT_len (n := 10) (by decide) TA_len (by decide)
theorem TA_bytes : Bytes TA := bytes_svT (bytes_zs _) bytes_abc
theorem TB_bytes : Bytes TB := bytes_svT TA_bytes bytes_none
theorem TA_a : Holds TA 64 0 hA [97, 98, 99] := holds_saved (n := 10) (by decide) (zs_len 640) (by decide) hA_ok.1 hA_ok.2 rfl rfl
theorem TA_b : Blank TA 64 5 := Blank.other (n := 10) (C := 4) (blank_zero 640 64 5 (by decide) (by decide)) (by decide) (zs_len 640) (by decide) (by decide) (by decide) (.inl (by decide))
theorem TB_b : Holds TB 64 5 hB [] := holds_saved (n := 10) (by decide) TA_len (by decide) hB_ok.1 hB_ok.2 rfl rfl
theorem TB_a : Holds TB 64 0 hA [97, 98, 99] := TA_a.other (n := 10) (C := 4) (by decide) TA_len (by decide) (by decide) (by decide) (by decide) (.inr (by decide))
theorem found0 : Found (zs 640) 64 0 5 4 (hd0, none, -1) := found_none (blank_zero 640 64 0 (by decide) (by decide)) (blank_zero 640 64 5 (by decide) (by decide))
theorem found1 : Found TA 64 0 5 4 (hA, some [97, 98, 99], 0) := found_a (by decide) TA_a (by decide) TA_b
theorem found2 : Found TB 64 0 5 4 (hB, some [], 1) := found_ba (by decide) TB_a (by decide) TB_b (by decide) (by decide)
/-- A box of a header stays. -/
theorem BoP.far35 {w0 w : World} {X b sl ra rb Fa Fb C i : Nat} {s : Dv} {k : Dk} {D : List Nat} {W : List Wt} {cc : Array Value} {fr : Nat × Nat} (h : BoP w0 w X b sl ra rb Fa Fb C s k D W) (hi : w.heap[i]? = some (.cells cc 35 fr)) : ¬ (k.own i ∨ i = b) := by
  have hf := h.dev.far hi (by decide) (by decide) (by decide) (by decide)
  exact fun e => e.elim hf.1 hf.2
set_option maxRecDepth 20000 in
set_option maxHeartbeats 8000000 in
theorem awake_any (w : World) (hT : Fm.Cr.Tab w) : Calls Tryz.prog 7 #[] w fun e w' => e = .returned (.bool true) ∧ w.grownBy w' none := by
  have HM := hide (made_zero w)
  have HT := hide hT
  clear hT
  go_enter Tryz.func7, Tryz.ntmps7
  go_wp2_with fail
  refine HM.out.mono ?_
  rintro e w1 ⟨X, b, sl, ra, rb, k1, rfl, hB1, g1⟩
  have B1 := hide hB1
  obtain ⟨x0, x1⟩ := hB1.cell
  have hcv := Go.Joins.run_convert_bytes_const_at (P := Tryz.prog) w1 36 5 #[.int .u8 97, .int .u8 98, .int .u8 99] 3 3 w1.heap.size (by simp) Tryz.underlying36 Tryz.underlying5
  clear hB1 g1 HM
  go_wp2_with fail
  clear hcv x0 x1
  have g2 := World.grownBy_alloc w1 (.cells #[.int .u8 97, .int .u8 98, .int .u8 99] 5 (3, 4)) none
  have b2 := heap_alloc_new w1 (.cells #[.int .u8 97, .int .u8 98, .int .u8 99] 5 (3, 4))
  have hoffn := new_off B1.out.dev (Nat.le_refl w1.heap.size)
  obtain ⟨A, hA'⟩ : ∃ A, w1.heap.size = A := ⟨_, rfl⟩
  rw [hA'] at b2 hoffn ⊢
  generalize (w1.alloc (.cells #[.int .u8 97, .int .u8 98, .int .u8 99] 5 (3, 4))) = w2 at *
  have hat2 : At w2 (some ⟨A, 0, none⟩) [97, 98, 99] := by
    intro j u hu
    refine ⟨_, rfl, ?_⟩
    rw [Addr.add_lit, Nat.zero_add, cell_of_row w2 A j _ _ _ b2]
    match j, hu with
    | 0, h => cases h; rfl
    | 1, h => cases h; rfl
    | 2, h => cases h; rfl
    | j + 3, h => simp at h
  have hlt2 := row_lt b2
  refine (saveF (c := 0) (k := k1) (B1.out.grown g2) found0 (zs_len 640) (by decide) (by decide) (by decide) (by decide) HT.out (bytes_zs 640) (some ⟨A, 0, none⟩) 3 3 [97, 98, 99] rfl hat2 (by decide) (by decide) bytes_abc (fun a e => by cases e; exact ⟨hlt2, fun _ => ⟨fun e => hoffn (.inl e), fun e => hoffn (.inr e)⟩⟩) 7 (by decide) (by decide) (by decide)).mono ?_
  clear hat2 hoffn b2 g2 B1 hlt2 hA'
  rintro e w3 ⟨k3, c3, rfl, hc3, hB3, _⟩
  have g4 := World.grownBy_alloc w3 (.cells #[.int .u64 hA.g, .int .u64 hA.c, .int .i64 hA.n, .int .u32 hA.s] 35) none
  have b4 : (w3.alloc (.cells #[.int .u64 hA.g, .int .u64 hA.c, .int .i64 hA.n, .int .u32 hA.s] 35)).heap[w3.heap.size]? = some (.cells (Fm.hdC hA).toArray 35 (0, 0)) := heap_alloc_new w3 _
  obtain ⟨H, hH⟩ : ∃ H, w3.heap.size = H := ⟨_, rfl⟩
  rw [hH] at b4
  have hc3' : c3 ≤ 18 := by omega
  have B4 : Hid (BoP w (w3.alloc (.cells #[.int .u64 hA.g, .int .u64 hA.c, .int .i64 hA.n, .int .u32 hA.s] 35)) X b sl ra rb 0 5 4 (frD c3) k3 TA [] ∧ (w3.alloc (.cells #[.int .u64 hA.g, .int .u64 hA.c, .int .i64 hA.n, .int .u32 hA.s] 35)).heap[H]? = some (.cells (Fm.hdC hA).toArray 35 (0, 0))) := ⟨hB3.grown g4, b4⟩
  obtain ⟨x0, x1⟩ := B4.out.1.cell
  rw [show nxH hd0 7 [97, 98, 99] = hA from rfl]
  unfold Fm.hdV
  clear hB3 g4 b4 hc3
  go_wp2_with fail
  clear hH
  generalize (w3.alloc (.cells #[.int .u64 hA.g, .int .u64 hA.c, .int .i64 hA.n, .int .u32 hA.s] 35)) = w4 at *
  refine (loadF B4.out.1 found1 (by decide) (by decide) (by decide) (by omega) HT.out TA_bytes).mono ?_
  rintro e w5 ⟨v5, c5, rfl, hc5, hB5, hk5, hy5⟩
  obtain ⟨G, rfl, hG, hbG⟩ := hy5 _ rfl
  have hGoff := new_off B4.out.1.dev hG
  have hH5 := hk5.at B4.out.2 (B4.out.1.far35 B4.out.2)
  have g6 := World.grownBy_alloc w5 (.cells #[.int .u64 hA.g, .int .u64 hA.c, .int .i64 hA.n, .int .u32 hA.s] 35) none
  have b6 : (w5.alloc (.cells #[.int .u64 hA.g, .int .u64 hA.c, .int .i64 hA.n, .int .u32 hA.s] 35)).heap[w5.heap.size]? = some (.cells (Fm.hdC hA).toArray 35 (0, 0)) := heap_alloc_new w5 _
  obtain ⟨I, hI⟩ : ∃ I, w5.heap.size = I := ⟨_, rfl⟩
  rw [hI] at b6
  have hc5' : c5 ≤ 40 := by omega
  have B6 : Hid (BoP w (w5.alloc (.cells #[.int .u64 hA.g, .int .u64 hA.c, .int .i64 hA.n, .int .u32 hA.s] 35)) X b sl ra rb 0 5 4 (frD c5) k3 TA [] ∧ (w5.alloc (.cells #[.int .u64 hA.g, .int .u64 hA.c, .int .i64 hA.n, .int .u32 hA.s] 35)).heap[H]? = some (.cells (Fm.hdC hA).toArray 35 (0, 0)) ∧ (w5.alloc (.cells #[.int .u64 hA.g, .int .u64 hA.c, .int .i64 hA.n, .int .u32 hA.s] 35)).heap[I]? = some (.cells (Fm.hdC hA).toArray 35 (0, 0)) ∧ (w5.alloc (.cells #[.int .u64 hA.g, .int .u64 hA.c, .int .i64 hA.n, .int .u32 hA.s] 35)).heap[G]? = some (.cells (bv [97, 98, 99]).toArray 5 (0, 0)) ∧ ¬ (k3.own G ∨ G = b)) :=
    ⟨hB5.grown g6, (g6.block _ (row_lt hH5) (by simp)).trans hH5, b6, (g6.block _ (row_lt hbG) (by simp)).trans hbG, hGoff⟩
  obtain ⟨x0', x1'⟩ := B6.out.1.cell
  unfold Fm.hdV
  clear hB5 hk5 hy5 hG hbG hGoff hH5 g6 b6 hc5 x0 x1 B4
  go_wp2_with fail
  clear hI x0' x1'
  generalize (w5.alloc (.cells #[.int .u64 hA.g, .int .u64 hA.c, .int .i64 hA.n, .int .u32 hA.s] 35)) = w6 at *
  refine (saveF B6.out.1 found1 TA_len (by decide) (by decide) (by decide) (by omega) HT.out TA_bytes none 0 0 [] rfl (fun j u hu => by cases hu) (by decide) (by decide) bytes_none (fun a e => by cases e) 9 (by decide) (by decide) (by decide)).mono ?_
  rintro e w7 ⟨k7, c7, rfl, hc7, hB7, hm7⟩
  obtain ⟨hB6, hH6, hI6, hG6, ho6⟩ := B6.out
  have hH7 := hm7.kept.at hH6 (hB6.far35 hH6)
  have hI7 := hm7.kept.at hI6 (hB6.far35 hI6)
  have hG7 := hm7.kept.at hG6 ho6
  have ho7 : ¬ (k7.own G ∨ G = b) := by
    rintro (e | e)
    · rcases hm7.own G e with e | e
      · exact ho6 (.inl e)
      · have := row_lt hG6; omega
    · exact ho6 (.inr e)
  have g8 := World.grownBy_alloc w7 (.cells #[.int .u64 hB.g, .int .u64 hB.c, .int .i64 hB.n, .int .u32 hB.s] 35) none
  have b8 : (w7.alloc (.cells #[.int .u64 hB.g, .int .u64 hB.c, .int .i64 hB.n, .int .u32 hB.s] 35)).heap[w7.heap.size]? = some (.cells (Fm.hdC hB).toArray 35 (0, 0)) := heap_alloc_new w7 _
  obtain ⟨J, hJ⟩ : ∃ J, w7.heap.size = J := ⟨_, rfl⟩
  rw [hJ] at b8
  have hc7' : c7 ≤ 100 := by omega
  have B8 : Hid (BoP w (w7.alloc (.cells #[.int .u64 hB.g, .int .u64 hB.c, .int .i64 hB.n, .int .u32 hB.s] 35)) X b sl ra rb 0 5 4 (frD c7) k7 TB [] ∧ (w7.alloc (.cells #[.int .u64 hB.g, .int .u64 hB.c, .int .i64 hB.n, .int .u32 hB.s] 35)).heap[H]? = some (.cells (Fm.hdC hA).toArray 35 (0, 0)) ∧ (w7.alloc (.cells #[.int .u64 hB.g, .int .u64 hB.c, .int .i64 hB.n, .int .u32 hB.s] 35)).heap[I]? = some (.cells (Fm.hdC hA).toArray 35 (0, 0)) ∧ (w7.alloc (.cells #[.int .u64 hB.g, .int .u64 hB.c, .int .i64 hB.n, .int .u32 hB.s] 35)).heap[G]? = some (.cells (bv [97, 98, 99]).toArray 5 (0, 0)) ∧ ¬ (k7.own G ∨ G = b) ∧ (w7.alloc (.cells #[.int .u64 hB.g, .int .u64 hB.c, .int .i64 hB.n, .int .u32 hB.s] 35)).heap[J]? = some (.cells (Fm.hdC hB).toArray 35 (0, 0))) :=
    ⟨hB7.grown g8, (g8.block _ (row_lt hH7) (by simp)).trans hH7, (g8.block _ (row_lt hI7) (by simp)).trans hI7, (g8.block _ (row_lt hG7) (by simp)).trans hG7, ho7, b8⟩
  obtain ⟨x0, x1⟩ := B8.out.1.cell
  rw [show nxH hA 9 [] = hB from rfl]
  unfold Fm.hdV
  clear hB6 hH6 hI6 hG6 ho6 hH7 hI7 hG7 ho7 g8 b8 hB7 hm7 hc7 B6
  go_wp2_with fail
  clear hJ x0 x1
  generalize (w7.alloc (.cells #[.int .u64 hB.g, .int .u64 hB.c, .int .i64 hB.n, .int .u32 hB.s] 35)) = w8 at *
  refine (loadF B8.out.1 found2 (by decide) (by decide) (by decide) (by omega) HT.out TB_bytes).mono ?_
  rintro e w9 ⟨v9, c9, rfl, hc9, hB9, hk9, hy9⟩
  obtain ⟨hB8, hH8, hI8, hG8, ho8, hJ8⟩ := B8.out
  have hH9 := hk9.at hH8 (hB8.far35 hH8)
  have hI9 := hk9.at hI8 (hB8.far35 hI8)
  have hJ9 := hk9.at hJ8 (hB8.far35 hJ8)
  have hG9 := hk9.at hG8 ho8
  have g10 := World.grownBy_alloc w9 (.cells #[.int .u64 hB.g, .int .u64 hB.c, .int .i64 hB.n, .int .u32 hB.s] 35) none
  have hH10 := (g10.block _ (row_lt hH9) (by simp)).trans hH9
  have hI10 := (g10.block _ (row_lt hI9) (by simp)).trans hI9
  have hJ10 := (g10.block _ (row_lt hJ9) (by simp)).trans hJ9
  have hG10 := (g10.block _ (row_lt hG9) (by simp)).trans hG9
  have hcv : (convert 36 9 (.slice (some ⟨G, 0, none⟩) 3 3)).run Tryz.prog (w9.alloc (.cells #[.int .u64 hB.g, .int .u64 hB.c, .int .i64 hB.n, .int .u32 hB.s] 35)) = .ok (.string ⟨#[97, 98, 99]⟩) (w9.alloc (.cells #[.int .u64 hB.g, .int .u64 hB.c, .int .i64 hB.n, .int .u32 hB.s] 35)) := by
    refine run_convert_bytes_back _ 36 9 5 ⟨G, 0, none⟩ 3 [97, 98, 99] Tryz.underlying36 Tryz.underlying5 Tryz.underlying9 ?_
    intro j hj
    rw [Addr.add_lit, Nat.zero_add, cell_row hG10]
    match j, hj with
    | 0, _ => rfl
    | 1, _ => rfl
    | 2, _ => rfl
  obtain ⟨p0, p1, p2, p3⟩ := Fm.box4 hH10
  obtain ⟨q0, q1, q2, q3⟩ := Fm.box4 hI10
  obtain ⟨r0, r1, r2, r3⟩ := Fm.box4 hJ10
  have HF := hide (grown_trans hB9.dev.disk.grown g10)
  have e1 : hA.g = 1 := rfl
  rw [e1] at p0
  rw [e1] at q0
  replace r0 : (w9.alloc (.cells #[.int .u64 hB.g, .int .u64 hB.c, .int .i64 hB.n, .int .u32 hB.s] 35)).cell? ⟨J, 0, none⟩ = some (.int .u64 2) := r0
  replace r1 : (w9.alloc (.cells #[.int .u64 hB.g, .int .u64 hB.c, .int .i64 hB.n, .int .u32 hB.s] 35)).cell? ⟨J, 1, none⟩ = some (.int .u64 9) := r1
  clear e1
  unfold Fm.hdV
  clear hB8 hH8 hI8 hG8 ho8 hJ8 hH9 hI9 hJ9 hG9 hB9 hk9 hy9 B8 g10 hH10 hI10 hJ10 hG10
  generalize hA.c = yc at *
  generalize hA.n = yn at *
  generalize hA.s = ys at *
  go_wp2
  go_ret
  exact ⟨rfl, HF.out⟩
end Go.Proofs.YtonokaelbpfjnaaGreatDoor
/- What the rows' listed table gives; a world for the witnesses; arguments that are rows of bytes: shared by the rows' proofs. -/
namespace Go.Proofs.YtonokaelbpfjnaaGreatDoor
open Go.ChangeShapes Go.WideShapes Go.ChangeAt Go.RowKit Go.Deep Ap

theorem seat_own : ownKnob Tryz.prog.godebug = none := by kernel_rfl
theorem seat_laid : laidOutB Tryz.prog = true := by kernel_rfl
theorem gTab : Tryz.prog.globalNamed "gangway/crc.four" = some 0 := by kernel_rfl
theorem gTabType : (Tryz.prog.globals[0]?).map (·.type) = some 179 := by kernel_rfl
theorem cellsTab : Tryz.prog.cellsOf 179 = 16 := by kernel_rfl
theorem cellsU32 : Tryz.prog.cellsOf 33 = 1 := by kernel_rfl
theorem cellsOf5 : Tryz.prog.cellsOf 5 = 1 := by kernel_rfl
theorem bytes5 : Tryz.prog.bytesOf 5 = 1 := by kernel_rfl
def tabL : List Int := [0, 498536548, 997073096, 651767980, 1994146192, 1802195444, 1303535960, 1342533948, 3988292384, 4027552580, 3604390888, 3412177804, 2607071920, 2262029012, 2685067896, 3183342108]
theorem tabL_at : ∀ j, j < 16 → tabL.getD j 0 = ((Fm.Cr.Poly.steps 4 j : Nat) : Int) := by decide
theorem table {W : World} (h : laidMetH Tryz.prog [("gangway/crc.four", Rows.laid_gangway_crc_four)] W) : Fm.Cr.Tab W := by
  have ht : Lib.TabIs Tryz.prog W "gangway/crc.four" .u32 tabL := Lib.tabIs_of_head (rest := []) gTab gTabType Tryz.underlying179 Tryz.underlying33 cellsU32 cellsTab h
  intro j hj
  rw [← tabL_at j hj]
  exact ht.cell gTab j hj
theorem grown_below {a b : World} (h : a.grownBy b none) : Below a.heap.size a b := ⟨h.os, h.tape, h.output, h.size, fun k hk => h.block k hk (fun e => by cases e)⟩

/-- A world for the witness: the table (block 0) holding what its initialiser lays. -/
noncomputable def laidWorld (os : Os) : World :=
  { World.holding Tryz.prog os ⟨#[], #[], []⟩ with heap := (World.holding Tryz.prog os ⟨#[], #[], []⟩).heap.modify 0 fun
      | .cells _ t frozen => .cells (tabL.map (Value.int .u32)).toArray t frozen
      | o => o }

variable {H : Type} {enc : TypeId × Value → H}
set_option maxRecDepth 20000 in
/-- An argument that is a slice of bytes. -/
theorem open_bytesArg {w : World} {base : Nat} {spare : Nat → Bool} {held : Bool} {r : Reach} {b0 : Nat} {v : Value} {d : DataW H} {ps : List MemPlace} (hval : Value.okWide Tryz.prog w r b0 36 v) (hd : DataW.Trod enc Tryz.prog w base spare held 36 v d ps) (hz : ∀ n ∈ d.weights Tryz.prog 36, n ≤ reachBytes) :
    ∃ (ao : Option Addr) (n cap : Nat) (xs : List Nat), v = .slice ao n cap ∧ xs.length = n ∧ At w ao xs ∧ Bytes xs ∧ n ≤ 140737488351232 ∧ (ao = none → n = 0 ∧ cap = 0) ∧ n ≤ cap ∧ cap ≤ maxLen := by
  obtain ⟨ao, len0, cap0, rfl⟩ := okWide_slice Tryz.underlying36 hval
  obtain ⟨fuel, hf⟩ := hd
  refine ⟨ao, len0, cap0, ?_⟩
  rcases open_ints Tryz.underlying36 Tryz.underlying5 cellsOf5 hf with ⟨hcs, _⟩ | ⟨a, len, cap, zs, hcs, _, hl, hm, hzz, hx, hcell, hwf⟩
  · simp [Value.cells] at hcs
    obtain ⟨rfl, rfl, rfl⟩ := hcs
    exact ⟨[], rfl, rfl, At.nil _ _, (fun x hx => by cases hx), by omega, fun _ => ⟨rfl, rfl⟩, by omega, by unfold maxLen; omega⟩
  · simp [Value.cells] at hcs
    obtain ⟨rfl, rfl, rfl⟩ := hcs
    have hd : d = .slice (lits .u8 (zs.take len0)) (lits .u8 (zs.drop len0)) := congrArg Prod.fst hx
    have h1 := hz ((lits .u8 (zs.take len0) : List (DataW H)).length * 1 + (lits .u8 (zs.drop len0) : List (DataW H)).length * 1) (by
      rw [hd]; simp [DataW.weights, Tryz.underlying36, bytes5])
    simp only [lits, List.length_map, List.length_take, List.length_drop, reachBytes] at h1
    have hzl : len0 ≤ zs.length := by rw [hzz]; split <;> omega
    refine ⟨(zs.take len0).map Int.toNat, rfl, by simp; omega, ?_, ?_, by omega, (fun e => by cases e), hl, hm⟩
    · intro j u hu
      rw [List.getElem?_map, List.getElem?_take] at hu
      split at hu
      · rename_i hj
        have hj2 : j < zs.length := by omega
        rw [List.getElem?_eq_getElem hj2] at hu
        have hc := hcell j hj2
        have hb := bounds_u8 (hwf zs[j] (List.getElem_mem hj2))
        refine ⟨a, rfl, ?_⟩
        rw [hc]
        simp [List.getD_eq_getElem?_getD, hj2] at hu ⊢
        omega
      · cases hu
    · intro x hx
      rw [List.mem_map] at hx
      obtain ⟨y, hy, rfl⟩ := hx
      have := bounds_u8 (hwf y (List.mem_of_mem_take hy))
      omega
end Go.Proofs.YtonokaelbpfjnaaGreatDoor
/- An argument that is a header: opened. -/
namespace Go.Proofs.YtonokaelbpfjnaaGreatDoor
open Go.ChangeShapes Go.WideShapes Go.ChangeAt Go.RowKit Go.Deep Ap

theorem listOf4 {α : Type} {l : List α} (h : l.length = 4) : ∃ a b c d, l = [a, b, c, d] := by
  match l, h with
  | [a, b, c, d], _ => exact ⟨a, b, c, d, rfl⟩
theorem cellsOf35 : Tryz.prog.cellsOf 35 = 4 := by kernel_rfl
theorem cellsOf23 : Tryz.prog.cellsOf 28 = 1 := by kernel_rfl
theorem cellsOf3 : Tryz.prog.cellsOf 3 = 1 := by kernel_rfl
variable {H : Type} {enc : TypeId × Value → H}
set_option maxRecDepth 20000 in
/-- An argument that is a header. -/
theorem open_headerArg {w : World} {base : Nat} {spare : Nat → Bool} {held : Bool} {r : Reach} {b0 : Nat} {v : Value} {d : DataW H} {ps : List MemPlace} (hval : Value.okWide Tryz.prog w r b0 35 v) (hd : DataW.Trod enc Tryz.prog w base spare held 35 v d ps) :
    ∃ h : Fm.Hd, v = Fm.hdV h ∧ h.Ok := by
  obtain ⟨cs, rfl, _⟩ := okWide_struct Tryz.underlying35 hval
  obtain ⟨fuel, h⟩ := hd
  have h : DataW.trod enc Tryz.prog w base spare held fuel 35 cs.toList = some (d, ps) := h
  obtain ⟨xs, n, _, hx, hl, hsz, hf⟩ := DataW.trod_struct Tryz.underlying35 h
  rw [cellsOf35] at hl
  obtain ⟨v0, v1, v2, v3, hc⟩ := listOf4 hl
  obtain ⟨y0, y1, y2, y3, rfl⟩ := listOf4 (show xs.length = 4 from hsz)
  rw [hc] at hf
  have f0 : DataW.trod enc Tryz.prog w base spare held n 28 [v0] = some y0 := by simpa [cellsOf23] using hf 0 _ rfl
  have f1 : DataW.trod enc Tryz.prog w base spare held n 28 [v1] = some y1 := by simpa [cellsOf23] using hf 1 _ rfl
  have f2 : DataW.trod enc Tryz.prog w base spare held n 3 [v2] = some y2 := by simpa [cellsOf3] using hf 2 _ rfl
  have f3 : DataW.trod enc Tryz.prog w base spare held n 33 [v3] = some y3 := by simpa [cellsU32] using hf 3 _ rfl
  obtain ⟨a, e0, rfl, wa⟩ := DataW.trod_int Tryz.underlying28 f0
  obtain ⟨b, e1, rfl, wb⟩ := DataW.trod_int Tryz.underlying28 f1
  obtain ⟨c, e2, rfl, wc⟩ := DataW.trod_int Tryz.underlying3 f2
  obtain ⟨e, e3, rfl, we⟩ := DataW.trod_int Tryz.underlying33 f3
  simp only [List.cons.injEq, and_true] at e0 e1 e2 e3
  have ba := bounds_u64 wa
  have bb := bounds_u64 wb
  have bc := bounds_i64 wc
  have be := bounds_u32 we
  refine ⟨⟨a, b, c, e⟩, ?_, ⟨by simp only; omega, by simp only; omega, by simp only; omega, by simp only; omega, by simp only; omega, by simp only; omega, by simp only; omega, by simp only; omega⟩⟩
  rw [e0, e1, e2, e3] at hc
  unfold Fm.hdV
  congr 1
  cases cs
  simpa using hc
end Go.Proofs.YtonokaelbpfjnaaGreatDoor
/- The contract of OverBytes; a Reader's bytes that lie behind a bound. -/
namespace Go.Proofs.YtonokaelbpfjnaaGreatDoor.Fm
open Go.RowKit

set_option maxHeartbeats 1000000 in
theorem over_any (g cap n : Nat) (w : World) (hb : ∃ cur, w.heap[g]? = some (.cells cur 5 (0, 0)) ∧ cur.size = cap) (hc1 : n + 12 ≤ cap) (_hc2 : cap ≤ maxLen) (hm : n ≤ 140737488355328) :
    Calls Tryz.prog 43 #[.slice (some ⟨g, 0, none⟩) n cap] w fun e w' => e = .returned (.tuple #[]) ∧ w.grownBy w' (some g) := by
  unfold maxLen at _hc2
  have hst2 : ∀ w', (Instr.slice 36 (.slice (some ⟨g, 0, none⟩) n cap) none (some (.int .i64 ((n : Int) + 12))) none).run Tryz.prog w' = .ok (.slice (some ⟨g, 0, none⟩) (n + 12) cap) w' := slice_to (some ⟨g, 0, none⟩) n cap (n + 12) hc1
  have HB := hide hb
  clear hb
  go_enter Tryz.func43, Tryz.ntmps43
  go_wp2
  go_loopg [3] (n + 12) (fun k i wr => ∃ j : Nat, k + j = n + 12 ∧ i = .int .i64 j ∧ (∃ cur, wr.heap[g]? = some (.cells cur 5 (0, 0)) ∧ cur.size = cap) ∧ w.grownBy wr (some g))
  case atStart => exact ⟨0, by omega, rfl, HB.out, grown_refl _ _⟩
  case round =>
    obtain ⟨j, hkj, rfl, ⟨cur, hb, hs⟩, hg⟩ := hrel
    by_cases hk : 0 < gk
    · have hj1 : (j : Int) < ((n + 12 : Nat) : Int) := by omega
      have hjs : j < cur.size := by omega
      have hc : wr.cell? ⟨g, j, none⟩ = some cur[j] := by rw [cell_of_row wr g j cur 5 (0, 0) hb]; simp [hjs]
      have hf : wr.frozen? ⟨g, j, none⟩ = false := free_row hb _
      have Hb := hide (And.intro hb hs)
      obtain ⟨y, hy⟩ : ∃ y, y = cur[j] := ⟨_, rfl⟩
      rw [← hy] at hc
      clear hb hs hy hst2
      go_wp2_with (first | (go_at_call 64; refine (mark_any 2 j _ (by omega) (by omega) (by omega) (by omega)).mono ?_; rintro e w' ⟨rfl, rfl⟩) | go_in)
      go_roundg (gk - 1)
      case measure => omega
      case rel =>
        refine ⟨j + 1, by omega, by go_num, ⟨cur.setIfInBounds j (.int .u8 (markB 2 j)), ?_, by simp [Hb.out.2]⟩, grown_trans hg (grown_setCell _ g j _)⟩
        have h1 : _ = some (Obj.cells cur.toList.toArray 5 (0, 0)) := Hb.out.1
        have := row_setCell h1 j (.int .u8 (markB 2 j))
        rw [this]
        simp only [Option.some.injEq, Obj.cells.injEq, and_true]
        exact Array.ext' (by simp)
    · have hj : j = n + 12 := by omega
      subst hj
      clear hb hs
      go_wp2
      go_end0
      exact ⟨rfl, hg⟩

/-- A Reader whose bytes lie in blocks from lo on. -/
def RdLo (w : World) (b lo : Nat) : Prop := ∀ ao n cap a, w.cell? ⟨b, 0, none⟩ = some (.slice ao n cap) → ao = some a → lo ≤ a.block
theorem RdAt.keptLo {w w' : World} {b k lo : Nat} {xs : List Int} {e : Int} (h : RdAt w b xs e) (hlo : RdLo w b lo) (hg : w.grownBy w' (some k)) (hk : k < lo) (hkb : k ≠ b) : RdAt w' b xs e := by
  obtain ⟨ao, cap, hb, h1, h2, hat, ho, h3, h4, h5⟩ := h
  have hc : w.cell? ⟨b, 0, none⟩ = some (.slice ao xs.length cap) := by rw [cell_row hb]; rfl
  have hne' : ∀ a, ao = some a → some a.block ≠ some k := fun a ha e => by
    have := hlo ao _ _ a hc ha
    simp at e; omega
  refine ⟨ao, cap, (hg.block b (row_lt hb) (fun e => hkb (by simpa using e.symm))).trans hb, h1, h2, hat.kept hg hne', ho, h3, h4, fun a ha => ?_⟩
  obtain ⟨c, hc⟩ := h5 a ha
  exact ⟨c, (hg.block _ (row_lt hc) (hne' a ha)).trans hc⟩
theorem RdLo.kept {w w' : World} {b lo : Nat} {xs : List Int} {e : Int} {row : Option Nat} (h : RdLo w b lo) (hR : RdAt w b xs e) (hg : w.grownBy w' row) (hne : row ≠ some b) : RdLo w' b lo := by
  intro ao n cap a hc
  rw [World.cell?_of_block (w := w) (a := ⟨b, 0, none⟩) (hg.block b hR.lt (fun e => hne e.symm))] at hc
  exact h ao n cap a hc

set_option maxHeartbeats 400000 in
theorem of_lo (ao : Option Addr) (n cap : Nat) (xs : List Int) (w : World) (hn : xs.length = n) (hat : At w ao xs) (hnil : ao = none → n = 0 ∧ cap = 0) (hb : n ≤ 140737488355328) :
    Calls Tryz.prog 65 #[.slice ao n cap] w fun r w' => ∃ B, r = .returned (.pointer (some ⟨B, 0, none⟩)) ∧ w.heap.size ≤ B ∧ RdAt w' B xs 0 ∧ w.grownBy w' none ∧ RdLo w' B w.heap.size := by
  have Hn := hide hn
  clear hn
  go_enter Tryz.func65, Tryz.ntmps65
  go_wp2_with fail
  refine (clone_any ao n cap xs _ Hn.out hat hnil hb).mono ?_
  rintro e1 w1 ⟨v, rfl, hown, hg⟩
  obtain ⟨ao', cap', rfl, hl, hnc, hcm, hat', hnil', h5⟩ := own_at hown
  have H := hide (And.intro hl (And.intro hnc (And.intro hcm (And.intro hat' (And.intro hnil' (And.intro h5 hg))))))
  clear hl hnc hcm hat' hnil' h5 hg hown
  go_wp2
  go_ret
  obtain ⟨hl, hnc, hcm, hat', hnil', h5, hg⟩ := H.out
  have hga := World.grownBy_alloc w1 (.cells (rrow ao' xs.length cap' 0).toArray 160) none
  refine ⟨w1.heap.size, rfl, hg.size, ⟨ao', cap', ?_, by omega, hcm, ?_, ?_, fun e => (hnil' e).2, fun h => absurd rfl h, ?_⟩, ?_, ?_⟩
  · rw [hl]; exact heap_alloc_new w1 _
  · rw [← hl]; exact hat'.kept hga (by simp)
  · intro a ha e; have := (h5 a ha).2.1; omega
  · intro a ha
    obtain ⟨_, hlt, c, hc⟩ := h5 a ha
    exact ⟨c, (Below.heap_alloc _ _ _ hlt).trans hc⟩
  · exact grown_trans hg (World.grownBy_alloc w1 _ _)
  · intro ao2 n2 cap2 a hc ha
    have e1 : (w1.alloc (.cells (rrow ao' n cap' 0).toArray 160)).cell? ⟨w1.heap.size, 0, none⟩ = some (.slice ao' n cap') := by rw [cell_row (heap_alloc_new w1 _)]; rfl
    have e2 := e1.symm.trans hc
    simp at e2
    obtain ⟨e3, _⟩ := e2
    rw [← e3] at ha
    exact (h5 a ha).1
end Go.Proofs.YtonokaelbpfjnaaGreatDoor.Fm
/- The contract of the document's own Number; appends that tell where the row lies; a Writer's copy. -/
namespace Go.Proofs.YtonokaelbpfjnaaGreatDoor.Fm
open Go.RowKit

/-- append(s, x...), s the call's own, x bytes that lie somewhere (or nil); where the row lies then. -/
theorem wpList_append_lie {w : World} {ops : Array Oper} {rest : List Oper} {o : Oper} {a : Act} {Q : Exit → Act → World → Prop} (hgd : o.guard = none) (s x : Operand)
    (ho : o.op = .call { callee := .builtin .append, args := #[s, x], argTypes := #[36, 36] }) (base : Nat) (v : Value) (n : Nat) (xs : List Value) (hs : a.eval s = v) (hown : w.ownsRow base 5 1 v n xs)
    (ao : Option Addr) (m c : Nat) (ys : List Int) (hx : a.eval x = .slice ao m c) (hm : ys.length = m) (hat : At w ao ys) (hnil : ao = none → m = 0 ∧ c = 0)
    (hbytes : n + m ≤ 140737488355328) (hbase : base ≤ w.heap.size)
    (h : ∀ v' w', w'.ownsRow base 5 1 v' (n + m) (xs ++ ys.map (Value.int .u8)) → w.grownBy w' v.ownBlock → (v'.ownBlock = v.ownBlock ∨ v'.ownBlock = some w.heap.size) → wpList Tryz.prog ops Q rest (a.put o.dst v') w') : wpList Tryz.prog ops Q (o :: rest) a w := by
  obtain ⟨i0, hi, hz0, hz1, hz2⟩ := info_parts Tryz.info5
  cases ao with
  | none =>
    obtain ⟨rfl, rfl⟩ := hnil rfl
    refine wpList_append_own_none hgd s x 36 ho base 5 i0 1 Tryz.underlying36 hi v n xs hs hown hx (h v w ?_ (grown_refl w _) (Or.inl rfl))
    have : ys = [] := List.eq_nil_of_length_eq_zero hm
    subst this
    simpa using hown
  | some ad =>
    refine wpList_append_own_at _ hgd s x 36 ho base 5 i0 (.int .u8 0) 1 1 Tryz.underlying36 hi hz0 hz1 hz2 rfl (by decide) v n xs hs hown ad m c (ys.map (Value.int .u8)) hx (by simp [hm]) ?_ ?_ (by unfold maxLen; omega) (by omega) hbase (fun v' w' h1 h2 _ h4 => h v' w' h1 h2 h4)
    · intro j u hu
      rw [List.getElem?_map] at hu
      cases hj : ys[j]? with
      | none => simp [hj] at hu
      | some y =>
        simp [hj] at hu
        obtain ⟨a', ha', hc'⟩ := hat j y hj
        cases ha'
        rw [← hu]; exact hc'
    · intro u hu; rw [List.mem_map] at hu; obtain ⟨y, _, rfl⟩ := hu; rfl

theorem div_pow (N : Int) (j : Nat) : N / 2 ^ (8 * j) / 256 = N / 2 ^ (8 * (j + 1)) := by
  rw [pow_succ8, Int.mul_comm, Int.ediv_ediv_of_nonneg (Int.le_of_lt (Int.pow_pos (by omega)))]

set_option maxHeartbeats 1000000 in
theorem refnum_any (N S : Int) (size : Nat) (w : World) (hS : S = (size : Int)) (hs : size ≤ 8) (h0 : 0 ≤ N) (h1 : N < 18446744073709551616) :
    Calls Tryz.prog 63 #[.int .u64 N, .int .i64 S] w fun e w' => ∃ v, e = .returned v ∧ w'.ownsRow w.heap.size 5 1 v size ((leB N size).map (Value.int .u8)) ∧ w.grownBy w' none := by
  subst hS
  go_enter Tryz.func63, Tryz.ntmps63
  go_wp2
  go_loopg [0, 5, 6] size (fun k n v i wr => ∃ j : Nat, k + j = size ∧ n = .int .u64 (N / 2 ^ (8 * j)) ∧ i = .int .i64 j ∧ wr.ownsRow w.heap.size 5 1 v j ((leB N j).map (Value.int .u8)) ∧ w.grownBy wr none)
  case atStart => exact ⟨0, by omega, by simp, rfl, by simpa [leB] using World.ownsRow_nil w w.heap.size 5 1, grown_refl _ _⟩
  case round =>
    obtain ⟨j, hkj, rfl, rfl, hown, hg⟩ := hrel
    have HO := hide (And.intro hown hg)
    have hm0 : 0 ≤ N / 2 ^ (8 * j) := Int.ediv_nonneg h0 (Int.le_of_lt (Int.pow_pos (by omega)))
    have hm1 : N / 2 ^ (8 * j) < 18446744073709551616 := by
      have : N / 2 ^ (8 * j) ≤ N := Int.ediv_le_self _ h0
      omega
    have HD := hide (And.intro (leB_succ N j) (div_pow N j))
    by_cases hk : 0 < gk
    · clear hown hg
      generalize N / 2 ^ (8 * j) = M at *
      go_wp2_with (at_builtin; refine wpList_append_at rfl (.tmp 12) (.tmp 16) rfl w.heap.size _ j ((leB N j).map (Value.int .u8)) rfl (HO.out.1.alloc _) (some ⟨_, 0, none⟩) 1 1 [M % 256] rfl rfl ?_ (fun e => by cases e) (by omega) ?_ ?_)
      · exact at_new _ [M % 256] _ rfl
      · have := HO.out.2.size; simp; omega
      · intro v' w' hown' hg'
        go_wp2
        go_roundg (gk - 1)
        case measure => omega
        case rel =>
          refine ⟨j + 1, by omega, by rw [← HD.out.2], by go_num, ?_, grown_then (grown_trans HO.out.2 (World.grownBy_alloc _ _ none)) hg' (fun k e => Or.inl (HO.out.1.lt k e).1)⟩
          rw [HD.out.1]; simpa using hown'
    · have hj : j = size := by omega
      subst hj
      obtain ⟨ao', cap', rfl, hr⟩ := own_at hown
      clear hown hg hr
      go_wp2
      go_ret
      exact ⟨_, rfl, HO.out.1, HO.out.2⟩

/-- The cells behind a store of a whole block. -/
theorem setCells_all : ∀ (vs l : List Value) (w : World) (g o : Nat) (t : TypeId) (pre : List Value), w.heap[g]? = some (.cells (pre ++ l).toArray t (0, 0)) → pre.length = o → l.length = vs.length → (w.setCells g o vs).heap[g]? = some (.cells (pre ++ vs).toArray t (0, 0))
  | [], l, w, g, o, t, pre, h, _, hl => by
    have : l = [] := List.eq_nil_of_length_eq_zero (by simpa using hl)
    subst this
    exact h
  | v :: vs, l, w, g, o, t, pre, h, hp, hl => by
    cases l with
    | nil => simp at hl
    | cons x l =>
      have h1 := row_setCell h o v
      rw [List.set_append_right _ _ (by omega), hp, Nat.sub_self, List.set_cons_zero] at h1
      have h2 : (w.setCell ⟨g, o, none⟩ v).heap[g]? = some (.cells ((pre ++ [v]) ++ l).toArray t (0, 0)) := by rw [h1]; simp
      have h3 := setCells_all vs l (w.setCell ⟨g, o, none⟩ v) g (o + 1) t (pre ++ [v]) h2 (by simp [hp]) (by simpa using hl)
      simp only [World.setCells]
      rw [h3]; simp
theorem grown_setCells : ∀ (vs : List Value) (w : World) (g o : Nat), w.grownBy (w.setCells g o vs) (some g)
  | [], w, _, _ => grown_refl w _
  | v :: vs, w, g, o => grown_trans (grown_setCell w g o v) (grown_setCells vs _ g (o + 1))
/-- A Writer's copy, in a block of its own. -/
theorem twin_wr {w : World} {g : Nat} {D : List Int} {row : List Value} {C : Array Value} (h : WrAt w g D) (hrow : w.heap[g]? = some (.cells row.toArray 97 (0, 0))) (hC : C.size = row.length) :
    WrAt ((w.alloc (.cells C 97)).setCells w.heap.size 0 row) w.heap.size D ∧ WrAt ((w.alloc (.cells C 97)).setCells w.heap.size 0 row) g D ∧ w.grownBy ((w.alloc (.cells C 97)).setCells w.heap.size 0 row) none := by
  have hg : w.grownBy ((w.alloc (.cells C 97)).setCells w.heap.size 0 row) none := grown_then (World.grownBy_alloc w _ none) (grown_setCells row _ _ 0) (fun k e => by cases e; exact Or.inl (Nat.le_refl _))
  refine ⟨?_, h.kept hg (by simp) (NoBlock.none _), hg⟩
  obtain ⟨v, cs, op, hb, hl, hc, he⟩ := h
  have hr : row = wrow v op D.length := by
    rw [hrow] at hb
    simp only [Option.some.injEq, Obj.cells.injEq, and_true] at hb
    exact congrArg Array.toList hb
  have h1 : (w.alloc (.cells C 97)).heap[w.heap.size]? = some (.cells ([] ++ C.toList).toArray 97 (0, 0)) := by simpa using heap_alloc_new w (.cells C 97)
  have h2 := setCells_all row C.toList _ w.heap.size 0 97 [] h1 rfl (by simp [hC])
  refine ⟨v, cs, op, ?_, hl, Chain.kept hg (NoBlock.none _) cs v hc, he⟩
  rw [← hr]; simpa using h2
end Go.Proofs.YtonokaelbpfjnaaGreatDoor.Fm
/- The contracts of the document's own reader. -/
namespace Go.Proofs.YtonokaelbpfjnaaGreatDoor.Fm
open Go.RowKit
attribute [local go_sem ↓] Go.wp_at_zero Go.wp_at_succ

/-- append(s, x...) as one step of a region that draws its order. -/
theorem step_append_at {w : World} {ops : Array Oper} {o : Oper} {a : Act} {K : Act → World → Prop} {Q : Exit → Act → World → Prop} {E : Prop} (hgd : o.guard = none) (s x : Operand)
    (ho : o.op = .call { callee := .builtin .append, args := #[s, x], argTypes := #[36, 36] }) (base : Nat) (v : Value) (n : Nat) (xs : List Value) (hs : a.eval s = v) (hown : w.ownsRow base 5 1 v n xs)
    (ao : Option Addr) (m c : Nat) (ys : List Int) (hx : a.eval x = .slice ao m c) (hm : ys.length = m) (hat : At w ao ys) (hnil : ao = none → m = 0 ∧ c = 0)
    (hbytes : n + m ≤ 140737488355328) (hbase : base ≤ w.heap.size)
    (h : ∀ v' w', w'.ownsRow base 5 1 v' (n + m) (xs ++ ys.map (Value.int .u8)) → w.grownBy w' v.ownBlock → K (a.put o.dst v') w') :
    if Region.wanted o (yielded ops a.tmps) = true then Oper.wp Tryz.prog o a w K Q else E := by
  have hw : Region.wanted o (yielded ops a.tmps) = true := by simp [Region.wanted, hgd]
  rw [if_pos hw]
  obtain ⟨i0, hi, hz0, hz1, hz2⟩ := info_parts Tryz.info5
  cases ao with
  | none =>
    obtain ⟨rfl, rfl⟩ := hnil rfl
    have hrun := run_append_owned_none (P := Tryz.prog) (w := w) base 36 o.type 5 i0 1 Tryz.underlying36 hi v n xs hown
    unfold Oper.wp
    simp [execOp, ho, resolve, invoke, builtin, hs, hx, hrun, Result.andThen]
    have : ys = [] := List.eq_nil_of_length_eq_zero hm
    subst this
    exact h v w (by simpa using hown) (grown_refl w _)
  | some ad =>
    refine wp_append_own _ s x 36 ho base 5 i0 (.int .u8 0) 1 1 Tryz.underlying36 hi hz0 hz1 hz2 rfl (by decide) v n xs hs hown ad m c (ys.map (Value.int .u8)) hx (by simp [hm]) ?_ ?_ (by unfold maxLen; omega) (by omega) hbase (fun v' w' h1 h2 _ => h v' w' h1 h2)
    · intro j u hu
      rw [List.getElem?_map] at hu
      cases hj : ys[j]? with
      | none => simp [hj] at hu
      | some y =>
        simp [hj] at hu
        obtain ⟨a', ha', hc'⟩ := hat j y hj
        cases ha'
        rw [← hu]; exact hc'
    · intro u hu; rw [List.mem_map] at hu; obtain ⟨y, _, rfl⟩ := hu; rfl

theorem slice_lh (ao : Option Addr) (len cap l h : Nat) (h1 : l ≤ h) (h2 : h ≤ cap) (w : World) : (Instr.slice 36 (.slice ao len cap) (some (.int .i64 (l : Int))) (some (.int .i64 (h : Int))) none).run Tryz.prog w = .ok (.slice (cutA ao l cap) (h - l) (cap - l)) w := by
  simp [Instr.slice, run_underlying Tryz.underlying36, Instr.sliceBounds, Instr.sliceBound, asIntOf, h1, h2, cutA]

/-- The cells of the document's reader; what it still has. -/
def drow (bo : Option Addr) (n cap at_ : Nat) (e : Int) : List Value := [.slice bo n cap, .int .i64 (at_ : Int), .int .i64 e]
def restF (b : List Int) (at_ : Nat) (e : Int) : List Int := if e = 0 then b.drop at_ else []

set_option maxHeartbeats 1000000 in
theorem value_any (ao : Option Addr) (n cap : Nat) (xs : List Int) (w : World) (hn : xs.length = n) (hat : At w ao xs) (hB : Byt xs) (h8 : n ≤ 8) :
    Calls Tryz.prog 69 #[.slice ao n cap] w fun e w' => e = .returned (.int .u64 (leV xs)) ∧ w' = w := by
  have HA := hide (And.intro hn hat)
  clear hn hat
  go_enter Tryz.func69, Tryz.ntmps69
  go_wp2
  go_loopg [3, 4] n (fun k v i wr => k ≤ n ∧ i = .int .i64 ((k : Int) - 1) ∧ v = .int .u64 (leV (xs.drop k)) ∧ wr = w)
  case atStart => exact ⟨Nat.le_refl _, by simp, by rw [List.drop_eq_nil_of_le (by have := HA.out.1; omega)]; rfl, rfl⟩
  case round =>
    obtain ⟨hkn, rfl, rfl, rfl⟩ := hrel
    cases gk with
    | succ i =>
      obtain ⟨hn, hat⟩ := HA.out
      have hi : i < xs.length := by omega
      obtain ⟨a, rfl, hc⟩ := hat i xs[i] (by simp [hi])
      have hd : xs.drop i = xs[i] :: xs.drop (i + 1) := List.drop_eq_getElem_cons hi
      have hb := leV_bound (xs.drop (i + 1)) (hB.drop _)
      have hy := hB xs[i] (by simp)
      have hbl : leV (xs.drop (i + 1)) < 72057594037927936 := by
        refine Int.lt_of_lt_of_le hb.2 ?_
        rw [List.length_drop]
        have h4 : (2 : Nat) ^ (8 * (xs.length - (i + 1))) ≤ 2 ^ 56 := Nat.pow_le_pow_right (by omega) (by omega)
        have h5 : ((2 ^ (8 * (xs.length - (i + 1))) : Nat) : Int) ≤ ((2 ^ 56 : Nat) : Int) := Int.ofNat_le.2 h4
        simpa using h5
      have hb0 := hb.1
      have HD : Hid (leV (xs.drop i) = xs[i] + 256 * leV (xs.drop (i + 1))) := by show _ = _; rw [hd, leV]
      clear hb hd hn hat
      generalize leV (xs.drop (i + 1)) = V at *
      generalize xs[i] = X at *
      have hslot : ((i + 1 : Nat) : Int) - 1 = (i : Int) := by omega
      rw [hslot]
      have hge : (0 : Int) ≤ (i : Int) := by omega
      have hlt : (i : Int) < (n : Int) := by omega
      go_wp2
      go_roundg i
      case measure => omega
      case rel =>
        refine ⟨by omega, rfl, ?_, rfl⟩
        rw [HD.out]
        congr 1
        omega
    | zero =>
      go_wp2
      go_ret
      rw [List.drop_zero]
      exact ⟨rfl, rfl⟩

/-- What the document's reader comes to. -/
theorem restF_take (b : List Int) (at_ : Nat) (e n : Int) (h : at_ ≤ b.length) : ∃ at' e', at' ≤ b.length ∧ takeF (restF b at_ e) e n = ((takeF (restF b at_ e) e n).1, restF b at' e', e') ∧
    ((e ≠ 0 ∧ at' = at_ ∧ e' = e) ∨ (e = 0 ∧ n < 0 ∧ at' = at_ ∧ e' = 2) ∨ (e = 0 ∧ 0 ≤ n ∧ (b.length : Int) - (at_ : Int) < n ∧ at' = at_ ∧ e' = 4) ∨ (e = 0 ∧ 0 ≤ n ∧ n ≤ (b.length : Int) - (at_ : Int) ∧ at' = at_ + n.toNat ∧ e' = 0)) := by
  by_cases he : e = 0
  · subst he
    by_cases hn : n < 0
    · exact ⟨at_, 2, h, by simp [takeF, restF, hn], Or.inr (Or.inl ⟨rfl, hn, rfl, rfl⟩)⟩
    · by_cases hl : (b.length : Int) - (at_ : Int) < n
      · have h2 : ((b.length - at_ : Nat) : Int) < n := by omega
        exact ⟨at_, 4, h, by simp [takeF, restF, hn, h2], Or.inr (Or.inr (Or.inl ⟨rfl, by omega, hl, rfl, rfl⟩))⟩
      · have h2 : ¬ ((b.length - at_ : Nat) : Int) < n := by omega
        refine ⟨at_ + n.toNat, 0, by omega, ?_, Or.inr (Or.inr (Or.inr ⟨rfl, by omega, by omega, rfl, rfl⟩))⟩
        simp [takeF, restF, hn, h2]
  · exact ⟨at_, e, h, by simp [takeF, restF, he], Or.inl ⟨he, rfl, rfl⟩⟩

end Go.Proofs.YtonokaelbpfjnaaGreatDoor.Fm
