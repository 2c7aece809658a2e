/- Texts joined: SlLa, SlX. -/
import Derived.Test.YtonokaelbpfjnaaDoorJnAw
import Derived.Test.YtonokaelbpfjnaaDoorCards
import Derived.Test.YtonokaelbpfjnaaDoorTie
import Derived.ProofKit
import Derived.OpenShut
import Derived.Deep.DeepHandedRow
import Derived.Lib.LaidTab
import Derived.ChangeOld
import Derived.SizedLaws
import Derived.Deep.CutRange
import Derived.Deep.DeepCutAuto
/- What the rows' listed table gives; a world for the witnesses; arguments that are rows of bytes: shared by the rows' proofs. -/
namespace Go.Proofs.YtonokaelbpfjnaaDoor
open Go.ChangeShapes Go.WideShapes Go.ChangeAt Go.RowKit Go.Deep Ap

theorem seat_own : ownKnob Tryd.prog.godebug = none := by kernel_rfl
theorem seat_laid : laidOutB Tryd.prog = true := by kernel_rfl
theorem gTab : Tryd.prog.globalNamed "gangway/crc.four" = some 0 := by kernel_rfl
theorem gTabType : (Tryd.prog.globals[0]?).map (·.type) = some 149 := by kernel_rfl
theorem cells149 : Tryd.prog.cellsOf 149 = 16 := by kernel_rfl
theorem cells33 : Tryd.prog.cellsOf 33 = 1 := by kernel_rfl
theorem cellsOf5 : Tryd.prog.cellsOf 5 = 1 := by kernel_rfl
theorem bytes5 : Tryd.prog.bytesOf 5 = 1 := by kernel_rfl
def tabL : List Int := [0, 498536548, 997073096, 651767980, 1994146192, 1802195444, 1303535960, 1342533948, 3988292384, 4027552580, 3604390888, 3412177804, 2607071920, 2262029012, 2685067896, 3183342108]
theorem tabL_at : ∀ j, j < 16 → tabL.getD j 0 = ((Fm.Cr.Poly.steps 4 j : Nat) : Int) := by decide
theorem table {W : World} (h : laidMetH Tryd.prog [("gangway/crc.four", Rows.laid_gangway_crc_four)] W) : Fm.Cr.Tab W := by
  have ht : Lib.TabIs Tryd.prog W "gangway/crc.four" .u32 tabL := Lib.tabIs_of_head (rest := []) gTab gTabType Tryd.underlying149 Tryd.underlying33 cells33 cells149 h
  intro j hj
  rw [← tabL_at j hj]
  exact ht.cell gTab j hj
theorem grown_below {a b : World} (h : a.grownBy b none) : Below a.heap.size a b := ⟨h.os, h.tape, h.output, h.size, fun k hk => h.block k hk (fun e => by cases e)⟩

/-- A world for the witness: the table (block 0) holding what its initialiser lays. -/
noncomputable def laidWorld (os : Os) : World :=
  { World.holding Tryd.prog os ⟨#[], #[], []⟩ with heap := (World.holding Tryd.prog os ⟨#[], #[], []⟩).heap.modify 0 fun
      | .cells _ t frozen => .cells (tabL.map (Value.int .u32)).toArray t frozen
      | o => o }

variable {H : Type} {enc : TypeId × Value → H}
set_option maxRecDepth 20000 in
/-- An argument that is a slice of bytes. -/
theorem open_bytesArg {w : World} {base : Nat} {spare : Nat → Bool} {held : Bool} {r : Reach} {b0 : Nat} {v : Value} {d : DataW H} {ps : List MemPlace} (hval : Value.okWide Tryd.prog w r b0 22 v) (hd : DataW.Trod enc Tryd.prog w base spare held 22 v d ps) (hz : ∀ n ∈ d.weights Tryd.prog 22, n ≤ reachBytes) :
    ∃ (ao : Option Addr) (n cap : Nat) (xs : List Nat), v = .slice ao n cap ∧ xs.length = n ∧ At w ao xs ∧ Bytes xs ∧ n ≤ 140737488351232 ∧ (ao = none → n = 0 ∧ cap = 0) ∧ n ≤ cap ∧ cap ≤ maxLen := by
  obtain ⟨ao, len0, cap0, rfl⟩ := okWide_slice Tryd.underlying22 hval
  obtain ⟨fuel, hf⟩ := hd
  refine ⟨ao, len0, cap0, ?_⟩
  rcases open_ints Tryd.underlying22 Tryd.underlying5 cellsOf5 hf with ⟨hcs, _⟩ | ⟨a, len, cap, zs, hcs, _, hl, hm, hzz, hx, hcell, hwf⟩
  · simp [Value.cells] at hcs
    obtain ⟨rfl, rfl, rfl⟩ := hcs
    exact ⟨[], rfl, rfl, At.nil _ _, (fun x hx => by cases hx), by omega, fun _ => ⟨rfl, rfl⟩, by omega, by unfold maxLen; omega⟩
  · simp [Value.cells] at hcs
    obtain ⟨rfl, rfl, rfl⟩ := hcs
    have hd : d = .slice (lits .u8 (zs.take len0)) (lits .u8 (zs.drop len0)) := congrArg Prod.fst hx
    have h1 := hz ((lits .u8 (zs.take len0) : List (DataW H)).length * 1 + (lits .u8 (zs.drop len0) : List (DataW H)).length * 1) (by
      rw [hd]; simp [DataW.weights, Tryd.underlying22, bytes5])
    simp only [lits, List.length_map, List.length_take, List.length_drop, reachBytes] at h1
    have hzl : len0 ≤ zs.length := by rw [hzz]; split <;> omega
    refine ⟨(zs.take len0).map Int.toNat, rfl, by simp; omega, ?_, ?_, by omega, (fun e => by cases e), hl, hm⟩
    · intro j u hu
      rw [List.getElem?_map, List.getElem?_take] at hu
      split at hu
      · rename_i hj
        have hj2 : j < zs.length := by omega
        rw [List.getElem?_eq_getElem hj2] at hu
        have hc := hcell j hj2
        have hb := bounds_u8 (hwf zs[j] (List.getElem_mem hj2))
        refine ⟨a, rfl, ?_⟩
        rw [hc]
        simp [List.getD_eq_getElem?_getD, hj2] at hu ⊢
        omega
      · cases hu
    · intro x hx
      rw [List.mem_map] at hx
      obtain ⟨y, hy, rfl⟩ := hx
      have := bounds_u8 (hwf y (List.mem_of_mem_take hy))
      omega
end Go.Proofs.YtonokaelbpfjnaaDoor
/- SlotsNone: the walk. -/
namespace Go.Proofs.YtonokaelbpfjnaaDoor
open Go.RowKit Ap
attribute [local go_sem ↓] Go.wp_at_zero Go.wp_at_succ
theorem NoSlots.grown {w w' : World} {p : Option Addr} (h : NoSlots w p) (hg : w.grownBy w' none) : NoSlots w' p := by
  rcases h with e | ⟨s, c1, e, h1⟩
  · exact .inl e
  · exact .inr ⟨s, c1, e, (hg.block _ (row_lt h1) (by simp)).trans h1⟩
/-- A box of four that is laid last; one that was laid ahead. -/
theorem meetA {w4 w6 : World} (a b c d : Value) (G : w4.grownBy w6 none) : w4.grownBy (w6.alloc (.cells #[a, b, c, d] 35)) none ∧ (w6.alloc (.cells #[a, b, c, d] 35)).heap[w6.heap.size]? = some (.cells [a, b, c, d].toArray 35 (0, 0)) :=
  ⟨grown_trans G (World.grownBy_alloc _ _ none), heap_alloc_new w6 _⟩
theorem meetB {w4 w6 : World} {K : Nat} (a b c d : Value) {u v x y : Value} (G : w4.grownBy w6 none) (R : w6.heap[K]? = some (.cells [u, v, x, y].toArray 35 (0, 0))) (hK : w4.heap.size ≤ K) :
    w4.grownBy ((((w6.setCell ⟨K, 0, none⟩ a).setCell ⟨K, 1, none⟩ b).setCell ⟨K, 2, none⟩ c).setCell ⟨K, 3, none⟩ d) none ∧ ((((w6.setCell ⟨K, 0, none⟩ a).setCell ⟨K, 1, none⟩ b).setCell ⟨K, 2, none⟩ c).setCell ⟨K, 3, none⟩ d).heap[K]? = some (.cells [a, b, c, d].toArray 35 (0, 0)) := by
  obtain ⟨eb, eg⟩ := Fm.set4 R a b c d
  exact ⟨grown_then G eg (fun i e => by cases e; exact Or.inl hK), eb⟩
set_option maxRecDepth 20000 in
set_option maxHeartbeats 8000000 in
theorem slotsNone_any (ao : Option Addr) (m cap : Nat) (xs : List Nat) (hm : xs.length = m) (_hcap : m ≤ cap) (_hm2 : cap ≤ maxLen) (hnil : ao = none → m = 0 ∧ cap = 0) (hbig : m ≤ 140737488351232) (cov : Int) (w : World) (hat : At w ao xs) (hT : Fm.Cr.Tab w) :
    Calls Tryd.prog 3 #[.slice ao m cap, .int .u64 cov] w fun e w' => e = .returned (.bool true) ∧ w.grownBy w' none := by
  have A := hide (awake_any w hT)
  have HA := hide (And.intro hat (And.intro hT hm))
  clear hat hT
  go_enter Tryd.func3, Tryd.ntmps3
  go_wp2_with fail
  refine A.out.mono ?_
  rintro e w1 ⟨rfl, g1⟩
  have G1 := hide g1
  clear g1 A
  have bE := heap_alloc_new w1 (.cells #[.pointer none, .pointer none] 31)
  have gE := World.grownBy_alloc w1 (.cells #[.pointer none, .pointer none] 31) none
  have bL := heap_alloc_new (w1.alloc (.cells #[.pointer none, .pointer none] 31)) (.cells #[.pointer none, .pointer (some ⟨w1.heap.size, 0, none⟩)] 25)
  have gL := World.grownBy_alloc (w1.alloc (.cells #[.pointer none, .pointer none] 31)) (.cells #[.pointer none, .pointer (some ⟨w1.heap.size, 0, none⟩)] 25) none
  rw [World.size_alloc] at bL
  have bE' := (gL.block _ (row_lt bE) (by simp)).trans bE
  have HB := hide (And.intro bE' (And.intro bL (grown_trans G1.out (grown_trans gE gL))))
  clear bE gE bL gL bE'
  go_wp2
  generalize w1.heap.size = E at *
  generalize ((w1.alloc (.cells #[.pointer none, .pointer none] 31)).alloc (.cells #[.pointer none, .pointer (some ⟨E, 0, none⟩)] 25)) = w2 at *
  go_loopg [7] 2 (fun k i wr => ∃ j : Nat, k + j = 2 ∧ i = .int .i64 (j : Int) ∧ wr.heap[E]? = some (.cells [Value.pointer none, .pointer none].toArray 31 (0, 0)) ∧ wr.heap[E + 1]? = some (.cells [Value.pointer none, .pointer (some ⟨E, 0, none⟩)].toArray 25 (0, 0)) ∧ w.grownBy wr none)
  case atStart => exact ⟨0, by omega, rfl, HB.out.1, HB.out.2.1, HB.out.2.2⟩
  case round =>
    obtain ⟨j, hkj, rfl, hbE, hbL, hg⟩ := hrel
    by_cases hk : 0 < gk
    · obtain ⟨pj, hpc, hno⟩ : ∃ pj : Option Addr, wr.cell? ⟨E + 1, j, none⟩ = some (.pointer pj) ∧ NoSlots wr pj := by
        rcases (show j = 0 ∨ j = 1 by omega) with rfl | rfl
        · exact ⟨none, cell_row hbL 0, .inl rfl⟩
        · exact ⟨some ⟨E, 0, none⟩, cell_row hbL 1, .inr ⟨E, _, rfl, hbE⟩⟩
      have HC := hide (And.intro hbE (And.intro hbL (And.intro hg (And.intro hpc hno))))
      have hj0 : (0 : Int) ≤ (j : Int) := by omega
      have hj1 : (j : Int) < 2 := by omega
      clear hbE hbL hg
      go_wp2_with fail
      refine (load_no hno).mono ?_
      rintro e w3 ⟨rfl, g3⟩
      have g4 := World.grownBy_alloc w3 (.cells #[.int .u64 0, .int .u64 0, .int .i64 0, .int .u32 0] 35) none
      have b4 : (w3.alloc (.cells #[.int .u64 0, .int .u64 0, .int .i64 0, .int .u32 0] 35)).heap[w3.heap.size]? = some (.cells [Value.int .u64 0, .int .u64 0, .int .i64 0, .int .u32 0].toArray 35 (0, 0)) := heap_alloc_new w3 _
      obtain ⟨H, hH⟩ : ∃ H, w3.heap.size = H := ⟨_, rfl⟩
      rw [hH] at b4
      have G4 := hide (And.intro (grown_trans g3 g4) b4)
      have hpc4 := (grown_trans g3 g4).cell hpc (by simp)
      clear g3 g4 b4 hpc hno
      go_wp2_with fail
      clear hH
      generalize (w3.alloc (.cells #[.int .u64 0, .int .u64 0, .int .i64 0, .int .u32 0] 35)) = w4 at *
      have HCp : Hid (∀ w5 : World, w4.grownBy w5 none → Calls Tryd.prog 8 #[.slice ao m cap] w5 fun e w' => ∃ v, e = .returned v ∧ w5.grownBy w' none) := fun w5 g5 => by
        refine (copyBytes_any ao m cap xs w5 HA.out.2.2 (((HA.out.1.grown HC.out.2.2.1).grown G4.out.1).grown g5) hnil (by omega)).mono ?_
        rintro e w' ⟨v, rfl, _, g⟩
        exact ⟨v, rfl, g⟩
      have HSv : Hid (∀ w5 : World, w4.grownBy w5 none → ∀ v, Calls Tryd.prog 7 #[.pointer pj, v, .int .u64 cov] w5 fun e w' => e = .returned (.tuple #[.agg #[.int .u64 0, .int .u64 0, .int .i64 0, .int .u32 0], .int .i64 1]) ∧ w5.grownBy w' none) := fun w5 g5 v => save_no ((HC.out.2.2.2.2.grown G4.out.1).grown g5) v cov
      have hpc5 := (grown_drew w4 none).cell hpc4 (by simp)
      have hpc6 := (World.grownBy_alloc w4 (.cells #[.int .u64 0, .int .u64 0, .int .i64 0, .int .u32 0] 35) none).cell hpc4 (by simp)
      go_cut [12, 13] from 49 to 59 (fun s12 s13 wx => ∃ K, s12 = .pointer (some ⟨K, 0, none⟩) ∧ s13 = .int .i64 1 ∧ Hid (w4.grownBy wx none ∧ wx.heap[K]? = some (.cells [Value.int .u64 0, .int .u64 0, .int .i64 0, .int .u32 0].toArray 35 (0, 0))))
      case first =>
       go_region_law (go_simp; go_wp2_with (first | (go_at_call 8; refine (HCp.out _ (by first | exact grown_drew w4 none | exact grown_trans (World.grownBy_alloc w4 _ none) (grown_drew _ none))).mono ?_; rintro e5 w5 ⟨v5, rfl, g5⟩; (first | (have hk5 := (grown_trans (grown_drew w4 none) g5).cell hpc4 (by simp); have G5 := hide (grown_trans (grown_drew w4 none) g5)) | (have hk5 := (grown_trans (grown_trans (World.grownBy_alloc w4 _ none) (grown_drew _ none)) g5).cell hpc4 (by simp); have G5 := hide (grown_trans (grown_trans (World.grownBy_alloc w4 _ none) (grown_drew _ none)) g5); have rK : w5.heap[w4.heap.size]? = some (.cells [Value.int .u64 0, .int .u64 0, .int .i64 0, .int .u32 0].toArray 35 (0, 0)) := (g5.block _ (row_lt (heap_alloc_new w4 _)) (by simp)).trans (heap_alloc_new w4 _))); have hk5b := (World.grownBy_alloc w5 (.cells #[.int .u64 0, .int .u64 0, .int .i64 0, .int .u32 0] 35) none).cell hk5 (by simp); clear g5) | (go_at_call 7; refine (HSv.out _ (by first | exact G5.out | exact grown_trans G5.out (World.grownBy_alloc _ _ none)) v5).mono ?_; rintro e6 w6 ⟨rfl, g6⟩; (first | (have rK6 : w6.heap[w4.heap.size]? = some (.cells [Value.int .u64 0, .int .u64 0, .int .i64 0, .int .u32 0].toArray 35 (0, 0)) := (g6.block _ (row_lt rK) (by simp)).trans rK; obtain ⟨k0, k1, k2, k3⟩ := Fm.box4 rK6; have j0 := free_row rK6 0; have j1 := free_row rK6 1; have j2 := free_row rK6 2; have j3 := free_row rK6 3; have RK := hide rK6; have G6 := hide (grown_trans G5.out g6); clear rK6) | (have rK6 : w6.heap[w5.heap.size]? = some (.cells [Value.int .u64 0, .int .u64 0, .int .i64 0, .int .u32 0].toArray 35 (0, 0)) := (g6.block _ (row_lt (heap_alloc_new w5 _)) (by simp)).trans (heap_alloc_new w5 _); obtain ⟨k0, k1, k2, k3⟩ := Fm.box4 rK6; have j0 := free_row rK6 0; have j1 := free_row rK6 1; have j2 := free_row rK6 2; have j3 := free_row rK6 3; have RK := hide rK6; have G6 := hide (grown_trans (grown_trans G5.out (World.grownBy_alloc _ _ none)) g6); clear rK6) | (have G6 := hide (grown_trans G5.out g6))); clear g6)))
       all_goals
        go_wp2
        go_meet
        case rel => first | exact ⟨_, rfl, rfl, meetA _ _ _ _ G6.out⟩ | exact ⟨_, rfl, rfl, meetB _ _ _ _ G6.out RK.out (Nat.le_refl _)⟩ | exact ⟨_, rfl, rfl, meetB _ _ _ _ G6.out RK.out G5.out.size⟩
      case rest =>
      obtain ⟨K, rfl, rfl, HK⟩ := hcut
      have bH := (HK.out.1.block _ (row_lt G4.out.2) (by simp)).trans G4.out.2
      obtain ⟨h0, h1, h2, h3⟩ := Fm.box4 bH
      obtain ⟨k0, k1, k2, k3⟩ := Fm.box4 HK.out.2
      have hpcc := HK.out.1.cell hpc4 (by simp)
      have HBy := hide (sBytes_no ((HC.out.2.2.2.2.grown G4.out.1).grown HK.out.1))
      have gc := grown_trans G4.out.1 HK.out.1
      have HR : Hid (wc.heap[E]? = some (.cells [Value.pointer none, .pointer none].toArray 31 (0, 0)) ∧ wc.heap[E + 1]? = some (.cells [Value.pointer none, .pointer (some ⟨E, 0, none⟩)].toArray 25 (0, 0)) ∧ w.grownBy wc none) :=
        ⟨(gc.block _ (row_lt HC.out.1) (by simp)).trans HC.out.1, (gc.block _ (row_lt HC.out.2.1) (by simp)).trans HC.out.2.1, grown_trans HC.out.2.2.1 gc⟩
      clear gc bH hpc4 hpc5 hpc6 HK HC G4 HCp HSv
      go_wp2_with fail
      refine HBy.out.mono ?_
      rintro e wd ⟨rfl, hwd⟩
      obtain rfl := hwd.symm
      go_wp2
      go_roundg (gk - 1)
      case measure => omega
      case rel => exact ⟨j + 1, by omega, by go_num, HR.out⟩
    · have hj : j = 2 := by omega
      subst hj
      have HG := hide hg
      clear hbE hbL hg hkj hk HB HA
      go_wp2_with fail
      refine (newS 10 64 w wr HG.out may1064).mono ?_
      rintro e w3 ⟨k, rfl, hdk, g3, hown⟩
      have G3 := hide (And.intro (grown_trans HG.out g3) hdk)
      clear g3 hdk hown HG
      go_wp2_with fail
      refine (dnew_any rfl G3.out.2).mono ?_
      rintro e w4 ⟨b, rfl, hdv, hb, g4⟩
      have G4 := hide (And.intro (grown_trans G3.out.1 g4) hdv)
      clear g4 hdv hb G3
      go_wp2_with fail
      refine (gnew_at G4.out.2 0 3 (by refine ⟨?_, ?_, ?_⟩ <;> omega)).mono ?_
      rintro e w5 ⟨r, rfl, hr, hl, g5⟩
      have G5 := hide (And.intro (grown_trans G4.out.1 g5) (And.intro (G4.out.2.then g5) hr))
      clear g5 hr hl G4
      go_wp2_with fail
      refine (sNew_no1 (.inl rfl) _).mono ?_
      rintro e w6 ⟨rfl, hw6⟩
      obtain rfl := hw6.symm
      have HN2 := hide (sNew_no2 (p := none) G5.out.2.1 G5.out.2.2 (by decide) (by decide) (by decide) (fun q => .inl rfl))
      unfold rp at HN2
      go_wp2_with fail
      refine HN2.out.mono ?_
      rintro e w7 ⟨rfl, g7⟩
      have G7 := hide (grown_trans G5.out.1 g7)
      clear g7 G5 HN2
      go_wp2_with fail
      have g8 := World.grownBy_alloc w7 (.cells #[.pointer none, .int .i64 0, .int .i64 0] 58) none
      have b8 := heap_alloc_new w7 (.cells [Value.pointer none, .int .i64 0, .int .i64 0].toArray 58)
      have HN3 := hide (sNew_no1 (p := some ⟨w7.heap.size, 0, none⟩) (.inr ⟨_, rfl, cell_row b8 0⟩) (.pointer (some ⟨r, 0, none⟩)))
      have G8 := hide (grown_trans G7.out g8)
      clear g8 b8 G7
      refine HN3.out.mono ?_
      rintro e w9 ⟨rfl, hw9⟩
      obtain rfl := hw9.symm
      clear HN3
      go_wp2
      go_ret
      exact ⟨rfl, G8.out⟩
end Go.Proofs.YtonokaelbpfjnaaDoor
