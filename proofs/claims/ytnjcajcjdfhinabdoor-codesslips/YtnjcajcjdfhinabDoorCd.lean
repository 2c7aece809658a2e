/- The contracts of Text and Near. -/
import Derived.Test.YtnjcajcjdfhinabDoorCc
import Derived.Laws.IdiomStrings
namespace Go.Proofs.YtnjcajcjdfhinabDoor
open Go.RowKit Cn
attribute [local go_sem ↓] Go.wp_at_zero Go.wp_at_succ

/-- The bytes written so far. -/
def tk (l : List Nat) (j : Nat) : List Nat := (List.range 8).map fun p => if p < j then (lt (l.getD p 0)).toNat else 0
theorem tk_len (l : List Nat) (j : Nat) : (tk l j).length = 8 := by simp [tk]
theorem tk_zero (l : List Nat) : tk l 0 = [0, 0, 0, 0, 0, 0, 0, 0] := rfl
theorem tk_step {l : List Nat} {j x : Nat} (hj : j < 8) (h : l[j]? = some x) : (tk l j).set j (lt x).toNat = tk l (j + 1) := by
  apply List.ext_getElem?
  intro i
  rw [List.getElem?_set, tk_len]
  by_cases hi : i < 8
  · unfold tk
    simp only [List.getElem?_map, List.getElem?_range hi, Option.map_some]
    by_cases e : j = i
    · subst e
      rw [if_pos rfl, if_pos hj, if_pos (by omega), List.getD_eq_getElem?_getD, h]; rfl
    · rw [if_neg e]
      by_cases e2 : i < j
      · rw [if_pos e2, if_pos (by omega)]
      · rw [if_neg e2, if_neg (by omega)]
  · rw [List.getElem?_eq_none (by rw [tk_len]; omega), List.getElem?_eq_none (by rw [tk_len]; omega), if_neg (by omega)]
theorem tk_all {l : List Nat} (h : l.length = 8) : tk l 8 = (l.map lt).map UInt8.toNat := by
  apply List.ext_getElem?
  intro i
  by_cases hi : i < 8
  · unfold tk
    have hx : i < l.length := by omega
    simp only [List.getElem?_map, List.getElem?_range hi, Option.map_some, List.getElem?_eq_getElem hx, if_pos hi, List.getD_eq_getElem?_getD, Option.getD_some]
  · rw [List.getElem?_eq_none (by rw [tk_len]; omega), List.getElem?_eq_none (by simp; omega)]
theorem lets_at {d : Nat} (h : d < 32) : lets[d]? = some (lt d) := by
  unfold lt
  rw [List.getD_eq_getElem?_getD, List.getElem?_eq_getElem (by rw [lets_len]; exact h)]
  rfl
theorem lets_index {d : Nat} (h : d < 32) (w : World) : (Instr.index 9 (.string ⟨#[50, 51, 52, 53, 54, 55, 56, 57, 65, 66, 67, 68, 69, 70, 71, 72, 74, 75, 76, 77, 78, 80, 81, 82, 83, 84, 85, 86, 87, 88, 89, 90]⟩) (.int .u8 (d : Int))).run Tryd.prog w = .ok (.int .u8 ((lt d).toNat : Int)) w := by
  have h1 : (d : Int) < ((⟨lets.toArray⟩ : ByteArray).size : Int) := by rw [size_str, lets_len]; omega
  rw [show (⟨#[50, 51, 52, 53, 54, 55, 56, 57, 65, 66, 67, 68, 69, 70, 71, 72, 74, 75, 76, 77, 78, 80, 81, 82, 83, 84, 85, 86, 87, 88, 89, 90]⟩ : ByteArray) = ⟨lets.toArray⟩ from rfl, run_index_string w 9 ⟨lets.toArray⟩ .u8 _ Tryd.underlying9, dif_pos ⟨by omega, h1⟩]
  have h2 : lets.toArray[d]? = some (lt d) := by simp [lets_at h]
  obtain ⟨h4, h5⟩ := Array.getElem?_eq_some_iff.1 h2
  congr 3
  exact congrArg UInt8.toNat h5

theorem row_new (w : World) : rowOk (w.alloc (.cells #[.int .u8 0, .int .u8 0, .int .u8 0, .int .u8 0, .int .u8 0, .int .u8 0, .int .u8 0, .int .u8 0] 33)) w.heap.size := ⟨_, _, heap_alloc_new w _, rfl⟩
theorem setRow_size (w : World) (g : Nat) (c : Array Value) : (w.setRow g c).heap.size = w.heap.size := by simp [World.setRow]
theorem add0 (b i : Nat) : (⟨b, 0, none⟩ : Addr).add i = ⟨b, i, none⟩ := by
  unfold Addr.add
  split
  · rename_i h; subst h; rfl
  · simp
theorem two_new (w : World) (l m : List Nat) : rowOk ((w.alloc (.cells #[.int .u8 0, .int .u8 0, .int .u8 0, .int .u8 0, .int .u8 0, .int .u8 0, .int .u8 0, .int .u8 0] 33)).alloc (.cells #[.int .u8 0, .int .u8 0, .int .u8 0, .int .u8 0, .int .u8 0, .int .u8 0, .int .u8 0, .int .u8 0] 33)) w.heap.size ∧ rowOk (((w.alloc (.cells #[.int .u8 0, .int .u8 0, .int .u8 0, .int .u8 0, .int .u8 0, .int .u8 0, .int .u8 0, .int .u8 0] 33)).alloc (.cells #[.int .u8 0, .int .u8 0, .int .u8 0, .int .u8 0, .int .u8 0, .int .u8 0, .int .u8 0, .int .u8 0] 33)).setRow w.heap.size (cs l).toArray) (w.heap.size + 1)
    ∧ ((((w.alloc (.cells #[.int .u8 0, .int .u8 0, .int .u8 0, .int .u8 0, .int .u8 0, .int .u8 0, .int .u8 0, .int .u8 0] 33)).alloc (.cells #[.int .u8 0, .int .u8 0, .int .u8 0, .int .u8 0, .int .u8 0, .int .u8 0, .int .u8 0, .int .u8 0] 33)).setRow w.heap.size (cs l).toArray).setRow (w.heap.size + 1) (cs m).toArray).heap[w.heap.size]? = some (.cells (cs l).toArray 33 (0, 0)) ∧ ((((w.alloc (.cells #[.int .u8 0, .int .u8 0, .int .u8 0, .int .u8 0, .int .u8 0, .int .u8 0, .int .u8 0, .int .u8 0] 33)).alloc (.cells #[.int .u8 0, .int .u8 0, .int .u8 0, .int .u8 0, .int .u8 0, .int .u8 0, .int .u8 0, .int .u8 0] 33)).setRow w.heap.size (cs l).toArray).setRow (w.heap.size + 1) (cs m).toArray).heap[w.heap.size + 1]? = some (.cells (cs m).toArray 33 (0, 0))
    ∧ w.grownBy ((((w.alloc (.cells #[.int .u8 0, .int .u8 0, .int .u8 0, .int .u8 0, .int .u8 0, .int .u8 0, .int .u8 0, .int .u8 0] 33)).alloc (.cells #[.int .u8 0, .int .u8 0, .int .u8 0, .int .u8 0, .int .u8 0, .int .u8 0, .int .u8 0, .int .u8 0] 33)).setRow w.heap.size (cs l).toArray).setRow (w.heap.size + 1) (cs m).toArray) none := by
  obtain ⟨h1, h2, h3⟩ := alloc2 w (.cells #[.int .u8 0, .int .u8 0, .int .u8 0, .int .u8 0, .int .u8 0, .int .u8 0, .int .u8 0, .int .u8 0] 33) (.cells #[.int .u8 0, .int .u8 0, .int .u8 0, .int .u8 0, .int .u8 0, .int .u8 0, .int .u8 0, .int .u8 0] 33)
  have k1 := setRow_heap _ _ _ (cs l).toArray 33 _ h1
  have k2 := (setRow_other ((w.alloc (.cells #[.int .u8 0, .int .u8 0, .int .u8 0, .int .u8 0, .int .u8 0, .int .u8 0, .int .u8 0, .int .u8 0] 33)).alloc (.cells #[.int .u8 0, .int .u8 0, .int .u8 0, .int .u8 0, .int .u8 0, .int .u8 0, .int .u8 0, .int .u8 0] 33)) w.heap.size (w.heap.size + 1) (cs l).toArray (by omega)).trans h2
  refine ⟨⟨_, _, h1, rfl⟩, ⟨_, _, k2, rfl⟩, (setRow_other _ _ _ _ (by omega)).trans k1, setRow_heap _ _ _ _ 33 _ k2, ?_⟩
  exact grown_new (grown_new h3 (grown_setRow _ _ _) (Nat.le_refl _)) (grown_setRow _ _ _) (by omega)
/-- A row that is laid and filled at once. -/
theorem laid_new (w : World) (l : List Nat) : ((w.alloc (.cells #[.int .u8 0, .int .u8 0, .int .u8 0, .int .u8 0, .int .u8 0, .int .u8 0, .int .u8 0, .int .u8 0] 33)).setRow w.heap.size (cs l).toArray).heap[w.heap.size]? = some (.cells (cs l).toArray 33 (0, 0)) ∧ ((w.alloc (.cells #[.int .u8 0, .int .u8 0, .int .u8 0, .int .u8 0, .int .u8 0, .int .u8 0, .int .u8 0, .int .u8 0] 33)).setRow w.heap.size (cs l).toArray).heap.size = w.heap.size + 1 ∧ w.grownBy ((w.alloc (.cells #[.int .u8 0, .int .u8 0, .int .u8 0, .int .u8 0, .int .u8 0, .int .u8 0, .int .u8 0, .int .u8 0] 33)).setRow w.heap.size (cs l).toArray) none :=
  ⟨setRow_heap _ _ _ _ 33 _ (heap_alloc_new w _), by rw [setRow_size, alloc_size], grown_new (grown_alloc w _) (grown_setRow _ _ _) (Nat.le_refl _)⟩
section
attribute [local go_sem ↓] wp_load37 wp_store37
attribute [local go_sem] blkOf_ptr offOf_ptr isPtr_ptr
set_option maxRecDepth 100000 in
set_option maxHeartbeats 2000000 in
theorem text_any (id : Nat) (hid : id < 4294967296) (w : World) (hT : Tab w) :
    Calls Tryd.prog 5 #[.int .u32 (id : Int)] w fun e w' => e = .returned (str (tx id)) ∧ w.grownBy w' none := by
  have HW := hide (worthsOf_any id hid w hT)
  obtain ⟨l, hl⟩ : ∃ l, l = wo id := ⟨_, rfl⟩
  have hlen : l.length = 8 := by rw [hl]; rfl
  have hlow : Low l := by rw [hl]; exact wo_low id
  have htx : tx id = l.map lt := by rw [hl]; rfl
  rw [← hl] at HW
  rw [htx]
  have HL := hide (And.intro hlen hlow)
  unfold arr at HW
  clear hl hT hid htx hlen hlow
  go_enter Tryd.func5, Tryd.ntmps5
  go_wp2_with fail
  refine HW.out.mono ?_
  rintro e w1 ⟨rfl, hg1⟩
  have hw1 := hide hg1
  clear hg1
  have hagg := cs_agg l HL.out.1
  have hrk := row_new w1
  go_wp2
  go_loopg [8] 8 (fun k i wr => ∃ j : Nat, k + j = 8 ∧ i = .int .i64 (j : Int) ∧ wr.heap[w1.heap.size]? = some (.cells (cs l).toArray 33 (0, 0)) ∧ wr.heap[w1.heap.size + 1]? = some (.cells (cs (tk l j)).toArray 32 (0, 0)) ∧ w1.grownBy wr none)
  case atStart =>
    obtain ⟨h1, h2, h3⟩ := laid_new w1 l
    have h4 := heap_alloc_new ((w1.alloc (.cells #[.int .u8 0, .int .u8 0, .int .u8 0, .int .u8 0, .int .u8 0, .int .u8 0, .int .u8 0, .int .u8 0] 33)).setRow w1.heap.size (cs l).toArray) (.cells (cs (tk l 0)).toArray 32)
    rw [h2] at h4
    exact ⟨0, by omega, rfl, heap_kept h1 (grown_alloc _ _) (by simp), h4, grown_trans h3 (grown_alloc _ _)⟩
  case round =>
    obtain ⟨j, hkj, rfl, h1, h2, hg⟩ := hrel
    obtain ⟨hlen, hlow⟩ := HL.out
    have hj0 : (0 : Int) ≤ (j : Int) := by omega
    by_cases hk : 0 < gk
    · have hj : j < 8 := by omega
      have hj1 : (j : Int) < 8 := by omega
      have hjl : j < l.length := by omega
      have hx := hlow _ (List.getElem_mem hjl)
      have hcell := (cell_row h1 j).trans (cs_get l hjl)
      have hset := cs_set (tk l j) j (lt l[j]).toNat
      rw [tk_step hj (List.getElem?_eq_getElem hjl)] at hset
      have hix := lets_index hx
      obtain ⟨bb, hcu⟩ : ∃ bb : Nat, wr.cell? ⟨w1.heap.size + 1, j, none⟩ = some (.int .u8 (bb : Int)) := ⟨_, (cell_row h2 j).trans (cs_get _ (by rw [tk_len]; omega))⟩
      have hfu : wr.frozen? ⟨w1.heap.size + 1, j, none⟩ = false := free_row h2 _
      have HR := hide (And.intro hset (And.intro h1 (And.intro h2 hg)))
      generalize (lt l[j]).toNat = y at *
      generalize l[j] = x at *
      have hx0 : (0 : Int) ≤ (x : Int) := by omega
      clear h1 h2 hg hset hlen hlow hjl
      go_wp2
      go_roundg (gk - 1)
      case measure => omega
      case rel =>
        obtain ⟨hset, h1, h2, hg⟩ := HR.out
        refine ⟨j + 1, by omega, by go_num, ?_, ?_, ?_⟩
        · exact (Below.heap_setCell _ _ _ _ (by simp)).trans h1
        · rw [← hset]; exact row_setCell h2 _ _
        · exact grown_then hg (grown_setCell _ _ _ _) (fun i e => by cases e; exact Or.inl (by omega))
    · have hj : j = 8 := by omega
      subst hj
      rw [tk_all hlen] at h2
      have hcv : (convert 26 9 (.slice (some ⟨w1.heap.size + 1, 0, none⟩) 8 8)).run Tryd.prog wr = .ok (str (l.map lt)) wr := by
        have := run_convert_bytes_back (P := Tryd.prog) wr 26 9 5 ⟨w1.heap.size + 1, 0, none⟩ 8 (l.map lt) Tryd.underlying26 Tryd.underlying5 Tryd.underlying9 ?_
        · rw [List.length_map, hlen] at this; exact this
        · intro i hi
          rw [add0, cell_row h2 i]
          unfold cs
          rw [List.getElem?_map, List.getElem?_map, List.getElem?_eq_getElem hi]
          rfl
      have hG := hide (grown_trans hw1.out hg)
      obtain ⟨st, hst⟩ : ∃ st, st = str (l.map lt) := ⟨_, rfl⟩
      rw [← hst] at hcv
      have HST := hide hst
      clear h1 h2 hg hlen hlow hst
      go_wp2
      go_ret
      exact ⟨by rw [← HST.out]; rfl, hG.out⟩

theorem df_at : ∀ (l m : List Nat) (j x y : Nat), l[j]? = some x → m[j]? = some y → df (l.take (j + 1)) (m.take (j + 1)) = df (l.take j) (m.take j) + if x = y then 0 else 1
  | a :: r, b :: s, 0, x, y, h1, h2 => by
    simp at h1 h2
    subst h1 h2
    simp [df]
  | a :: r, b :: s, j + 1, x, y, h1, h2 => by
    have := df_at r s j x y (by simpa using h1) (by simpa using h2)
    simp only [List.take_succ_cons, df, this]; omega
  | [], _, _, _, _, h1, _ => by simp at h1
  | _ :: _, [], _, _, _, _, h2 => by simp at h2
set_option maxRecDepth 100000 in
set_option maxHeartbeats 2000000 in
theorem near_any (a b : Nat) (ha : a < 4294967296) (hb : b < 4294967296) (w : World) (hT : Tab w) :
    Calls Tryd.prog 8 #[.int .u32 (a : Int), .int .u32 (b : Int)] w fun e w' => e = .returned (.int .i64 (nr a b : Int)) ∧ w.grownBy w' none := by
  have HA := hide (worthsOf_any a ha w hT)
  have HB := hide (fun w' (hg : w.grownBy w' none) => worthsOf_any b hb w' (hT.grown hg))
  obtain ⟨l, hl⟩ : ∃ l, l = wo a := ⟨_, rfl⟩
  obtain ⟨m, hm⟩ : ∃ m, m = wo b := ⟨_, rfl⟩
  have hlen : l.length = 8 := by rw [hl]; rfl
  have hlem : m.length = 8 := by rw [hm]; rfl
  have hn : nr a b = df (l.take 8) (m.take 8) := by rw [List.take_of_length_le (by omega), List.take_of_length_le (by omega), hl, hm]; rfl
  rw [← hl] at HA
  rw [← hm] at HB
  rw [hn]
  have hlow : Low l ∧ Low m := by rw [hl, hm]; exact ⟨wo_low a, wo_low b⟩
  have HL := hide (And.intro hlen (And.intro hlem hlow))
  obtain ⟨D, hD⟩ : ∃ D, D = df (l.take 8) (m.take 8) := ⟨_, rfl⟩
  rw [← hD]
  have HD := hide hD
  unfold arr at HA HB
  clear hl hm hT ha hb hlen hlem hlow hn hD
  go_enter Tryd.func8, Tryd.ntmps8
  go_wp2_with fail
  refine HA.out.mono ?_
  rintro e w1 ⟨rfl, hg1⟩
  have hw1 := hide hg1
  clear hg1
  go_wp2_with fail
  refine (HB.out _ hw1.out).mono ?_
  rintro e w2 ⟨rfl, hg2⟩
  have hw2 := hide (grown_trans hw1.out hg2)
  clear hg2 hw1
  have hagg := cs_agg l HL.out.1
  have hagg2 := cs_agg m HL.out.2.1
  obtain ⟨hr1, hr2, hs1, hs2, hs3⟩ := two_new w2 l m
  have HS := hide (And.intro hs1 (And.intro hs2 hs3))
  clear hs1 hs2 hs3
  go_wp2
  go_loopg [7, 13] 8 (fun k c i wr => ∃ j C : Nat, k + j = 8 ∧ i = .int .i64 (j : Int) ∧ c = .int .i64 (C : Int) ∧ C ≤ j ∧ C = df (l.take j) (m.take j) ∧ wr.heap[w2.heap.size]? = some (.cells (cs l).toArray 33 (0, 0)) ∧ wr.heap[w2.heap.size + 1]? = some (.cells (cs m).toArray 33 (0, 0)) ∧ w2.grownBy wr none)
  case atStart => exact ⟨0, 0, by omega, rfl, rfl, by omega, by simp [df], HS.out.1, HS.out.2.1, HS.out.2.2⟩
  case round =>
    obtain ⟨j, C, hkj, rfl, rfl, hCj, hC, h1, h2, hg⟩ := hrel
    obtain ⟨hlen, hlem, hlow, hmow⟩ := HL.out
    have hj0 : (0 : Int) ≤ (j : Int) := by omega
    by_cases hk : 0 < gk
    · have hj1 : (j : Int) < 8 := by omega
      have hjl : j < l.length := by omega
      have hjm : j < m.length := by omega
      have hcell := (cell_row h1 j).trans (cs_get l hjl)
      have hcelm := (cell_row h2 j).trans (cs_get m hjm)
      have hst := df_at l m j _ _ (List.getElem?_eq_getElem hjl) (List.getElem?_eq_getElem hjm)
      rw [← hC] at hst
      have HR := hide (And.intro h1 (And.intro h2 hg))
      generalize l[j] = x at *
      generalize m[j] = y at *
      have hC0 : (C : Int) ≤ 8 := by omega
      have hwC : IntKind.i64.wrap ((C : Int) + 1) = (C : Int) + 1 := IntWalk.i64_in _ (by omega)
      clear h1 h2 hg hlen hlem hlow hmow hjl hjm hC hagg hagg2 hr1 hr2
      by_cases hxy : x = y
      · subst hxy
        have HST := hide hst
        clear hst
        go_wp2
        go_quiet (fail)
        go_wp2
        go_roundg (gk - 1)
        case measure => omega
        case rel =>
          have := HST.out
          simp only [if_true] at this
          exact ⟨j + 1, C, by omega, by go_num, rfl, by omega, by omega, HR.out.1, HR.out.2.1, grown_trans HR.out.2.2 (grown_drewN _ _ _)⟩
      · have hne : ((x : Int) == (y : Int)) = false := by simp; omega
        have hne2 : ((x : Int) != (y : Int)) = true := by simp; omega
        have hne3 : decide ((x : Int) = (y : Int)) = false := by simp; omega
        rw [if_neg hxy] at hst
        have HST := hide hst
        clear hst hxy
        go_wp2
        go_quiet (fail)
        go_wp2
        go_roundg (gk - 1)
        case measure => omega
        case rel =>
          have := HST.out
          exact ⟨j + 1, C + 1, by omega, by go_num, by go_num, by omega, by omega, HR.out.1, HR.out.2.1, grown_trans HR.out.2.2 (grown_drewN _ _ _)⟩
    · have hj : j = 8 := by omega
      subst hj
      rw [← HD.out] at hC
      subst hC
      have hG := hide (grown_trans hw2.out hg)
      clear h1 h2 hg hlen hlem hlow hmow
      go_wp2
      go_ret
      exact ⟨rfl, hG.out⟩
end
end Go.Proofs.YtnjcajcjdfhinabDoor
