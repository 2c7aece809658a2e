/- The contract of readWorths. -/
import Derived.Test.YtnjcajcjdfhinabDoorCb
import Derived.Test.YtnjcajcjdfhinabDoorSh
namespace Go.Proofs.YtnjcajcjdfhinabDoor
open Go.RowKit Cn
attribute [local go_sem ↓] Go.wp_at_zero Go.wp_at_succ

theorem index_wr : ∀ x : UInt8, Go.Lib.indexByte lets x = wr x := by
  have h : ∀ n : Fin 256, Go.Lib.indexByte lets (UInt8.ofNat n.1) = wr (UInt8.ofNat n.1) := by decide +kernel
  intro x
  have := h ⟨x.toNat, x.toNat_lt⟩
  simpa using this
theorem index_any (x : UInt8) (w : World) : Calls Tryd.prog 13 #[.string ⟨#[50, 51, 52, 53, 54, 55, 56, 57, 65, 66, 67, 68, 69, 70, 71, 72, 74, 75, 76, 77, 78, 80, 81, 82, 83, 84, 85, 86, 87, 88, 89, 90]⟩, .int .u8 (x.toNat : Int)] w fun e w' => e = .returned (.int .i64 (wr x)) ∧ w' = w := by
  have := Any.strings_IndexByte Tryd.lays137 ⟨lets.toArray⟩ (x.toNat : Int) w
  simp only [Int.toNat_natCast] at this
  have e1 : x.toNat.toUInt8 = x := by simp
  rw [e1, index_wr x] at this
  exact this
theorem index_at {l : List UInt8} {j : Nat} {x : UInt8} (h : l[j]? = some x) (w : World) : (Instr.index 9 (.string ⟨l.toArray⟩) (.int .i64 (j : Int))).run Tryd.prog w = .ok (.int .u8 (x.toNat : Int)) w := by
  obtain ⟨hj, he⟩ := List.getElem?_eq_some_iff.1 h
  have hz := size_str l
  have h1 : (j : Int) < ((⟨l.toArray⟩ : ByteArray).size : Int) := by rw [hz]; omega
  rw [run_index_string w 9 ⟨l.toArray⟩ .i64 _ Tryd.underlying9, dif_pos ⟨by omega, h1⟩]
  have h2 : l.toArray[j]? = some x := by simp [h]
  obtain ⟨h4, h5⟩ := Array.getElem?_eq_some_iff.1 h2
  congr 3
  exact congrArg UInt8.toNat h5

/-- The worths read so far. -/
def pd (s : List UInt8) (j : Nat) : List Nat := (List.range 8).map fun p => if p < j then (wr (s.getD p 0)).toNat else 0
theorem pd_len (s : List UInt8) (j : Nat) : (pd s j).length = 8 := by simp [pd]
theorem pd_zero (s : List UInt8) : pd s 0 = [0, 0, 0, 0, 0, 0, 0, 0] := rfl
theorem pd_step {s : List UInt8} {j : Nat} {x : UInt8} (hj : j < 8) (h : s[j]? = some x) : (pd s j).set j (wr x).toNat = pd s (j + 1) := by
  apply List.ext_getElem?
  intro i
  rw [List.getElem?_set, pd_len]
  by_cases hi : i < 8
  · unfold pd
    simp only [List.getElem?_map, List.getElem?_range hi, Option.map_some]
    by_cases e : j = i
    · subst e
      rw [if_pos rfl, if_pos hj, if_pos (by omega), List.getD_eq_getElem?_getD, h]; rfl
    · rw [if_neg e]
      by_cases e2 : i < j
      · rw [if_pos e2, if_pos (by omega)]
      · rw [if_neg e2, if_neg (by omega)]
  · rw [List.getElem?_eq_none (by rw [pd_len]; omega), List.getElem?_eq_none (by rw [pd_len]; omega), if_neg (by omega)]
theorem pd_low (s : List UInt8) (j : Nat) : Low (pd s j) := by
  intro x hx
  unfold pd at hx
  rw [List.mem_map] at hx
  obtain ⟨p, _, rfl⟩ := hx
  split
  · have := wr_lt (s.getD p 0); omega
  · omega
theorem pd_wts {s : List UInt8} (h : s.length = 8) : pd s 8 = wts s := by
  apply List.ext_getElem?
  intro i
  by_cases hi : i < 8
  · unfold pd wts
    have hx : i < s.length := by omega
    simp only [List.getElem?_map, List.getElem?_range hi, Option.map_some, List.getElem?_eq_getElem hx, if_pos hi, List.getD_eq_getElem?_getD, Option.getD_some]
  · rw [List.getElem?_eq_none (by rw [pd_len]; omega), List.getElem?_eq_none (by simp [wts]; omega)]

section
attribute [local go_sem ↓] wp_load37 wp_store37
attribute [local go_sem] blkOf_ptr offOf_ptr isPtr_ptr
set_option maxRecDepth 100000 in
set_option maxHeartbeats 2000000 in
theorem read_any (s : List UInt8) (hs : s.length ≤ 281474976710656) (w : World) :
    Calls Tryd.prog 10 #[str s] w fun e w' => e = .returned (.tuple #[arr (pd s (pre s)), .int .i64 (pre s : Int)]) ∧ w.grownBy w' none := by
  have hz := size_str s
  obtain ⟨sb, hsb⟩ : ∃ sb, sb = (⟨s.toArray⟩ : ByteArray) := ⟨_, rfl⟩
  unfold str
  rw [← hsb] at hz ⊢
  have HI := hide (fun (j : Nat) (x : UInt8) (h : s[j]? = some x) => index_at h)
  rw [← hsb] at HI
  obtain ⟨P, hP⟩ : ∃ P, P = pre s := ⟨_, rfl⟩
  rw [← hP]
  have HP := hide hP
  have hz2 : (sb.size : Int) ≤ 281474976710656 := by omega
  have HZ := hide hz
  clear hsb hP hz
  go_enter Tryd.func10, Tryd.ntmps10
  go_wp2
  go_loopg [7] 8 (fun k i wr => ∃ j : Nat, k + j = 8 ∧ i = .int .i64 (j : Int) ∧ (∀ i, i < j → ∃ x, s[i]? = some x ∧ 0 ≤ Cn.wr x) ∧ wr.heap[w.heap.size]? = some (.cells (cs (pd s 0)).toArray 33 (0, 0)) ∧ wr.heap[w.heap.size + 1]? = some (.cells (cs (pd s j)).toArray 33 (0, 0)) ∧ w.grownBy wr none)
  case atStart =>
    obtain ⟨h1, h2, h3⟩ := alloc2 w (.cells (cs (pd s 0)).toArray 33) (.cells (cs (pd s 0)).toArray 33)
    exact ⟨0, by omega, rfl, fun i hi => by omega, h1, h2, h3⟩
  case round =>
    obtain ⟨j, hkj, rfl, hall, h1, h2, hg⟩ := hrel
    have hrng := range_row h2 (by rw [cs_len, pd_len])
    have hok := hrng.1
    have hof := hrng.2
    have hagg := cs_agg (pd s j) (pd_len s j)
    have hrk : rowOk wr w.heap.size := ⟨_, _, h1, by simp [cs_len, pd_len]⟩
    have hj0 : (0 : Int) ≤ (j : Int) := by omega
    have hl : (loadVar 33 ⟨w.heap.size, 0, none⟩).run Tryd.prog (wr.setRow w.heap.size (cs (pd s j)).toArray) = .ok (.agg (cs (pd s j)).toArray) (wr.setRow w.heap.size (cs (pd s j)).toArray) :=
      run_loadVar_row _ _ 33 33 (cs (pd s j)).toArray (0, 0) _ (setRow_heap _ _ _ _ 33 _ h1) Tryd.underlying33 rfl (by rw [Tryd.size33]; simp [cs_len, pd_len])
    have HL := hide (And.intro hl (below_grown (below_setRow (grown_below hg) (Nat.le_refl _) (cs (pd s j)).toArray)))
    clear hl hrng
    by_cases hk : 0 < gk
    · have hj : j < 8 := by omega
      have hj1 : (j : Int) < 8 := by omega
      by_cases hjs : j = s.length
      · have hPj : P = j := by rw [HP.out]; exact pre_is (by omega) hall (Or.inr (Or.inl (by rw [List.getElem?_eq_none (by omega)])))
        subst hPj
        have hsz : (sb.size : Int) = (P : Int) := by have := HZ.out; omega
        clear hall h1 h2 hg HI hjs hs
        go_wp2
        refine bodyPost_ret (v := .tuple #[.agg (cs (pd s P)).toArray, .int .i64 (P : Int)]) (by simp [results, Tryd.results10, asAddr, HL.out.1]) rfl ⟨rfl, HL.out.2⟩
      · have hjl : j < s.length := by
          rcases Nat.lt_or_ge j s.length with h | h
          · exact h
          · exfalso
            obtain ⟨x, hx, _⟩ := hall (j - 1) (by omega)
            have := (List.getElem?_eq_some_iff.1 hx).1
            omega
        obtain ⟨x, hx⟩ : ∃ x, s[j]? = some x := ⟨_, List.getElem?_eq_getElem hjl⟩
        have hix := HI.out j x hx
        have hne : ((j : Int) == (sb.size : Int)) = false := by have := HZ.out; simp; omega
        have hne2 : decide ((j : Int) = (sb.size : Int)) = false := by have := HZ.out; simp; omega
        have HX := hide (index_any x)
        by_cases hw : Cn.wr x < 0
        · have hPj : P = j := by rw [HP.out]; exact pre_is (by omega) hall (Or.inr (Or.inr ⟨x, hx, hw⟩))
          subst hPj
          generalize Cn.wr x = v at *
          generalize x.toNat = xn at *
          clear hall h1 h2 hg HI hjs hs hx hjl
          go_wp2_with fail
          refine (HX.out _).mono ?_
          rintro e w2 ⟨rfl, rfl⟩
          go_wp2
          refine bodyPost_ret (v := .tuple #[.agg (cs (pd s P)).toArray, .int .i64 (P : Int)]) (by simp [results, Tryd.results10, asAddr, HL.out.1]) rfl ⟨rfl, HL.out.2⟩
        · have hwl := wr_lt x
          obtain ⟨d, hd⟩ : ∃ d : Nat, Cn.wr x = (d : Int) := ⟨(Cn.wr x).toNat, by omega⟩
          have hset : (cs (pd s j)).set j (.int .u8 (d : Int)) = cs (pd s (j + 1)) := by
            rw [cs_set, ← pd_step hj hx, hd]; rfl
          obtain ⟨bb, hcu⟩ : ∃ bb : Nat, wr.cell? ⟨w.heap.size + 1, j, none⟩ = some (.int .u8 (bb : Int)) := ⟨_, (cell_row h2 j).trans (cs_get _ (by rw [pd_len]; omega))⟩
          have hfu : wr.frozen? ⟨w.heap.size + 1, j, none⟩ = false := free_row h2 _
          have HR := hide (And.intro hset (And.intro h1 (And.intro h2 (And.intro hg (And.intro hall (And.intro hx (And.intro hd hwl)))))))
          rw [hd] at HX hwl
          have hwp : IntKind.u8.wrap (d : Int) = (d : Int) := by rw [wrap_u8]; omega
          have hd0 : (0 : Int) ≤ (d : Int) := by omega
          generalize x.toNat = xn at *
          clear hall h1 h2 hg HI hjs hs hjl hw hset hd
          go_wp2_with fail
          refine (HX.out _).mono ?_
          rintro e w2 ⟨rfl, rfl⟩
          go_wp2
          go_roundg (gk - 1)
          case measure => omega
          case rel =>
            obtain ⟨hset, h1, h2, hg, hall, hx, hd, hwl⟩ := HR.out
            refine ⟨j + 1, by omega, by go_num, ?_, ?_, ?_, ?_⟩
            · intro i hi
              by_cases e : i = j
              · subst e; exact ⟨x, hx, by omega⟩
              · exact hall i (by omega)
            · exact (Below.heap_setCell _ _ _ _ (by simp)).trans h1
            · rw [← hset]; exact row_setCell h2 _ _
            · exact grown_then hg (grown_setCell _ _ _ _) (fun i e => by cases e; exact Or.inl (by omega))
    · have hj : j = 8 := by omega
      subst hj
      have hPj : P = 8 := by rw [HP.out]; exact pre_is (by omega) hall (Or.inl rfl)
      subst hPj
      clear hall h1 h2 hg HI hs
      go_wp2
      refine bodyPost_ret (v := .tuple #[.agg (cs (pd s 8)).toArray, .int .i64 8]) (by simp [results, Tryd.results10, asAddr, HL.out.1]) rfl ⟨rfl, HL.out.2⟩
end
end Go.Proofs.YtnjcajcjdfhinabDoor
