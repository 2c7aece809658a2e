/- awake. -/
import Derived.Test.YtoflohjlmagjpaaDoorYf
import Derived.Laws.BytesArg
namespace Go.Proofs.YtoflohjlmagjpaaDoor
open Go.RowKit
attribute [local go_sem ↓] Go.wp_at_zero Go.wp_at_succ
/-- Bytes as a text. -/
theorem conv_any {w : World} {ao : Option Addr} {n cap : Nat} {xs : List Int} (hl : xs.length = n) (hb : Byt xs) (hat : At w ao xs) (hnil : ao = none → n = 0) : (convert 27 9 (.slice ao n cap)).run Tryd.prog w = .ok (.string (strOfNums xs)) w := by
  subst hl
  cases ao with
  | none =>
    have : xs = [] := List.eq_nil_of_length_eq_zero (hnil rfl)
    subst this
    exact run_convert_bytes_nil (P := Tryd.prog) w 27 5 Tryd.underlying27 Tryd.underlying5 _ _ 9 Tryd.underlying9
  | some ad =>
    have h := run_convert_bytes_back (P := Tryd.prog) w 27 9 5 ad cap (xs.map fun n => UInt8.ofNat n.toNat) Tryd.underlying27 Tryd.underlying5 Tryd.underlying9 (by
      intro j hj
      rw [List.length_map] at hj
      obtain ⟨a', e, hc⟩ := hat j xs[j] (List.getElem?_eq_getElem hj)
      cases e
      rw [hc, List.getElem_map, UInt8.toNat_ofNat']
      have := hb xs[j] (List.getElem_mem hj)
      congr 2
      omega)
    rw [List.length_map] at h
    exact h
def aw1 : Ry := ⟨5, 1, 0, 258, 0, 3, 0⟩
def aw2 : Ry := ⟨1, 3, 0, 0, 0, 0, 0⟩
theorem aw1_ok : aw1.Ok := ⟨by decide, by decide, by decide, by decide, by decide, by decide, by decide, by decide, by decide, by decide, by decide, by decide, by decide, by decide⟩
theorem aw2_ok : aw2.Ok := ⟨by decide, by decide, by decide, by decide, by decide, by decide, by decide, by decide, by decide, by decide, by decide, by decide, by decide, by decide⟩
theorem zRy_ok : zRy.Ok := ⟨by decide, by decide, by decide, by decide, by decide, by decide, by decide, by decide, by decide, by decide, by decide, by decide, by decide, by decide⟩
theorem aw1_may : aw1.May := by decide
theorem aw2_may : aw2.May := by decide
theorem zRy_not : ¬ zRy.May := by decide
theorem aw1_out : aw1.out = [5, 0, 0, 0, 1, 0, 0, 2, 1, 0, 0, 3, 0, 0, 0, 0, 0, 0, 0] := by decide
theorem aw2_out : aw2.out = [1, 0, 0, 0, 3, 0, 0] := by decide
theorem aw1_byt : Byt [5, 0, 0, 0, 1, 0, 0, 2, 1, 0, 0, 3, 0, 0, 0, 0, 0, 0, 0] := by rw [← aw1_out]; exact out_byt aw1_ok aw1_may
theorem aw2_byt : Byt [1, 0, 0, 0, 3, 0, 0] := by rw [← aw2_out]; exact out_byt aw2_ok aw2_may
theorem aw2_get : getY [1, 0, 0, 0, 3, 0, 0] = (aw2, 0) := by rw [← aw2_out]; exact getY_out aw2_ok aw2_may
theorem aw_str : strOfNums [5, 0, 0, 0, 1, 0, 0, 2, 1, 0, 0, 3, 0, 0, 0, 0, 0, 0, 0] = ⟨#[5, 0, 0, 0, 1, 0, 0, 2, 1, 0, 0, 3, 0, 0, 0, 0, 0, 0, 0]⟩ := rfl
set_option maxRecDepth 20000 in
set_option maxHeartbeats 4000000 in
theorem awake_any (w : World) (hT : Tab w) : Calls Tryd.prog 14 #[] w fun e w' => e = .returned (.bool true) ∧ w.grownBy w' none := by
  have q := put_ry aw1 aw1_ok w hT
  rw [show chk aw1 = 0 from if_pos aw1_may] at q
  unfold aw1 ryV at q
  dsimp only at q
  have HT := hide hT
  clear hT
  go_enter Tryd.func14, Tryd.ntmps14
  go_wp2_with fail
  refine q.mono ?_
  clear q
  rintro e w1 ⟨v, rfl, hp, hg⟩
  rcases hp with ⟨_, g, rfl, hgl, hrow⟩ | ⟨hn, _⟩
  · have R1 : Hid (w1.heap[g]? = some (.cells ([5, 0, 0, 0, 1, 0, 0, 2, 1, 0, 0, 3, 0, 0, 0, 0, 0, 0, 0].map (Value.int .u8)).toArray 5 (0, 0))) := by rw [← aw1_out]; exact hrow
    have G1 := hide hg
    clear hrow hgl hg
    have hz' : sz 1 0 = 19 := by decide
    simp only [hz']
    clear hz'
    have g2 := World.grownBy_alloc w1 (.cells #[.int .u8 1, .int .u8 0, .int .u8 0, .int .u8 0, .int .u8 3, .int .u8 0, .int .u8 0] 5) none
    have b2 := heap_alloc_new w1 (.cells ([1, 0, 0, 0, 3, 0, 0].map (Value.int .u8)).toArray 5)
    have R2 := hide (box_new R1.out g2)
    have G2 := hide (grown_trans G1.out g2)
    have q := get_any _ aw2_byt (some ⟨w1.heap.size, 0, none⟩) 7 7 _ (HT.out.new G2.out) rfl (at_row b2) (fun e => by cases e)
    rw [aw2_get] at q
    unfold aw2 ryV at q
    dsimp only at q
    clear g2 b2 R1 G1
    go_wp2_with fail
    generalize w1.alloc (.cells #[.int .u8 1, .int .u8 0, .int .u8 0, .int .u8 0, .int .u8 3, .int .u8 0, .int .u8 0] 5) = w2 at *
    refine q.mono ?_
    clear q
    rintro e w3 ⟨rfl, hg⟩
    have g4 := World.grownBy_alloc w3 (.cells #[.int .u32 1, .int .i64 3, .int .i64 0, .int .u32 0, .int .i64 0, .int .i64 0, .int .i64 0] 26) none
    have R4 := hide (box_new (box_new R2.out hg) g4)
    have G4 := hide (grown_trans (grown_trans G2.out hg) g4)
    have B4 := hide (heap_alloc_new w3 (.cells [Value.int .u32 1, .int .i64 3, .int .i64 0, .int .u32 0, .int .i64 0, .int .i64 0, .int .i64 0].toArray 26))
    have q := check_any zRy zRy_ok _ (HT.out.new G4.out)
    rw [show chk zRy = 210 from if_neg zRy_not] at q
    unfold zRy ryV at q
    dsimp only at q
    have cv := conv_any (cap := 19) (n := 19) rfl aw1_byt (at_row R4.out) (fun e => by cases e)
    rw [aw_str] at cv
    obtain ⟨c0, c1, c2, c3, c4, c5, c6⟩ := box7 B4.out
    clear hg g4 R2 G2
    go_wp2_with fail
    generalize w3.alloc (.cells #[.int .u32 1, .int .i64 3, .int .i64 0, .int .u32 0, .int .i64 0, .int .i64 0, .int .i64 0] 26) = w4 at *
    refine q.mono ?_
    clear q
    rintro e w5 ⟨rfl, hg⟩
    have G5 := hide (grown_trans G4.out hg)
    clear hg
    go_wp2
    go_ret
    exact ⟨rfl, G5.out⟩
  · exact absurd aw1_may hn
end Go.Proofs.YtoflohjlmagjpaaDoor
