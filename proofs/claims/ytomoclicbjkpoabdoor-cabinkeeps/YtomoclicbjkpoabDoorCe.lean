/- The contracts of rowOf, columnOf, Text, Parse. -/
import Derived.Test.YtomoclicbjkpoabDoorCd
import Derived.Test.YtomoclicbjkpoabDoorSh
namespace Go.Proofs.YtomoclicbjkpoabDoor
open Go.RowKit Cx
attribute [local go_sem ↓] Go.wp_at_zero Go.wp_at_succ

/-- A text of these bytes. -/
def str (l : List UInt8) : Value := .string ⟨l.toArray⟩
/-- The library's two errors lie in their variables. -/
def Er (w : World) : Prop := (∃ tp p, w.cell? ⟨1, 0, none⟩ = some (.iface tp p)) ∧ ∃ tp p, w.cell? ⟨2, 0, none⟩ = some (.iface tp p)
theorem Er.grown {w w' : World} (h : Er w) (hg : w.grownBy w' none) : Er w' := by
  obtain ⟨⟨t, p, h1⟩, t2, p2, h2⟩ := h
  exact ⟨⟨t, p, hg.cell h1 (by simp)⟩, t2, p2, hg.cell h2 (by simp)⟩
theorem bytes_of (s : ByteArray) : s = ⟨s.data.toList.toArray⟩ := by cases s; simp

theorem itoa_any (i : Nat) (h : i < 100) (w : World) : Calls Tryd.prog 22 #[.int .i64 (i : Int)] w fun e w' => e = .returned (str (dg i)) ∧ w' = w := by
  have := Any.strconv_Itoa_small Tryd.lays171 i h w
  rw [dg_dec h] at this
  exact this
theorem grown_bytesWorld (w : World) (t : TypeId) (s : ByteArray) : w.grownBy (Lib.bytesWorld w t s) none := below_grown (Lib.bytesWorld_below _ _ _)
/-- Atoi that succeeds. -/
theorem atoi_ok (l : List UInt8) (v : Int) (hl : l.length ≤ 281474976710656) (h : Lib.atoiAll l = .ok v) (w : World) : Calls Tryd.prog 46 #[str l] w fun e w' => e = .returned (.tuple #[.int .i64 v, .nilIface]) ∧ w.grownBy w' none := by
  refine (Any.strconv_Atoi_ok Tryd.laysC172 ⟨l.toArray⟩ (by show l.toArray.size ≤ _; simp; omega) v (by simpa using h) w).mono ?_
  rintro e w' ⟨he, h⟩
  refine ⟨he, ?_⟩
  rcases h with rfl | ⟨t, rfl⟩
  · exact grown_refl _ _
  · exact grown_bytesWorld _ _ _
/-- Atoi that fails. -/
theorem atoi_bad (l : List UInt8) (hl : l.length ≤ 281474976710656) (h : ∀ v, Lib.atoiAll l ≠ .ok v) (w : World) (hE : Er w) : Calls Tryd.prog 46 #[str l] w fun e w' => ∃ x tp p, e = .returned (.tuple #[.int .i64 x, .iface tp p]) ∧ w.grownBy w' none := by
  obtain ⟨⟨t, p, h1⟩, t2, p2, h2⟩ := hE
  cases hq : Lib.atoiAll l with
  | ok v => exact absurd hq (h v)
  | «syntax» =>
    refine (Any.strconv_Atoi_syntax Tryd.laysC172 ⟨l.toArray⟩ (by show l.toArray.size ≤ _; simp; omega) (by simpa using hq) (.iface t p) w h1 (Or.inr ⟨t, p, rfl⟩)).mono ?_
    rintro e w' ⟨N, he, _, _, hb⟩
    exact ⟨_, _, _, he, below_grown hb⟩
  | range =>
    refine (Any.strconv_Atoi_range Tryd.laysC172 ⟨l.toArray⟩ (by show l.toArray.size ≤ _; simp; omega) (by simpa using hq) (.iface t2 p2) w h2 (Or.inr ⟨t2, p2, rfl⟩)).mono ?_
    rintro e w' ⟨N, he, _, _, hb⟩
    exact ⟨_, _, _, he, below_grown hb⟩

/-- A row, or none, as it is told. -/
def rowV (o : Option Nat) : Value := match o with | some r => .tuple #[.int .i64 (r : Int), .bool true] | none => .tuple #[.int .i64 0, .bool false]
theorem str_ne {a b : List UInt8} (h : a ≠ b) : ((⟨a.toArray⟩ : ByteArray).toList == (⟨b.toArray⟩ : ByteArray).toList) = false := by
  rw [beq_eq_false_iff_ne]
  rw [ByteArray.toList_eq, ByteArray.toList_eq]
  simpa using h
theorem str_eq (a : List UInt8) : ((⟨a.toArray⟩ : ByteArray).toList == (⟨a.toArray⟩ : ByteArray).toList) = true := by rw [beq_iff_eq]

set_option maxHeartbeats 1000000 in
theorem rowOf_any (R : Nat) (W : Int) (v : Value) (l : List UInt8) (hl : l.length ≤ 281474976710656) (hR : R ≤ 64) (w : World) (hE : Er w) :
    Calls Tryd.prog 23 #[cbV R W v, str l] w fun e w' => e = .returned (rowV (rowN R l)) ∧ w.grownBy w' none := by
  unfold cbV
  by_cases hq : ∃ u, Lib.atoiAll l = .ok u
  · obtain ⟨u, hu⟩ := hq
    have C := hide (atoi_ok l u hl hu)
    by_cases hr : 1 ≤ u ∧ u ≤ (R : Int)
    · obtain ⟨h1, h2⟩ := hr
      obtain ⟨n, rfl⟩ : ∃ n : Nat, u = (n : Int) := ⟨u.toNat, by omega⟩
      have I := hide (itoa_any n (by omega))
      by_cases hd : dg n = l
      · have hrow : rowN R l = some (n - 1) := by rw [← hd]; have := rowN_some (R := R) (r := n - 1) hR (by omega); rwa [show n - 1 + 1 = n by omega] at this
        rw [hrow]
        unfold rowV
        simp only
        rw [hd] at I
        have hbe := str_eq l
        have hsub : ((n - 1 : Nat) : Int) = (n : Int) - 1 := by omega
        rw [hsub]
        have HI := hide (And.intro hrow hd)
        clear hrow hd hu hsub
        unfold str at *
        generalize (⟨l.toArray⟩ : ByteArray) = sb at *
        go_enter Tryd.func23, Tryd.ntmps23
        go_wp2_with fail
        refine (C.out _).mono ?_
        rintro e w1 ⟨rfl, hg1⟩
        obtain ⟨c0, c1, c2⟩ := box3 (box_kept hg1)
        have G1 := hide (grown_trans (grown_alloc w _) hg1)
        clear hg1
        go_wp2_with fail
        refine (I.out _).mono ?_
        rintro e w2 ⟨rfl, rfl⟩
        go_wp2
        go_ret2
        exact ⟨rfl, G1.out⟩
      · have hrow := rowN_unlike hR hu hd
        rw [hrow]
        unfold rowV
        simp only
        have hbe := str_ne hd
        have HI := hide (And.intro hrow hd)
        clear hrow hd hu
        unfold str at *
        generalize (⟨l.toArray⟩ : ByteArray) = sb at *
        generalize (⟨(dg n).toArray⟩ : ByteArray) = sd at *
        go_enter Tryd.func23, Tryd.ntmps23
        go_wp2_with fail
        refine (C.out _).mono ?_
        rintro e w1 ⟨rfl, hg1⟩
        obtain ⟨c0, c1, c2⟩ := box3 (box_kept hg1)
        have G1 := hide (grown_trans (grown_alloc w _) hg1)
        clear hg1
        go_wp2_with fail
        refine (I.out _).mono ?_
        rintro e w2 ⟨rfl, rfl⟩
        go_wp2
        go_ret2
        exact ⟨rfl, G1.out⟩
    · have hrow := rowN_out hR hu (by omega)
      rw [hrow]
      unfold rowV
      simp only
      clear hrow hu
      unfold str at *
      generalize (⟨l.toArray⟩ : ByteArray) = sb at *
      by_cases h1 : u < 1
      · clear hr
        go_enter Tryd.func23, Tryd.ntmps23
        go_wp2_with fail
        refine (C.out _).mono ?_
        rintro e w1 ⟨rfl, hg1⟩
        obtain ⟨c0, c1, c2⟩ := box3 (box_kept hg1)
        have G1 := hide (grown_trans (grown_alloc w _) hg1)
        clear hg1
        go_wp2
        go_ret2
        exact ⟨rfl, G1.out⟩
      · have h2 : (R : Int) < u := by omega
        clear hr
        go_enter Tryd.func23, Tryd.ntmps23
        go_wp2_with fail
        refine (C.out _).mono ?_
        rintro e w1 ⟨rfl, hg1⟩
        obtain ⟨c0, c1, c2⟩ := box3 (box_kept hg1)
        have G1 := hide (grown_trans (grown_alloc w _) hg1)
        clear hg1
        go_wp2
        go_ret2
        exact ⟨rfl, G1.out⟩
  · have hb : ∀ u, Lib.atoiAll l ≠ .ok u := fun u hu => hq ⟨u, hu⟩
    rw [rowN_bad hR hb]
    have C := hide (fun w' (hg : w.grownBy w' none) => atoi_bad l hl hb w' (hE.grown hg))
    unfold rowV
    simp only
    clear hq hb
    unfold str at *
    generalize (⟨l.toArray⟩ : ByteArray) = sb at *
    go_enter Tryd.func23, Tryd.ntmps23
    go_wp2_with fail
    refine (C.out _ (grown_alloc w _)).mono ?_
    rintro e w1 ⟨x, tp, p, rfl, hg1⟩
    have G1 := hide (grown_trans (grown_alloc w _) hg1)
    clear hg1
    go_wp2
    go_ret2
    exact ⟨rfl, G1.out⟩

/-- A column, or -1, as it is told. -/
def colV (o : Option Nat) : Value := match o with | some c => .tuple #[.int .i64 (c : Int), .bool true] | none => .tuple #[.int .i64 (-1), .bool false]
theorem lets_take (W : Nat) (hW : W ≤ 16) : (⟨#[65, 66, 67, 68, 69, 70, 71, 72, 74, 75, 76, 77, 78, 79, 80, 81]⟩ : ByteArray).extract 0 W = ⟨(lets W).toArray⟩ := by
  have h : ∀ W : Fin 17, (((⟨#[65, 66, 67, 68, 69, 70, 71, 72, 74, 75, 76, 77, 78, 79, 80, 81]⟩ : ByteArray).extract 0 W.1).data == (lets W.1).toArray) = true := by decide +kernel
  have := h ⟨W, by omega⟩
  simp only [beq_iff_eq] at this
  cases hx : (⟨#[65, 66, 67, 68, 69, 70, 71, 72, 74, 75, 76, 77, 78, 79, 80, 81]⟩ : ByteArray).extract 0 W with
  | mk d => rw [hx] at this; rw [← this]
theorem letter_at (c : Nat) (hc : c < 16) : (⟨#[65, 66, 67, 68, 69, 70, 71, 72, 74, 75, 76, 77, 78, 79, 80, 81]⟩ : ByteArray).extract c (c + 1) = ⟨[lt c].toArray⟩ := by
  have h : ∀ c : Fin 16, (((⟨#[65, 66, 67, 68, 69, 70, 71, 72, 74, 75, 76, 77, 78, 79, 80, 81]⟩ : ByteArray).extract c.1 (c.1 + 1)).data == [lt c.1].toArray) = true := by decide +kernel
  have := h ⟨c, by omega⟩
  simp only [beq_iff_eq] at this
  cases hx : (⟨#[65, 66, 67, 68, 69, 70, 71, 72, 74, 75, 76, 77, 78, 79, 80, 81]⟩ : ByteArray).extract c (c + 1) with
  | mk d => rw [hx] at this; rw [← this]
theorem slice_lets (W : Nat) (hW : W ≤ 16) (w : World) : (Instr.slice 9 (.string ⟨#[65, 66, 67, 68, 69, 70, 71, 72, 74, 75, 76, 77, 78, 79, 80, 81]⟩) none (some (.int .i64 (W : Int))) none).run Tryd.prog w = .ok (str (lets W)) w := by
  have hs : (⟨#[65, 66, 67, 68, 69, 70, 71, 72, 74, 75, 76, 77, 78, 79, 80, 81]⟩ : ByteArray).size = 16 := rfl
  have h2 : (W : Int) ≤ 16 := by omega
  simp [Instr.slice, run_underlying Tryd.underlying9, Instr.sliceBounds, Instr.sliceBound, asIntOf, hs, hW, str, lets_take W hW]
theorem slice_letter (c : Nat) (hc : c < 16) (w : World) : (Instr.slice 9 (.string ⟨#[65, 66, 67, 68, 69, 70, 71, 72, 74, 75, 76, 77, 78, 79, 80, 81]⟩) (some (.int .i64 (c : Int))) (some (.int .i64 ((c : Int) + 1))) none).run Tryd.prog w = .ok (str [lt c]) w := by
  have hs : (⟨#[65, 66, 67, 68, 69, 70, 71, 72, 74, 75, 76, 77, 78, 79, 80, 81]⟩ : ByteArray).size = 16 := rfl
  have h2 : ((c : Int) + 1).toNat = c + 1 := by omega
  have h3 : (c : Int) + 1 ≤ 16 := by omega
  simp [Instr.slice, run_underlying Tryd.underlying9, Instr.sliceBounds, Instr.sliceBound, asIntOf, hs, str, letter_at c hc, h2, h3]
  omega
theorem index_any (W : Nat) (hW : W ≤ 16) (x : UInt8) (w : World) : Calls Tryd.prog 47 #[str (lets W), .int .u8 (x.toNat : Int)] w fun e w' => e = .returned (.int .i64 (colI W x)) ∧ w' = w := by
  have := Any.strings_IndexByte Tryd.lays137 ⟨(lets W).toArray⟩ (x.toNat : Int) w
  simp only [Int.toNat_natCast] at this
  have e1 : x.toNat.toUInt8 = x := by simp
  rw [e1, index_lets ⟨W, by omega⟩ x] at this
  exact this
set_option maxHeartbeats 1000000 in
theorem columnOf_any (R : Int) (W : Nat) (v : Value) (x : UInt8) (hW : W ≤ 16) (w : World) :
    Calls Tryd.prog 24 #[cbV R W v, .int .u8 (x.toNat : Int)] w fun e w' => e = .returned (colV (colN W x)) ∧ w.grownBy w' none := by
  have I := hide (index_any W hW x)
  have hsl := slice_lets W hW
  have hG : ∀ o, w.grownBy (w.alloc o) none := fun o => grown_alloc w o
  unfold cbV
  unfold colI at I
  unfold colV
  generalize str (lets W) = sl at *
  cases hc : colN W x with
  | none =>
    rw [hc] at I
    simp only at *
    clear hc
    generalize x.toNat = xn at *
    go_enter Tryd.func24, Tryd.ntmps24
    go_wp2_with fail
    refine (I.out _).mono ?_
    rintro e w2 ⟨rfl, rfl⟩
    go_wp2
    go_ret2
    exact ⟨rfl, hG _⟩
  | some c =>
    rw [hc] at I
    simp only at *
    clear hc
    generalize x.toNat = xn at *
    go_enter Tryd.func24, Tryd.ntmps24
    go_wp2_with fail
    refine (I.out _).mono ?_
    rintro e w2 ⟨rfl, rfl⟩
    go_wp2
    go_ret2
    exact ⟨rfl, hG _⟩
end Go.Proofs.YtomoclicbjkpoabDoor
