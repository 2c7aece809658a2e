/- An iterator over numbers, where the loop's body writes one block that lay ahead of it. -/
import Derived.Test.YtajdgkbeenalkaaDoorTold
namespace Go.Proofs.YtajdgkbeenalkaaDoor
open Go.RowKit Go.Shelf
attribute [local go_sem] Oper.semAt_some

set_option maxRecDepth 100000 in
set_option maxHeartbeats 1000000 in
theorem all1_gen (Kp : World → World → Prop) (Iv : World → Prop) (n : Nat) (hn : 1 ≤ n) (l B n₀ : Nat) (p : Option Addr) (L : List Bool) (hL : L.length ≤ 65536) (J Jx : List Nat → World → Prop)
    (hY : ∀ pre (x : Nat) W, J pre W → pre.length < (allL L).length → YieldAt Fence.wide (n - 1) Tryd.prog l #[.int .i64 (x : Int)] W fun e W' =>
      (e = .returned (.bool true) ∧ J (pre ++ [x]) W' ∧ Kp W W') ∨ (e = .returned (.bool false) ∧ Jx (pre ++ [x]) W'))
    (hIv : ∀ W, Iv W → It n₀ W B p L) (hkp : ∀ W W', Kp W W' → Iv W → Iv W') (W : World) (hI : Iv W) (h0 : J [] W) :
    CallsIn Fence.wide n Tryd.prog 55 #[.func (.yield l) #[] #[], .pointer (some ⟨B, 0, none⟩)] W fun e W' => (∃ v, e = .returned v) ∧
      ((∃ ys, ys = allL L ∧ J ys W') ∨ (∃ pre, pre <+: allL L ∧ Jx pre W')) := by
  refine callsIn_of_wp Tryd.func55 rfl trivial ?_ rfl
  simp only [Tryd.ntmps55, List.size_toArray, List.length_cons, List.length_nil, Nat.reduceAdd, Nat.reduceSub, Array.replicate_succ, Array.replicate_zero, List.push_toArray, List.append_toArray, List.nil_append, List.cons_append]
  have hc := (hIv _ hI).box.cell
  have hN := hide ((hIv _ hI).next 0)
  gi_wp2_with fail
  refine ⟨trivial, ?_⟩
  refine (callsIn_wide.2 hN.out).mono ?_
  rintro e w' ⟨r, rfl, hS, rfl⟩
  have HS := hide hS
  clear hN hS hc
  gi_wp2
  gi_loopw [3] (fun q wr => ∃ (i : Nat) (r : Int), q = .int .i64 r ∧ Hid (Seek L true i r) ∧ J (allTo L i) wr ∧ Iv wr) (fun q _ => leftOf L.length q)
  case atStart => exact ⟨0, r, rfl, HS, h0, hI⟩
  case round =>
    obtain ⟨i, r, rfl, hS, hJ, hI⟩ := hrel
    rcases hS.out.cases with rfl | ⟨k, rfl, hik, hkL⟩
    · gi_wp2
      go_end0
      exact ⟨⟨_, rfl⟩, .inl ⟨_, rfl, by rw [← hS.out.none_all]; exact hJ⟩⟩
    · obtain ⟨he, _, _, hlt⟩ := hS.out.some_all
      obtain ⟨fn, tmps, assign, body, hy, hR⟩ := hY _ k wr hJ hlt
      have He := hide he
      clear he
      have hk0 : ((k : Int) == -1) = false := by simp
      gi_wp2
      refine hR.mono ?_
      rintro e W3 (⟨rfl, hJ3, hk3⟩ | ⟨rfl, hJx3⟩)
      · have hI3 := hkp _ _ hk3 hI
        have hc3 := (hIv _ hI3).box.cell
        have hN3 := hide ((hIv _ hI3).next ((k : Int) + 1))
        have hkk : (k : Int) ≤ 65536 := by omega
        gi_wp2_with fail
        refine ⟨trivial, ?_⟩
        refine (callsIn_wide.2 hN3.out).mono ?_
        rintro e w4 ⟨r2, rfl, hS2, rfl⟩
        rw [show ((k : Int) + 1).toNat = k + 1 by omega] at hS2
        have HS2 := hide hS2
        clear hS2 hc3 hN3
        gi_wp2
        go_roundw
        case rel => exact ⟨k + 1, r2, rfl, HS2, by rw [He.out]; exact hJ3, hI3⟩
        case measure =>
          rcases HS2.out.cases with rfl | ⟨k2, rfl, h1, h2⟩
          · rw [leftOf_neg, leftOf_nat]; omega
          · rw [leftOf_nat, leftOf_nat]; omega
      · gi_wp2
        refine bodyPost_ret (results_none rfl _ _ _) rfl ?_
        exact ⟨⟨_, rfl⟩, .inr ⟨_, by rw [← He.out]; exact allTo_prefix L (k + 1) L.length (by omega), hJx3⟩⟩


/-- Below B all but block x is as it was. -/
structure BelowBut (B x : Nat) (w w' : World) : Prop where
  os : w'.os = w.os
  tape : w'.tape = w.tape
  output : w'.output = w.output
  size : w.heap.size ≤ w'.heap.size
  block : ∀ k, k < B → k ≠ x → w'.heap[k]? = w.heap[k]?
theorem BelowBut.refl (B x : Nat) (w : World) : BelowBut B x w w := ⟨rfl, rfl, rfl, Nat.le_refl _, fun _ _ _ => rfl⟩
theorem BelowBut.trans {B x : Nat} {a b c : World} (h : BelowBut B x a b) (k : BelowBut B x b c) : BelowBut B x a c :=
  ⟨k.os.trans h.os, k.tape.trans h.tape, k.output.trans h.output, Nat.le_trans h.size k.size, fun i hi hx => (k.block i hi hx).trans (h.block i hi hx)⟩
theorem BelowBut.of {B x : Nat} {a b : World} {row : Option Nat} (h : a.grownBy b row) (hB : B ≤ a.heap.size) (hr : ∀ k, row = some k → k = x ∨ B ≤ k) : BelowBut B x a b :=
  ⟨h.os, h.tape, h.output, h.size, fun k hk hx => h.block k (by omega) (fun e => by rcases hr k e.symm with h1 | h1 <;> omega)⟩
theorem BelowBut.putObj {B x : Nat} {w : World} (hn : B ≤ w.heap.size) (W : World) (l : Nat) (o o' : Obj) (hl : w.heap.size ≤ l) (_ : W.heap[l]? = some o) (_ : o.isCells = false) (_ : o.isWalk = false) : BelowBut B x W (W.putObj l o') :=
  ⟨rfl, rfl, rfl, by simp, fun k hk _ => World.putObj_heap_other (fun e => by omega)⟩
theorem SetAt.but {B x : Nat} {w w' : World} {b g : Nat} {L : List Bool} (h : SetAt w b g L) (hB : BelowBut B x w w') (hb : b < B) (hg : g < B) (hbx : b ≠ x) (hgx : g ≠ x) : SetAt w' b g L := by
  obtain ⟨W, cap, cur, h1, h2, h3⟩ := h
  exact ⟨W, cap, cur, (hB.block b hb hbx).trans h1, (hB.block g hg hgx).trans h2, h3⟩
theorem Tab.but {B x : Nat} {w w' : World} (h : Tab w) (hB : BelowBut B x w w') (hn : 0 < B) (hx : x ≠ 0) : Tab w' := fun j hj => (World.cell?_of_block (hB.block 0 hn (fun e => hx e.symm))).trans (h j hj)
theorem all_stops_gen (Kp : World → World → Prop) (Iv : World → Prop) (n : Nat) (hn : 1 ≤ n) (B n₀ : Nat) (p : Option Addr) (L : List Bool) (w : World) (hIv : ∀ W, Iv W → It n₀ W B p L) (hkp : ∀ W W', Kp W W' → Iv W → Iv W') (hI : ∀ W, Below w.heap.size w W → Iv W) (hL : L.length ≤ 65536) :
    SeqStopsK Fence.wide n Tryd.prog 55 #[.pointer (some ⟨B, 0, none⟩)] (fun x : Nat => #[Value.int .i64 (x : Int)]) Kp (fun ys => ys = allL L) (fun pre => pre <+: allL L) (allL L).length w := fun l J Jx W hW _ _ hY h0 =>
  all1_gen Kp Iv n hn l B n₀ p L hL J Jx hY hIv hkp W (hI W hW) h0

set_option maxHeartbeats 400000 in
/-- All, of a set: the iterator's blocks are new. -/
theorem all_fresh (b g : Nat) (L : List Bool) (w : World) (h : SetAt w b g L) (hT : Tab w) :
    Calls Tryd.prog 27 #[.pointer (some ⟨b, 0, none⟩)] w fun e w' => ∃ B b' g', e = .returned (.func (.func 55) #[] #[.pointer (some ⟨B, 0, none⟩)]) ∧ Boxed w' B 24 (.pointer (some ⟨b', 0, none⟩)) ∧ SetAt w' b' g' L ∧ w.heap.size ≤ B ∧ w.heap.size ≤ b' ∧ w.heap.size ≤ g' ∧ w.grownBy w' none := by
  have H := hide (copy_any b g L w h hT.lt)
  clear h hT
  go_enter Tryd.func27, Tryd.ntmps27
  go_wp2_with fail
  refine H.out.mono ?_
  rintro e w' ⟨b', g', rfl, h1, h2, h3, h4⟩
  have HQ := hide (And.intro h1 h4)
  have hsz : w.heap.size ≤ w'.heap.size := h4.size
  clear h1 h4 H
  go_wp2
  go_ret
  exact ⟨w'.heap.size, b', g', rfl, Boxed.new w' 24 _, HQ.out.1.kept (World.grownBy_alloc w' _ none) (by simp) (by simp), hsz, h2, h3, grown_trans HQ.out.2 (World.grownBy_alloc w' _ none)⟩

end Go.Proofs.YtajdgkbeenalkaaDoor
