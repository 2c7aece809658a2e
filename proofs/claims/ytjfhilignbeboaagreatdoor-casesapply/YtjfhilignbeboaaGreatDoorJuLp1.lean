import Derived.Test.YtjfhilignbeboaaGreatDoorJuLp0
import Derived.Test.YtjfhilignbeboaaGreatDoorJuAs
import Derived.Test.YtjfhilignbeboaaGreatDoorJuAo
namespace Go.Proofs.YtjfhilignbeboaaGreatDoor
/- Why a change is refused. -/
open Go.RowKit
attribute [local go_sem ↓] Go.wp_at_zero Go.wp_at_succ
attribute [local go_sem] Oper.semAt_some
theorem bx3 {w : World} {g : Nat} {t : TypeId} {x y z : Value} (h : w.heap[g]? = some (.cells [x, y, z].toArray t (0, 0))) : w.cell? ⟨g, 0, none⟩ = some x ∧ w.cell? ⟨g, 1, none⟩ = some y ∧ w.cell? ⟨g, 2, none⟩ = some z := ⟨by rw [cell_row h]; rfl, by rw [cell_row h]; rfl, by rw [cell_row h]; rfl⟩
theorem bx4p {w : World} {g : Nat} {t : TypeId} {x y z u : Value} (h : w.heap[g]? = some (.cells [x, y, z, u].toArray t (0, 0))) : w.cell? ⟨g, 0, none⟩ = some x ∧ w.cell? ⟨g, 1, none⟩ = some y ∧ w.cell? ⟨g, 2, none⟩ = some z ∧ w.cell? ⟨g, 3, none⟩ = some u := ⟨by rw [cell_row h]; rfl, by rw [cell_row h]; rfl, by rw [cell_row h]; rfl, by rw [cell_row h]; rfl⟩
theorem Lk.shape {w W : World} {b : Nat} {S : Sb} {K : Nat} {p : Bp} {Bs : List (Nat × List Value × TypeId)} (h : Lk w W b S K p Bs) : Calls Tryz.prog 61 #[.pointer (some ⟨b, 0, none⟩)] W fun e w' => e = .returned (limV S.a S.b S.c) ∧ Lk w w' b S K p Bs := by
  have := shape_any h.bk; rw [h.eb] at this
  exact this.mono (fun _ _ x => ⟨x.1, h.then x.2⟩)
set_option maxRecDepth 20000 in
set_option maxHeartbeats 16000000 in
theorem why_any {w W : World} {b : Nat} {S : Sb} {K : Nat} {p : Bp} {Bs : List (Nat × List Value × TypeId)} (h : Lk w W b S K p Bs) (ho : S.Ok) (q : Rs.Rq) (hq : q.Ok) (hu : 0 ≤ q.u ∧ q.u ≤ 8) (room e : Int) (hy : Why S q room e) : Calls Tryz.prog 22 #[.pointer (some ⟨b, 0, none⟩), Rs.rqV q, .int .i64 room, .int .i64 e] W fun x w' => x = .returned (.bool true) ∧ Lk w w' b S K p Bs := by
  have ht0 := ho.t0
  have ht1 := ho.t1
  have hi0 := hq.i0
  have hi1 := hq.i1
  have L0 := hide (h.box [Value.int .i64 q.k, .int .u32 q.t, .int .u32 q.i, .int .i64 q.s, .int .i64 q.u] 25)
  obtain ⟨sk, hsk⟩ : ∃ sk : Nat, q.i = (sk : Int) := ⟨q.i.toNat, by omega⟩
  have HG : Hid (∀ W' Cs, Lk w W' b S K p Cs → Calls Tryz.prog 25 #[.pointer (some ⟨b, 0, none⟩), .int .u32 q.i] W' fun e w' => e = .returned (.tuple #[bgV ((fnd S.L q.i.toNat).getD ⟨0, 0, 0⟩), .int .i64 (if (fnd S.L q.i.toNat).isSome then 0 else 171)]) ∧ Lk w w' b S K p Cs) := fun W' Cs h => by
    have := h.get ho.wk sk (by omega)
    rw [show q.i.toNat = sk from by omega, hsk]
    exact this
  have HA : Hid (∀ W' Cs, Lk w W' b S K p Cs → Calls Tryz.prog 35 #[.pointer (some ⟨b, 0, none⟩), .int .i64 q.s] W' fun e w' => e = .returned (.tuple #[bgV (atX S q.s), .int .i64 (atE S q.s)]) ∧ Lk w w' b S K p Cs) := fun W' Cs h => h.seat ho.wk q.s
  have HC : Hid (∀ W' Cs, Lk w W' b S K p Cs → Calls Tryz.prog 28 #[.pointer (some ⟨b, 0, none⟩)] W' fun e w' => e = .returned (.int .i64 S.t) ∧ Lk w w' b S K p Cs) := fun W' Cs h => h.clock.mono (fun _ _ x => ⟨x.1, by rw [x.2]; exact h⟩)
  have HL : Hid (∀ W' Cs, Lk w W' b S K p Cs → Calls Tryz.prog 27 #[.pointer (some ⟨b, 0, none⟩)] W' fun e w' => e = .returned (.int .i64 (S.L.length : Int)) ∧ Lk w w' b S K p Cs) := fun W' Cs h => h.len.mono (fun _ _ x => ⟨x.1, by rw [x.2]; exact h⟩)
  have HN : Hid (∀ W' Cs, Lk w W' b S K p Cs → Calls Tryz.prog 26 #[.pointer (some ⟨b, 0, none⟩)] W' fun e w' => e = .returned (.int .u32 (S.n : Int)) ∧ Lk w w' b S K p Cs) := fun W' Cs h => h.next.mono (fun _ _ x => ⟨x.1, by rw [x.2]; exact h⟩)
  have HS : Hid (∀ W' Cs, Lk w W' b S K p Cs → Calls Tryz.prog 61 #[.pointer (some ⟨b, 0, none⟩)] W' fun e w' => e = .returned (limV S.a S.b S.c) ∧ Lk w w' b S K p Cs) := fun W' Cs h => h.shape
  have hT : Hid (0 ≤ S.t ∧ S.t ≤ 1099511627776 ∧ 0 ≤ q.u ∧ q.u ≤ 8) := ⟨ht0, ht1, hu.1, hu.2⟩
  have HY := hide hy
  clear h ho hq hu ht0 ht1 hi0 hi1 hsk hy
  unfold Why at HY
  generalize hge : (if (fnd S.L q.i.toNat).isSome then (0 : Int) else 171) = ge at *
  have HGE := hide hge
  clear hge
  generalize (fnd S.L q.i.toNat).getD ⟨0, 0, 0⟩ = gx at *
  generalize (fnd S.L q.i.toNat).isSome = gs at *
  generalize atX S q.s = ax at *
  generalize atE S q.s = ae at *
  generalize S.t = st at *
  generalize S.n = sn at *
  generalize S.L.length = sl at *
  obtain ⟨qk, qt, qi, qs, qu⟩ := q
  obtain ⟨g0, g1, g2⟩ := gx
  obtain ⟨a0, a1, a2⟩ := ax
  unfold bgV at HG HA
  unfold Rs.rqV limV at *
  simp only at *
  go_enter Tryz.func22, Tryz.ntmps22
  obtain ⟨q0, q1, q2, q3, q4⟩ := bx5 L0.out.b0
  go_wp2_with fail
  generalize W.heap.size = X at *
  generalize World.alloc W _ = w1 at *
  refine (HG.out _ _ L0.out).mono ?_
  rintro e w2 ⟨rfl, h2⟩
  have L2 := hide (h2.box [Value.int .u32 (g0 : Int), .int .i64 (g1 : Int), .int .i64 g2] 51)
  clear h2 L0 HG q0 q1 q2 q3 q4
  go_upto_region 2 with fail
  generalize w2.heap.size = Y at *
  generalize World.alloc w2 _ = w3 at *
  obtain ⟨q0, q1, q2, q3, q4⟩ := bx5 L2.out.b1
  go_wp2_with fail
  refine (HA.out _ _ L2.out).mono ?_
  rintro e w4 ⟨rfl, h4⟩
  have L4 := hide (h4.box [Value.int .u32 (a0 : Int), .int .i64 (a1 : Int), .int .i64 a2] 51)
  clear h4 L2 HA q0 q1 q2 q3 q4
  go_upto_region 3 with fail
  generalize w4.heap.size = Z at *
  generalize World.alloc w4 _ = w5 at *
  obtain ⟨q0, q1, q2, q3, q4⟩ := bx5 L4.out.b2
  obtain ⟨y0, y1, y2⟩ := bx3 L4.out.b1
  obtain ⟨z0, z1, z2⟩ := bx3 L4.out.b0
  rcases HY.out with ⟨rfl, h1⟩ | ⟨rfl, h1⟩ | ⟨rfl, h1⟩ | ⟨rfl, h1, h2⟩ | ⟨rfl, h1⟩ | ⟨rfl, h1⟩ | ⟨rfl, h1⟩
  · subst h1
    clear HY
    go_wp2
    go_ret
    exact ⟨rfl, L4.out.sub (fun x hx => List.mem_cons_of_mem _ (List.mem_cons_of_mem _ (List.mem_cons_of_mem _ hx)))⟩
  · clear HY
    rcases h1 with h1 | h1
    · have d1 : decide (qu < 1) = true := decide_eq_true h1
      go_wp2
      go_ret
      exact ⟨rfl, L4.out.sub (fun x hx => List.mem_cons_of_mem _ (List.mem_cons_of_mem _ (List.mem_cons_of_mem _ hx)))⟩
    · exact absurd hT.out.2.2.2 (by omega)
  · obtain ⟨sm, hsm⟩ : ∃ sm, sm = st + qu := ⟨_, rfl⟩
    have hw : IntKind.i64.wrap (st + qu) = sm := by have := hT.out; rw [IntKind.wrap_i64]; omega
    rw [← hsm] at h1
    have d1 : decide (1099511627776 < sm) = true := decide_eq_true h1
    have HSM := hide hsm
    clear hsm HY
    go_wp2
    go_region_held3 (fun W => W.cell? ⟨X, 4, none⟩ = some (.int .i64 qu)) (assumption) ((go_at_call 28; refine (HC.out _ _ (L4.out.then (grown_drew _ none))).mono ?_; rintro e w6 ⟨rfl, h6⟩; have L6 := hide h6; have hJ6 := (bx5 h6.b2).2.2.2.2; clear h6))
    go_wp2
    go_ret
    exact ⟨rfl, L6.out.sub (fun x hx => List.mem_cons_of_mem _ (List.mem_cons_of_mem _ (List.mem_cons_of_mem _ hx)))⟩
  · subst h1
    clear HY
    have d1 : ((a0 : Int) != qi) = true := by simpa using h2
    have d2 : decide ((a0 : Int) = qi) = false := decide_eq_false h2
    have d3 : ((a0 : Int) == qi) = false := by simpa using h2
    go_wp2
    go_ret
    exact ⟨rfl, L4.out.sub (fun x hx => List.mem_cons_of_mem _ (List.mem_cons_of_mem _ (List.mem_cons_of_mem _ hx)))⟩
  · clear HY
    have HFB := fieldB (S.a : Int) (S.b : Int) (S.c : Int)
    rcases h1 with h1 | h1
    · have d1 : ((sl : Int) == (S.b : Int)) = true := by rw [h1]; simp
      have d2 : decide ((sl : Int) = (S.b : Int)) = true := by rw [h1]; simp
      have H1 := hide h1
      clear h1
      go_wp2_with fail
      refine (HL.out _ _ L4.out).mono ?_
      rintro e w6 ⟨rfl, h6⟩
      have L6 := hide h6
      clear h6
      go_wp2_with fail
      refine (HS.out _ _ L6.out).mono ?_
      rintro e w7 ⟨rfl, h7⟩
      have L7 := hide h7
      clear h7
      go_wp2
      go_ret
      exact ⟨rfl, L7.out.sub (fun x hx => List.mem_cons_of_mem _ (List.mem_cons_of_mem _ (List.mem_cons_of_mem _ hx)))⟩
    · have d1 : ((sn : Int) == 4294967295) = true := by rw [h1]; rfl
      have d2 : decide ((sn : Int) = 4294967295) = true := by rw [h1]; rfl
      clear h1
      go_wp2_with fail
      refine (HL.out _ _ L4.out).mono ?_
      rintro e w6 ⟨rfl, h6⟩
      have L6 := hide h6
      clear h6
      go_wp2_with fail
      refine (HS.out _ _ L6.out).mono ?_
      rintro e w7 ⟨rfl, h7⟩
      have L7 := hide h7
      clear h7
      by_cases hx : (sl : Int) = (S.b : Int)
      · have d3 : ((sl : Int) == (S.b : Int)) = true := by rw [hx]; simp
        have d4 : decide ((sl : Int) = (S.b : Int)) = true := by rw [hx]; simp
        clear hx
        go_wp2
        go_ret
        exact ⟨rfl, L7.out.sub (fun x hx => List.mem_cons_of_mem _ (List.mem_cons_of_mem _ (List.mem_cons_of_mem _ hx)))⟩
      · have d3 : ((sl : Int) == (S.b : Int)) = false := by simpa using hx
        have d4 : decide ((sl : Int) = (S.b : Int)) = false := decide_eq_false hx
        clear hx
        go_wp2_with fail
        refine (HN.out _ _ L7.out).mono ?_
        rintro e w8 ⟨rfl, h8⟩
        have L8 := hide h8
        clear h8
        go_wp2
        go_ret
        exact ⟨rfl, L8.out.sub (fun x hx => List.mem_cons_of_mem _ (List.mem_cons_of_mem _ (List.mem_cons_of_mem _ hx)))⟩
  · subst h1
    have hg : ge = 171 := by rw [← HGE.out]; rfl
    subst hg
    clear HY HGE
    go_wp2
    go_ret
    exact ⟨rfl, L4.out.sub (fun x hx => List.mem_cons_of_mem _ (List.mem_cons_of_mem _ (List.mem_cons_of_mem _ hx)))⟩
  · have d1 : decide (room < 37) = true := decide_eq_true h1
    clear HY
    go_wp2
    go_ret
    exact ⟨rfl, L4.out.sub (fun x hx => List.mem_cons_of_mem _ (List.mem_cons_of_mem _ (List.mem_cons_of_mem _ hx)))⟩
end Go.Proofs.YtjfhilignbeboaaGreatDoor
