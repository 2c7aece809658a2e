/- Texts joined: Cs1, Cp, Cr, BkX, Cs2. -/
import Derived.Test.YtjfhilignbeboaaGreatDoorJuAm
import Derived.Test.YtjfhilignbeboaaGreatDoorJuAn
import Derived.Laws.ResultCell
import Derived.Laws.EntriesVeiled
import Derived.RangeFuncWrites
import Derived.Test.YtjfhilignbeboaaGreatDoorJuAl
namespace Go.Proofs.YtjfhilignbeboaaGreatDoor
/- A book that is looked at, beside boxes of the call's own; results in boxes. -/
open Go.RowKit
attribute [local go_sem ↓] Go.wp_at_zero Go.wp_at_succ
attribute [local go_sem] Oper.semAt_some
structure Mt (w W : World) (p : Bp) (S : Sb) (K : Nat) (Bs : List (Nat × List Value × TypeId)) : Prop where
  bk : BkAt W p S K
  st : Kept w W p.own
  bx : ∀ x ∈ Bs, W.heap[x.1]? = some (.cells x.2.1.toArray x.2.2 (0, 0)) ∧ ¬ p.own x.1 ∧ w.heap.size ≤ x.1
section
variable {w W W' : World} {p : Bp} {S : Sb} {K : Nat} {Bs Cs : List (Nat × List Value × TypeId)}
theorem Mt.start (h : BkAt w p S K) : Mt w w p S K [] := ⟨h, Kept.refl _ _, fun x hx => by cases hx⟩
theorem Mt.go (h : Mt w W p S K Bs) (k : Kept W W' p.own) (hb : BkAt W' p S K) : Mt w W' p S K Bs :=
  ⟨hb, h.st.trans k (fun _ _ e => e), fun x hx => by
    obtain ⟨h1, h2, h3⟩ := h.bx x hx
    exact ⟨k.at h1 h2, h2, h3⟩⟩
theorem Mt.then (h : Mt w W p S K Bs) (g : W.grownBy W' none) : Mt w W' p S K Bs := h.go (Kept.new g _) (h.bk.then g)
theorem Mt.mt (h : Mt w W p S K Bs) (k : Mt W W' p S K Cs) : Mt w W' p S K Bs := h.go k.st k.bk
theorem Mt.drew (h : Mt w W p S K Bs) : Mt w W.drew p S K Bs := h.then (grown_drew W none)
theorem Mt.sub (h : Mt w W p S K Bs) (hs : ∀ x ∈ Cs, x ∈ Bs) : Mt w W p S K Cs := ⟨h.bk, h.st, fun x hx => h.bx x (hs x hx)⟩
theorem Mt.bare (h : Mt w W p S K Bs) : Mt w W p S K [] := h.sub (fun x hx => by cases hx)
theorem Mt.box (h : Mt w W p S K Bs) (cs : List Value) (ty : TypeId) : Mt w (W.alloc (.cells cs.toArray ty)) p S K ((W.heap.size, cs, ty) :: Bs) := by
  have h1 := h.then (grown_alloc W (.cells cs.toArray ty))
  refine ⟨h1.bk, h1.st, fun x hx => ?_⟩
  rcases List.mem_cons.1 hx with rfl | hx
  · exact ⟨heap_alloc_new W _, fun e => Nat.lt_irrefl _ (h.bk.lt _ e), h.st.size⟩
  · exact h1.bx x hx
theorem Mt.cell {X : Nat} {cs : List Value} {ty : TypeId} (h : Mt w W p S K Bs) (hm : (X, cs, ty) ∈ Bs) (j : Nat) (v : Value) (hv : cs[j]? = some v) : W.cell? ⟨X, j, none⟩ = some v := by
  rw [cell_row (h.bx _ hm).1]; exact hv
theorem Mt.free {X : Nat} {cs : List Value} {ty : TypeId} (h : Mt w W p S K Bs) (hm : (X, cs, ty) ∈ Bs) (j : Nat) : W.frozen? ⟨X, j, none⟩ = false := free_row (h.bx _ hm).1 j
/-- A box that is none of the book's is written. -/
theorem Mt.wrote {X : Nat} (h : Mt w W p S K Bs) (g : W.grownBy W' (some X)) (hX : ¬ p.own X) (h0 : w.heap.size ≤ X) : Mt w W' p S K [] := by
  have k : Kept W W' (fun i => i = X) := Kept.of g (fun j e _ => (Option.some.inj e).symm)
  refine ⟨h.bk.far k (fun i hi e => hX (by rw [← e]; exact hi)), h.st.trans k (fun i hi e => by omega), fun x hx => by cases hx⟩
end
theorem Mt.b0 {w W : World} {p : Bp} {S : Sb} {K : Nat} {Bs : List (Nat × List Value × TypeId)} {x : Nat × List Value × TypeId} (h : Mt w W p S K (x :: Bs)) : W.heap[x.1]? = some (.cells x.2.1.toArray x.2.2 (0, 0)) := (h.bx x (List.mem_cons_self ..)).1
theorem Mt.b1 {w W : World} {p : Bp} {S : Sb} {K : Nat} {Bs : List (Nat × List Value × TypeId)} {y0 x : Nat × List Value × TypeId} (h : Mt w W p S K (y0 :: x :: Bs)) : W.heap[x.1]? = some (.cells x.2.1.toArray x.2.2 (0, 0)) := (h.bx x (List.mem_cons_of_mem _ (List.mem_cons_self ..))).1
theorem Mt.b2 {w W : World} {p : Bp} {S : Sb} {K : Nat} {Bs : List (Nat × List Value × TypeId)} {y0 y1 x : Nat × List Value × TypeId} (h : Mt w W p S K (y0 :: y1 :: x :: Bs)) : W.heap[x.1]? = some (.cells x.2.1.toArray x.2.2 (0, 0)) := (h.bx x (List.mem_cons_of_mem _ (List.mem_cons_of_mem _ (List.mem_cons_self ..)))).1
theorem Mt.b3 {w W : World} {p : Bp} {S : Sb} {K : Nat} {Bs : List (Nat × List Value × TypeId)} {y0 y1 y2 x : Nat × List Value × TypeId} (h : Mt w W p S K (y0 :: y1 :: y2 :: x :: Bs)) : W.heap[x.1]? = some (.cells x.2.1.toArray x.2.2 (0, 0)) := (h.bx x (List.mem_cons_of_mem _ (List.mem_cons_of_mem _ (List.mem_cons_of_mem _ (List.mem_cons_self ..))))).1
theorem Mt.b4 {w W : World} {p : Bp} {S : Sb} {K : Nat} {Bs : List (Nat × List Value × TypeId)} {y0 y1 y2 y3 x : Nat × List Value × TypeId} (h : Mt w W p S K (y0 :: y1 :: y2 :: y3 :: x :: Bs)) : W.heap[x.1]? = some (.cells x.2.1.toArray x.2.2 (0, 0)) := (h.bx x (List.mem_cons_of_mem _ (List.mem_cons_of_mem _ (List.mem_cons_of_mem _ (List.mem_cons_of_mem _ (List.mem_cons_self ..)))))).1
theorem Mt.b5 {w W : World} {p : Bp} {S : Sb} {K : Nat} {Bs : List (Nat × List Value × TypeId)} {y0 y1 y2 y3 y4 x : Nat × List Value × TypeId} (h : Mt w W p S K (y0 :: y1 :: y2 :: y3 :: y4 :: x :: Bs)) : W.heap[x.1]? = some (.cells x.2.1.toArray x.2.2 (0, 0)) := (h.bx x (List.mem_cons_of_mem _ (List.mem_cons_of_mem _ (List.mem_cons_of_mem _ (List.mem_cons_of_mem _ (List.mem_cons_of_mem _ (List.mem_cons_self ..))))))).1
theorem Mt.b6 {w W : World} {p : Bp} {S : Sb} {K : Nat} {Bs : List (Nat × List Value × TypeId)} {y0 y1 y2 y3 y4 y5 x : Nat × List Value × TypeId} (h : Mt w W p S K (y0 :: y1 :: y2 :: y3 :: y4 :: y5 :: x :: Bs)) : W.heap[x.1]? = some (.cells x.2.1.toArray x.2.2 (0, 0)) := (h.bx x (List.mem_cons_of_mem _ (List.mem_cons_of_mem _ (List.mem_cons_of_mem _ (List.mem_cons_of_mem _ (List.mem_cons_of_mem _ (List.mem_cons_of_mem _ (List.mem_cons_self ..)))))))).1
theorem Mt.b7 {w W : World} {p : Bp} {S : Sb} {K : Nat} {Bs : List (Nat × List Value × TypeId)} {y0 y1 y2 y3 y4 y5 y6 x : Nat × List Value × TypeId} (h : Mt w W p S K (y0 :: y1 :: y2 :: y3 :: y4 :: y5 :: y6 :: x :: Bs)) : W.heap[x.1]? = some (.cells x.2.1.toArray x.2.2 (0, 0)) := (h.bx x (List.mem_cons_of_mem _ (List.mem_cons_of_mem _ (List.mem_cons_of_mem _ (List.mem_cons_of_mem _ (List.mem_cons_of_mem _ (List.mem_cons_of_mem _ (List.mem_cons_of_mem _ (List.mem_cons_self ..))))))))).1
end Go.Proofs.YtjfhilignbeboaaGreatDoor
namespace Go.Proofs.YtjfhilignbeboaaGreatDoor
/- cases: what does not ask the book. -/
open Go.RowKit
attribute [local go_sem ↓] Go.wp_at_zero Go.wp_at_succ
attribute [local go_sem] Oper.semAt_some
set_option maxHeartbeats 2000000 in
theorem fsize_any (n : Nat) (h : n ≤ 32) (w : World) : Calls Tryz.prog 140 #[.int .i64 (n : Int)] w fun e w' => e = .returned (.int .i64 (22 + (n : Int))) ∧ w' = w := by
  have h1 : (0 : Int) ≤ (n : Int) := by omega
  have h2 : (n : Int) ≤ 32 := by omega
  clear h
  go_enter Tryz.func140, Tryz.ntmps140
  go_wp2
  go_ret
  refine ⟨?_, rfl⟩
  go_num
set_option maxHeartbeats 2000000 in
theorem ttl_any (b : Nat) (room : Int) (q : Rs.Rq) (w : World) : Calls Tryz.prog 76 #[maV b room q] w fun e w' => e = .returned (.int .i64 (ttE q)) ∧ w.grownBy w' none := by
  have hG := hide (grown_alloc w (.cells (maC b room q).toArray 83))
  unfold maV ttE mxT
  unfold maC at hG
  rcases (show q.u < 1 ∨ (1 ≤ q.u ∧ q.u ≤ 1073741824) ∨ (1 ≤ q.u ∧ 1073741824 < q.u) by omega) with h | ⟨h, h2⟩ | ⟨h, h2⟩
  · rw [if_neg (by omega)]
    go_enter Tryz.func76, Tryz.ntmps76
    go_wp2
    go_ret
    exact ⟨rfl, hG.out⟩
  · rw [if_pos (by omega)]
    go_enter Tryz.func76, Tryz.ntmps76
    go_wp2
    go_ret
    exact ⟨rfl, hG.out⟩
  · rw [if_neg (by omega)]
    go_enter Tryz.func76, Tryz.ntmps76
    go_wp2
    go_ret
    exact ⟨rfl, hG.out⟩
set_option maxHeartbeats 2000000 in
theorem refusal_any (q : Rs.Rq) (e : Int) (w : World) : Calls Tryz.prog 34 #[Rs.rqV q, .int .i64 e] w fun r w' => r = .returned (Rt.ryV (rfY q e)) ∧ w.grownBy w' none := by
  unfold Rs.rqV Rt.ryV rfY
  go_enter Tryz.func34, Tryz.ntmps34
  go_wp2
  exact bodyPost_ret (results_cell_row rfl _ _ (w.heap.size + 1) 31 _ (0, 0) _ rfl (new2 w _ _) Tryz.underlying31 rfl (by kernel_rfl)) rfl ⟨rfl, grown_alloc2 w _ _⟩
set_option maxHeartbeats 4000000 in
theorem reply_any (q : Rs.Rq) (r : Rc) (w : World) : Calls Tryz.prog 19 #[Rs.rqV q, Rk.rcV r] w fun e w' => e = .returned (Rt.ryV (rpY q r)) ∧ w.grownBy w' none := by
  unfold Rs.rqV Rt.ryV rpY Rk.rcV
  obtain ⟨k, t, i, s, u⟩ := q
  simp only
  rcases (show k = 1 ∨ k = 4 ∨ k = 7 ∨ (k ≠ 1 ∧ k ≠ 4 ∧ k ≠ 7) by omega) with rfl | rfl | rfl | ⟨h1, h2, h3⟩
  · simp only [if_true, if_false, show ((1 : Int) = 4) = False from by decide, show ((1 : Int) = 7) = False from by decide]
    go_enter Tryz.func19, Tryz.ntmps19
    go_wp2
    (try go_region)
    all_goals (try go_wp2)
    all_goals first
      | exact bodyPost_ret (results_cell_row rfl _ _ (w.heap.size + 1 + 1) 31 _ (0, 0) _ rfl (drew_at (new34 w _ _ _ _)) Tryz.underlying31 rfl (by kernel_rfl)) rfl ⟨rfl, grown_trans (grown_alloc4 w _ _ _ _) (grown_drew _ none)⟩
      | exact bodyPost_ret (results_cell_row rfl _ _ (w.heap.size + 1 + 1) 31 _ (0, 0) _ rfl (new34 w _ _ _ _) Tryz.underlying31 rfl (by kernel_rfl)) rfl ⟨rfl, grown_alloc4 w _ _ _ _⟩
  · simp only [if_true, if_false, show ((4 : Int) = 1) = False from by decide, show ((4 : Int) = 7) = False from by decide]
    go_enter Tryz.func19, Tryz.ntmps19
    go_wp2
    (try go_region)
    all_goals (try go_wp2)
    all_goals first
      | exact bodyPost_ret (results_cell_row rfl _ _ (w.heap.size + 1 + 1) 31 _ (0, 0) _ rfl (drew_at (new34 w _ _ _ _)) Tryz.underlying31 rfl (by kernel_rfl)) rfl ⟨rfl, grown_trans (grown_alloc4 w _ _ _ _) (grown_drew _ none)⟩
      | exact bodyPost_ret (results_cell_row rfl _ _ (w.heap.size + 1 + 1) 31 _ (0, 0) _ rfl (new34 w _ _ _ _) Tryz.underlying31 rfl (by kernel_rfl)) rfl ⟨rfl, grown_alloc4 w _ _ _ _⟩
  · simp only [if_true, if_false, show ((7 : Int) = 1) = False from by decide, show ((7 : Int) = 4) = False from by decide]
    go_enter Tryz.func19, Tryz.ntmps19
    go_wp2
    (try go_region)
    all_goals (try go_wp2)
    all_goals first
      | exact bodyPost_ret (results_cell_row rfl _ _ (w.heap.size + 1 + 1) 31 _ (0, 0) _ rfl (drew_at (new34 w _ _ _ _)) Tryz.underlying31 rfl (by kernel_rfl)) rfl ⟨rfl, grown_trans (grown_alloc4 w _ _ _ _) (grown_drew _ none)⟩
      | exact bodyPost_ret (results_cell_row rfl _ _ (w.heap.size + 1 + 1) 31 _ (0, 0) _ rfl (new34 w _ _ _ _) Tryz.underlying31 rfl (by kernel_rfl)) rfl ⟨rfl, grown_alloc4 w _ _ _ _⟩
  · rw [if_neg h1, if_neg h2, if_neg h1, if_neg h3]
    go_enter Tryz.func19, Tryz.ntmps19
    go_wp2
    exact bodyPost_ret (results_cell_row rfl _ _ (w.heap.size + 1 + 1) 31 _ (0, 0) _ rfl (new34 w _ _ _ _) Tryz.underlying31 rfl (by kernel_rfl)) rfl ⟨rfl, grown_alloc4 w _ _ _ _⟩
set_option maxHeartbeats 2000000 in
/-- What asks for room: a closure over the kind. -/
theorem logHas_any (k : Int) (w : World) : Calls Tryz.prog 80 #[.int .i64 k] w fun e w' => e = .returned (.func (.func 139) #[] #[.pointer (some ⟨w.heap.size, 0, none⟩)]) ∧ w' = w.alloc (.cells #[.int .i64 k] 26) := by
  go_enter Tryz.func80, Tryz.ntmps80
  go_wp2
  go_ret
  exact ⟨rfl, rfl⟩
end Go.Proofs.YtjfhilignbeboaaGreatDoor
namespace Go.Proofs.YtjfhilignbeboaaGreatDoor
/- cases: ruleOf. -/
open Go.RowKit
attribute [local go_sem ↓] Go.wp_at_zero Go.wp_at_succ
attribute [local go_sem] Oper.semAt_some
def fnV (f : Nat) : Value := .func (.func f) #[] #[]
def lgV (c : Nat) : Value := .func (.func 139) #[] #[.pointer (some ⟨c, 0, none⟩)]
def rlV (g n f : Nat) : Value := .agg #[.slice (some ⟨g, 0, none⟩) n n, .func (.func f) #[] #[]]
/-- A list of checks, the last of them asking for the room of a record of kind k. -/
structure RlAt (w W : World) (g c : Nat) (fs : List Nat) (k : Int) : Prop where
  row : W.heap[g]? = some (.cells (fs.map fnV ++ [lgV c]).toArray 90 (0, 0))
  box : W.heap[c]? = some (.cells [Value.int .i64 k].toArray 26 (0, 0))
  g0 : w.heap.size ≤ g
  c0 : w.heap.size ≤ c
set_option maxHeartbeats 4000000 in
theorem rule_1 (w : World) : Calls Tryz.prog 33 #[.int .i64 1] w fun e w' => ∃ g c, e = .returned (rlV g 6 81) ∧ RlAt w w' g c [75, 76, 77, 78, 79] 1 ∧ w.grownBy w' none := by
  have HL := hide (logHas_any 1)
  go_enter Tryz.func33, Tryz.ntmps33
  go_wp2_with fail
  refine (HL.out _).mono ?_
  rintro e w1 ⟨rfl, rfl⟩
  go_wp2
  exact bodyPost_ret (results_cell_row rfl _ _ w.heap.size 87 _ (0, 0) _ rfl (new13 w _ _ _) Tryz.underlying87 rfl (by kernel_rfl)) rfl ⟨_, _, rfl, ⟨new3 w _ _ _, new23 w _ _ _, by omega, by omega⟩, grown_alloc3 w _ _ _⟩
set_option maxHeartbeats 4000000 in
theorem rule_2 (w : World) : Calls Tryz.prog 33 #[.int .i64 2] w fun e w' => ∃ g c, e = .returned (rlV g 2 83) ∧ RlAt w w' g c [82] 2 ∧ w.grownBy w' none := by
  have HL := hide (logHas_any 2)
  go_enter Tryz.func33, Tryz.ntmps33
  go_wp2_with fail
  refine (HL.out _).mono ?_
  rintro e w1 ⟨rfl, rfl⟩
  go_wp2
  exact bodyPost_ret (results_cell_row rfl _ _ w.heap.size 87 _ (0, 0) _ rfl (new13 w _ _ _) Tryz.underlying87 rfl (by kernel_rfl)) rfl ⟨_, _, rfl, ⟨new3 w _ _ _, new23 w _ _ _, by omega, by omega⟩, grown_alloc3 w _ _ _⟩
set_option maxHeartbeats 4000000 in
theorem rule_3 (w : World) : Calls Tryz.prog 33 #[.int .i64 3] w fun e w' => ∃ g c, e = .returned (rlV g 2 84) ∧ RlAt w w' g c [82] 3 ∧ w.grownBy w' none := by
  have HL := hide (logHas_any 3)
  go_enter Tryz.func33, Tryz.ntmps33
  go_wp2_with fail
  refine (HL.out _).mono ?_
  rintro e w1 ⟨rfl, rfl⟩
  go_wp2
  exact bodyPost_ret (results_cell_row rfl _ _ w.heap.size 87 _ (0, 0) _ rfl (new13 w _ _ _) Tryz.underlying87 rfl (by kernel_rfl)) rfl ⟨_, _, rfl, ⟨new3 w _ _ _, new23 w _ _ _, by omega, by omega⟩, grown_alloc3 w _ _ _⟩
set_option maxHeartbeats 4000000 in
theorem rule_4 (w : World) : Calls Tryz.prog 33 #[.int .i64 4] w fun e w' => ∃ g c, e = .returned (rlV g 4 85) ∧ RlAt w w' g c [82, 75, 78] 4 ∧ w.grownBy w' none := by
  have HL := hide (logHas_any 4)
  go_enter Tryz.func33, Tryz.ntmps33
  go_wp2_with fail
  refine (HL.out _).mono ?_
  rintro e w1 ⟨rfl, rfl⟩
  go_wp2
  exact bodyPost_ret (results_cell_row rfl _ _ w.heap.size 87 _ (0, 0) _ rfl (new13 w _ _ _) Tryz.underlying87 rfl (by kernel_rfl)) rfl ⟨_, _, rfl, ⟨new3 w _ _ _, new23 w _ _ _, by omega, by omega⟩, grown_alloc3 w _ _ _⟩
set_option maxHeartbeats 4000000 in
theorem rule_7 (w : World) : Calls Tryz.prog 33 #[.int .i64 7] w fun e w' => ∃ g c, e = .returned (rlV g 3 86) ∧ RlAt w w' g c [76, 77] 5 ∧ w.grownBy w' none := by
  have HL := hide (logHas_any 5)
  go_enter Tryz.func33, Tryz.ntmps33
  go_wp2_with fail
  refine (HL.out _).mono ?_
  rintro e w1 ⟨rfl, rfl⟩
  go_wp2
  exact bodyPost_ret (results_cell_row rfl _ _ w.heap.size 87 _ (0, 0) _ rfl (new13 w _ _ _) Tryz.underlying87 rfl (by kernel_rfl)) rfl ⟨_, _, rfl, ⟨new3 w _ _ _, new23 w _ _ _, by omega, by omega⟩, grown_alloc3 w _ _ _⟩
end Go.Proofs.YtjfhilignbeboaaGreatDoor
/- Books alike but for the group; their rows copied. -/
namespace Go.Proofs.YtjfhilignbeboaaGreatDoor
open Go.RowKit
attribute [local go_sem ↓] Go.wp_at_zero Go.wp_at_succ
attribute [local go_sem] Oper.semAt_some
set_option maxHeartbeats 4000000 in
theorem shape_any {w : World} {p : Bp} {S : Sb} {K : Nat} (h : BkAt w p S K) : Calls Tryz.prog 61 #[.pointer (some ⟨p.b, 0, none⟩)] w fun e w' => e = .returned (limV S.a S.b S.c) ∧ w.grownBy w' none := by
  have m0 := Bm.start h [.int .i64 0, .int .i64 0, .int .i64 0] 36
  have HC1 := hide m0.bk.isNone
  have a0 := m0.ff.a0
  have a1 := m0.ff.a1
  have a2 := m0.ff.a2
  obtain ⟨d0, d1, d2, d3⟩ := box3 m0.box
  have HM := hide m0
  clear h m0
  unfold limV
  go_enter Tryz.func61, Tryz.ntmps61
  go_wp2_with fail
  refine HC1.out.mono ?_
  rintro e w1 ⟨rfl, rfl⟩
  go_wp2
  obtain ⟨r1, r2⟩ := row3 _ HM.out.box (.int .i64 (S.a : Int)) (.int .i64 (S.b : Int)) (.int .i64 (S.c : Int))
  first
    | exact bodyPost_ret (results_cell_row rfl _ _ w.heap.size 36 #[.int .i64 (S.a : Int), .int .i64 (S.b : Int), .int .i64 (S.c : Int)] (0, 0) _ rfl r1 Tryz.underlying36 rfl (by kernel_rfl)) rfl ⟨rfl, gn_set (gn_set (gn_set HM.out.gr (Nat.le_refl _)) (Nat.le_refl _)) (Nat.le_refl _)⟩
    | exact bodyPost_ret (results_cell_row rfl _ _ w.heap.size 36 #[.int .i64 (S.a : Int), .int .i64 (S.b : Int), .int .i64 (S.c : Int)] (0, 0) _ rfl (heap_alloc_new w _) Tryz.underlying36 rfl (by kernel_rfl)) rfl ⟨rfl, grown_alloc _ _⟩
end Go.Proofs.YtjfhilignbeboaaGreatDoor
namespace Go.Proofs.YtjfhilignbeboaaGreatDoor
/- cases: the checks that ask the book. -/
open Go.RowKit
attribute [local go_sem ↓] Go.wp_at_zero Go.wp_at_succ
attribute [local go_sem] Oper.semAt_some
theorem fieldA (a b c : Int) (w : World) : (Instr.field 36 (.agg #[.int .i64 a, .int .i64 b, .int .i64 c]) 0).run Tryz.prog w = .ok (.int .i64 a) w := by kernel_rfl
theorem fieldB (a b c : Int) (w : World) : (Instr.field 36 (.agg #[.int .i64 a, .int .i64 b, .int .i64 c]) 1).run Tryz.prog w = .ok (.int .i64 b) w := by kernel_rfl
theorem geq_f {a : Act} {o : Oper} {x y : Operand} {t : TypeId} {k : IntKind} {p q : Int} (ho : o.op = .binOp .geq t x y t) (hx : a.eval x = .int k p) (hy : a.eval y = .int k q) (h : p < q) (w : World) : (execOp a.eval o).run Tryz.prog w = .ok (.value (.bool false)) w := by
  have hd : decide (p ≥ q) = false := by rw [decide_eq_false_iff_not]; omega
  unfold execOp
  simp only [ho, hx, hy]
  go_simp
theorem geq_t {a : Act} {o : Oper} {x y : Operand} {t : TypeId} {k : IntKind} {p q : Int} (ho : o.op = .binOp .geq t x y t) (hx : a.eval x = .int k p) (hy : a.eval y = .int k q) (h : q ≤ p) (w : World) : (execOp a.eval o).run Tryz.prog w = .ok (.value (.bool true)) w := by
  have hd : decide (p ≥ q) = true := by rw [decide_eq_true_iff]; omega
  unfold execOp
  simp only [ho, hx, hy]
  go_simp
section
variable {w : World} {p : Bp} {S : Sb} {K : Nat}
/-- The matter in its box, the book below. -/
theorem Bm.ma {W : World} {X : Nat} {b : Nat} {room : Int} {q : Rs.Rq} (h : Bm w W X (maC b room q) 83 p S K) : W.cell? ⟨X, 0, none⟩ = some (.pointer (some ⟨b, 0, none⟩)) ∧ W.cell? ⟨X, 1, none⟩ = some (.int .i64 room) ∧ W.cell? ⟨X, 2, none⟩ = some (.int .i64 q.k) ∧ W.cell? ⟨X, 3, none⟩ = some (.int .u32 q.t) ∧ W.cell? ⟨X, 4, none⟩ = some (.int .u32 q.i) ∧ W.cell? ⟨X, 5, none⟩ = some (.int .i64 q.s) ∧ W.cell? ⟨X, 6, none⟩ = some (.int .i64 q.u) := bx7 h.box
set_option maxHeartbeats 4000000 in
theorem seatIs_any (h : BkAt w p S K) (room : Int) (q : Rs.Rq) : Calls Tryz.prog 75 #[maV p.b room q] w fun e w' => e = .returned (.int .i64 (stE S q)) ∧ w.grownBy w' none := by
  have m0 := Bm.start h (maC p.b room q) 83
  have HS : Hid (∀ W, w.grownBy W none → Calls Tryz.prog 61 #[.pointer (some ⟨p.b, 0, none⟩)] W fun e w' => e = .returned (limV S.a S.b S.c) ∧ W.grownBy w' none) := fun W g => shape_any (h.then g)
  obtain ⟨c0, c1, c2, c3, c4, c5, c6⟩ := m0.ma
  have HM := hide m0
  clear h m0
  unfold maV
  unfold limV at HS
  unfold maC at HM c0 c1 c2 c3 c4 c5 c6
  unfold stE
  generalize hb : p.b = b at *
  have HB := hide hb
  clear hb
  generalize (S.a : Int) = sa at *
  generalize (S.b : Int) = sb' at *
  generalize (S.c : Int) = sc' at *
  generalize q.s = s at *
  have hfd := fieldA sa sb' sc'
  by_cases hs : s < sa
  · rw [if_pos hs]
    go_enter Tryz.func75, Tryz.ntmps75
    go_wp2
    generalize World.alloc w _ = w1 at *
    go_region_with (go_at_call 61; refine (HS.out _ (grown_trans HM.out.gr (grown_drew _ none))).mono ?_; rintro e w2 ⟨rfl, hg2⟩; have m2 := (HM.out.then (grown_drew w1 none)).then hg2; have d0 := m2.cells 0 _ rfl; have d5 := m2.cells 5 _ rfl; have H2 := hide m2; clear m2 hg2)
    all_goals go_wp2
    all_goals go_ret
    all_goals exact ⟨rfl, H2.out.gr⟩
  · rw [if_neg hs]
    have hs2 : sa ≤ s := by omega
    clear hs
    go_enter Tryz.func75, Tryz.ntmps75
    go_wp2
    generalize World.alloc w _ = w1 at *
    go_region_with (go_at_call 61; refine (HS.out _ (grown_trans HM.out.gr (grown_drew _ none))).mono ?_; rintro e w2 ⟨rfl, hg2⟩; have m2 := (HM.out.then (grown_drew w1 none)).then hg2; have d0 := m2.cells 0 _ rfl; have d5 := m2.cells 5 _ rfl; have H2 := hide m2; clear m2 hg2)
    all_goals go_wp2
    all_goals go_ret
    all_goals exact ⟨rfl, H2.out.gr⟩
set_option maxHeartbeats 4000000 in
theorem then_any (h : BkAt w p S K) (room : Int) (q : Rs.Rq) (h0 : 0 ≤ S.t) (h1 : S.t ≤ mxC) (h2 : 1 ≤ q.u) (h3 : q.u ≤ mxT) : Calls Tryz.prog 138 #[maV p.b room q] w fun e w' => e = .returned (.int .i64 (S.t + q.u)) ∧ w.grownBy w' none := by
  have m0 := Bm.start h (maC p.b room q) 83
  have HS : Hid (∀ W, w.grownBy W none → Calls Tryz.prog 28 #[.pointer (some ⟨p.b, 0, none⟩)] W fun e w' => e = .returned (.int .i64 S.t) ∧ w' = W) := fun W g => clock_any (h.then g)
  obtain ⟨c0, c1, c2, c3, c4, c5, c6⟩ := m0.ma
  have HM := hide m0
  clear h m0
  have hw : IntKind.i64.wrap (S.t + q.u) = S.t + q.u := by unfold mxT at h3; unfold mxC at h1; rw [IntKind.wrap_i64]; omega
  clear h0 h1 h2 h3
  unfold maV
  unfold maC at HM c0 c1 c2 c3 c4 c5 c6
  generalize hb : p.b = b at *
  have HB := hide hb
  clear hb
  generalize S.t = t at *
  generalize q.u = u at *
  go_enter Tryz.func138, Tryz.ntmps138
  go_wp2
  generalize World.alloc w _ = w1 at *
  go_region_held3 (fun W => W.cell? ⟨w.heap.size, 0, none⟩ = some (.pointer (some ⟨b, 0, none⟩)) ∧ W.cell? ⟨w.heap.size, 6, none⟩ = some (.int .i64 u)) (first | assumption | exact ⟨c0, c6⟩) ((go_at_call 28; refine (HS.out _ (grown_trans HM.out.gr (grown_drew _ none))).mono ?_; rintro e w2 ⟨rfl, hw2⟩; obtain rfl := hw2.symm; have m2 := HM.out.then (grown_drew w1 none); have hK := And.intro (m2.cells 0 _ rfl) (m2.cells 6 _ rfl)))
  go_wp2
  go_ret
  exact ⟨rfl, m2.gr⟩
set_option maxHeartbeats 4000000 in
theorem clock_ck (h : BkAt w p S K) (room : Int) (q : Rs.Rq) (h0 : 0 ≤ S.t) (h1 : S.t ≤ mxC) (h2 : 1 ≤ q.u) (h3 : q.u ≤ mxT) : Calls Tryz.prog 77 #[maV p.b room q] w fun e w' => e = .returned (.int .i64 (clE S q)) ∧ w.grownBy w' none := by
  have hG := hide (grown_alloc w (.cells (maC p.b room q).toArray 83))
  have HT := hide (then_any (h.then hG.out) room q h0 h1 h2 h3)
  unfold clE
  clear h h0 h1 h2 h3
  unfold maV at *
  unfold maC at *
  generalize p.b = b at *
  generalize S.t + q.u = tu at *
  by_cases hc : mxC < tu
  · rw [if_pos hc]
    have hc1 : (1099511627776 : Int) < tu := hc
    clear hc
    go_enter Tryz.func77, Tryz.ntmps77
    go_wp2_with fail
    refine HT.out.mono ?_
    rintro e w2 ⟨rfl, hg⟩
    go_wp2
    go_ret
    exact ⟨rfl, grown_trans hG.out hg⟩
  · rw [if_neg hc]
    have hc2 : tu ≤ (1099511627776 : Int) := by unfold mxC at hc; omega
    clear hc
    go_enter Tryz.func77, Tryz.ntmps77
    go_wp2_with fail
    refine HT.out.mono ?_
    rintro e w2 ⟨rfl, hg⟩
    go_wp2
    go_ret
    exact ⟨rfl, grown_trans hG.out hg⟩
set_option maxHeartbeats 4000000 in
theorem free_ck (h : BkAt w p S K) (hw : S.Wk) (room : Int) (q : Rs.Rq) : Calls Tryz.prog 78 #[maV p.b room q] w fun e w' => e = .returned (.int .i64 (frE S q)) ∧ w.grownBy w' none := by
  have m0 := Bm.start h (maC p.b room q) 83
  have HS : Hid (∀ W, w.grownBy W none → Calls Tryz.prog 35 #[.pointer (some ⟨p.b, 0, none⟩), .int .i64 q.s] W fun e w' => e = .returned (.tuple #[bgV (atX S q.s), .int .i64 (atE S q.s)]) ∧ W.grownBy w' none) := fun W g => at_any (h.then g) hw q.s
  obtain ⟨c0, c1, c2, c3, c4, c5, c6⟩ := m0.ma
  have HM := hide m0
  clear h m0 hw
  unfold frE
  generalize atX S q.s = x at *
  generalize atE S q.s = er at *
  obtain ⟨xi, xs, xu⟩ := x
  unfold bgV at HS
  unfold maV
  unfold maC at HM c0 c1 c2 c3 c4 c5 c6
  generalize hb : p.b = b at *
  have HB := hide hb
  clear hb
  simp only at HS ⊢
  generalize hwa : World.alloc w _ = w1 at HM c0 c1 c2 c3 c4 c5 c6
  have HA := hide hwa
  by_cases he : er = 0
  · subst he
    by_cases hi : (xi : Int) = q.i
    · rw [if_neg (by rintro ⟨-, h⟩; exact h hi)]
      have f1 : ((xi : Int) != q.i) = false := by rw [hi]; simp
      have f2 : decide ((xi : Int) = q.i) = true := decide_eq_true hi
      clear hi
      go_enter Tryz.func78, Tryz.ntmps78
      go_wp2_with fail
      clear hwa
      refine (HS.out w1 HM.out.gr).mono ?_
      rintro e w2 ⟨rfl, hg⟩
      have m2 := (HM.out.then hg).then (grown_alloc w2 (.cells #[.int .u32 (xi : Int), .int .i64 (xs : Int), .int .i64 xu] 51))
      have d4 := m2.cells 4 _ rfl
      have H2 := hide m2
      clear m2 hg HM
      go_wp2
      go_ret
      exact ⟨rfl, H2.out.gr⟩
    · rw [if_pos ⟨rfl, hi⟩]
      have f1 : ((xi : Int) != q.i) = true := by simpa using hi
      have f2 : decide ((xi : Int) = q.i) = false := decide_eq_false hi
      clear hi
      go_enter Tryz.func78, Tryz.ntmps78
      go_wp2_with fail
      clear hwa
      refine (HS.out w1 HM.out.gr).mono ?_
      rintro e w2 ⟨rfl, hg⟩
      have m2 := (HM.out.then hg).then (grown_alloc w2 (.cells #[.int .u32 (xi : Int), .int .i64 (xs : Int), .int .i64 xu] 51))
      have d4 := m2.cells 4 _ rfl
      have H2 := hide m2
      clear m2 hg HM
      go_wp2
      go_ret
      exact ⟨rfl, H2.out.gr⟩
  · rw [if_neg (by rintro ⟨h, -⟩; exact he h)]
    have f1 : (er == 0) = false := by simpa using he
    have f2 : decide (er = 0) = false := decide_eq_false he
    clear he
    go_enter Tryz.func78, Tryz.ntmps78
    go_wp2_with fail
    clear hwa
    refine (HS.out w1 HM.out.gr).mono ?_
    rintro e w2 ⟨rfl, hg⟩
    have m2 := (HM.out.then hg).then (grown_alloc w2 (.cells #[.int .u32 (xi : Int), .int .i64 (xs : Int), .int .i64 xu] 51))
    have d4 := m2.cells 4 _ rfl
    have H2 := hide m2
    clear m2 hg HM
    go_wp2
    go_ret
    exact ⟨rfl, H2.out.gr⟩
set_option maxHeartbeats 4000000 in
theorem idIs_any (h : BkAt w p S K) (hw : S.Wk) (room : Int) (q : Rs.Rq) (h0 : 0 ≤ q.i) (h1 : q.i < 4294967296) : Calls Tryz.prog 82 #[maV p.b room q] w fun e w' => e = .returned (.int .i64 (idE S q)) ∧ Mt w w' p S K [] := by
  have m0 := (Mt.start h).box (maC p.b room q) 83
  obtain ⟨n, hn⟩ := Int.eq_ofNat_of_zero_le h0
  have HG := get_any m0.bk hw n (by omega)
  rw [← hn] at HG
  unfold idE
  rw [hn, Int.toNat_natCast]
  generalize (fnd S.L n).getD ⟨0, 0, 0⟩ = x at *
  generalize (if (fnd S.L n).isSome = true then (0 : Int) else 171) = er at *
  obtain ⟨xi, xs, xu⟩ := x
  unfold bgV at HG
  obtain ⟨c0, c1, c2, c3, c4, c5, c6⟩ := bx7 (m0.bx (w.heap.size, maC p.b room q, 83) (by simp)).1
  have HM := hide m0
  clear h m0 hw h0 h1 hn
  have HH := hide HG
  clear HG
  unfold maV
  unfold maC at HM HH
  generalize hb : p.b = b at *
  have HB := hide hb
  clear hb
  go_enter Tryz.func82, Tryz.ntmps82
  go_wp2_with fail
  refine HH.out.mono ?_
  rintro e w2 ⟨rfl, hA, hk⟩
  go_wp2
  go_ret
  exact ⟨rfl, ((HM.out.go hk hA).then (grown_alloc w2 _)).bare⟩
set_option maxHeartbeats 4000000 in
theorem room_ck (h : BkAt w p S K) (room : Int) (q : Rs.Rq) : Calls Tryz.prog 79 #[maV p.b room q] w fun e w' => e = .returned (.int .i64 (rmE S)) ∧ w.grownBy w' none := by
  have m0 := Bm.start h (maC p.b room q) 83
  have HS : Hid (∀ W, w.grownBy W none → Calls Tryz.prog 61 #[.pointer (some ⟨p.b, 0, none⟩)] W fun e w' => e = .returned (limV S.a S.b S.c) ∧ W.grownBy w' none) := fun W g => shape_any (h.then g)
  have HL : Hid (∀ W, w.grownBy W none → Calls Tryz.prog 27 #[.pointer (some ⟨p.b, 0, none⟩)] W fun e w' => e = .returned (.int .i64 (S.L.length : Int)) ∧ w' = W) := fun W g => len_any (h.then g)
  have HN : Hid (∀ W, w.grownBy W none → Calls Tryz.prog 26 #[.pointer (some ⟨p.b, 0, none⟩)] W fun e w' => e = .returned (.int .u32 (S.n : Int)) ∧ w' = W) := fun W g => next_any (h.then g)
  obtain ⟨c0, c1, c2, c3, c4, c5, c6⟩ := m0.ma
  have HM := hide m0
  clear h m0
  unfold maV
  unfold limV at HS
  unfold maC at HM c0 c1 c2 c3 c4 c5 c6
  unfold rmE
  generalize hb : p.b = b at *
  have HB := hide hb
  clear hb
  have hq1 : (if S.b ≤ S.L.length ∨ S.n = 4294967295 then (6 : Int) else 0) = if (S.b : Int) ≤ (S.L.length : Int) ∨ (S.n : Int) = 4294967295 then 6 else 0 := by
    by_cases hh : S.b ≤ S.L.length ∨ S.n = 4294967295
    · rw [if_pos hh, if_pos (by omega)]
    · rw [if_neg hh, if_neg (by omega)]
  rw [hq1]
  clear hq1
  generalize (S.a : Int) = sa at *
  generalize (S.b : Int) = sb' at *
  generalize (S.c : Int) = sc' at *
  generalize (S.L.length : Int) = l at *
  generalize (S.n : Int) = n at *
  have hfd := fieldB sa sb' sc'
  have HK : Hid (∀ W, Bm w W w.heap.size [.pointer (some ⟨b, 0, none⟩), .int .i64 room, .int .i64 q.k, .int .u32 q.t, .int .u32 q.i, .int .i64 q.s, .int .i64 q.u] 83 p S K → W.cell? ⟨w.heap.size, 0, none⟩ = some (.pointer (some ⟨b, 0, none⟩))) := fun W hW => hW.cells 0 _ rfl
  by_cases h1 : sb' ≤ l
  · rw [if_pos (.inl h1)]
    go_enter Tryz.func79, Tryz.ntmps79
    go_wp2
    generalize World.alloc w _ = w1 at *
    refine wp_region_held_drew (S := (fun W => W.cell? ⟨w.heap.size, 0, none⟩ = some (.pointer (some ⟨b, 0, none⟩)))) (by kernel_rfl) ?_ (fun hHeld => ?_)
    · (exact HK.out _ (HM.out.then (grown_drew _ none)))
    refine tkH (i := 0) (oi := { dst := some 3, op := Go.Op.fieldAddr 83 (Go.Operand.tmp 1) 0, type := 0, pos := "cases.go:148", after := #[], guard := none }) (v := ?_) rfl ?_ ?_
    rotate_left
    · (intro w hSw; (try dsimp only at hSw); (go_simp <;> with_reducible rfl))
    try simp only [Act.put, List.setIfInBounds_toArray, List.set_cons_zero, List.set_cons_succ]
    refine tkH (i := 1) (oi := { dst := some 4, op := Go.Op.load 34 (Go.Operand.tmp 3), type := 34, pos := "cases.go:148", after := #[{ on := 0, ground := Go.Ground.data }], guard := none }) (v := ?_) rfl ?_ ?_
    rotate_left
    · (intro w hSw; (try dsimp only at hSw); (go_simp <;> with_reducible rfl))
    try simp only [Act.put, List.setIfInBounds_toArray, List.set_cons_zero, List.set_cons_succ]
    refine tkH (i := 3) (oi := { dst := some 6, op := Go.Op.fieldAddr 83 (Go.Operand.tmp 1) 0, type := 0, pos := "cases.go:148", after := #[], guard := none }) (v := ?_) rfl ?_ ?_
    rotate_left
    · (intro w hSw; (try dsimp only at hSw); (go_simp <;> with_reducible rfl))
    try simp only [Act.put, List.setIfInBounds_toArray, List.set_cons_zero, List.set_cons_succ]
    refine tkH (i := 4) (oi := { dst := some 7, op := Go.Op.load 34 (Go.Operand.tmp 6), type := 34, pos := "cases.go:148", after := #[{ on := 3, ground := Go.Ground.data }], guard := none }) (v := ?_) rfl ?_ ?_
    rotate_left
    · (intro w hSw; (try dsimp only at hSw); (go_simp <;> with_reducible rfl))
    try simp only [Act.put, List.setIfInBounds_toArray, List.set_cons_zero, List.set_cons_succ]
    refine rdH (i := 2) (o := { dst := some 5, op := Go.Op.call { callee := Go.Callee.value (Go.Operand.func 27), args := #[Go.Operand.tmp 4], argTypes := #[34] }, type := 3, pos := "cases.go:148", after := #[{ on := 1, ground := Go.Ground.data }], guard := none }) rfl (fun K hK => ?_)
    go_simp
    refine (HL.out _ (grown_trans HM.out.gr (grown_drew _ none))).mono ?_; rintro e wx ⟨rfl, hwx⟩; obtain rfl := hwx.symm
    go_wp2_with fail
    refine hK.out _ _ ?_ (fun hHeld => ?_)
    · ((try dsimp only); assumption)
    clear hK K
    try simp only [Act.put, List.setIfInBounds_toArray, List.set_cons_zero, List.set_cons_succ]
    refine rdH (i := 5) (o := { dst := some 8, op := Go.Op.call { callee := Go.Callee.value (Go.Operand.func 61), args := #[Go.Operand.tmp 7], argTypes := #[34] }, type := 36, pos := "cases.go:148", after := #[{ on := 4, ground := Go.Ground.data }, { on := 2, ground := Go.Ground.chain }], guard := none }) rfl (fun K hK => ?_)
    go_simp
    refine (HS.out _ (grown_trans HM.out.gr (grown_drew _ none))).mono ?_; rintro e w2 ⟨rfl, hg2⟩; have m2 := (HM.out.then (grown_drew w1 none)).then hg2; have hJ := HK.out _ m2
    go_wp2_with fail
    refine hK.out _ _ ?_ (fun hHeld => ?_)
    · ((try dsimp only); assumption)
    clear hK K
    try simp only [Act.put, List.setIfInBounds_toArray, List.set_cons_zero, List.set_cons_succ]
    refine tkH (i := 6) (oi := { dst := some 9, op := Go.Op.field 36 (Go.Operand.tmp 8) 1, type := 3, pos := "cases.go:148", after := #[{ on := 5, ground := Go.Ground.data }], guard := none }) (v := ?_) rfl ?_ ?_
    rotate_left
    · (intro w hSw; (try dsimp only at hSw); (go_simp <;> with_reducible rfl))
    try simp only [Act.put, List.setIfInBounds_toArray, List.set_cons_zero, List.set_cons_succ]
    refine tkH (i := 7) (oi := { dst := some 10, op := Go.Op.binOp Go.BinOp.geq 3 (Go.Operand.tmp 5) (Go.Operand.tmp 9) 3, type := 4, pos := "cases.go:148", after := #[{ on := 2, ground := Go.Ground.data }, { on := 6, ground := Go.Ground.data }], guard := none }) (v := ?_) rfl ?_ ?_
    rotate_left
    · (intro w hSw; refine geq_t (t := 3) (k := .i64) (x := .tmp 5) (y := .tmp 9) (p := l) (q := sb') ?_ ?_ ?_ h1 w <;> rfl)
    try simp only [Act.put, List.setIfInBounds_toArray, List.set_cons_zero, List.set_cons_succ]
    refine tkH (i := 8) (oi := { dst := some 11, op := Go.Op.move (Go.Operand.tmp 10), type := 4, pos := "cases.go:148", after := #[{ on := 7, ground := Go.Ground.data }, { on := 5, ground := Go.Ground.chain }], guard := none }) (v := ?_) rfl ?_ ?_
    rotate_left
    · (intro w hSw; (try dsimp only at hSw); (go_simp <;> with_reducible rfl))
    try simp only [Act.put, List.setIfInBounds_toArray, List.set_cons_zero, List.set_cons_succ]
    refine wpAnyH_take (i := 9) (oi := { dst := some 12, op := Go.Op.fieldAddr 83 (Go.Operand.tmp 1) 0, type := 0, pos := "cases.go:148", after := #[{ on := 8, ground := Go.Ground.guard }], guard := some (8, false) }) (v := undef) rfl (by kernel_rfl) (by kernel_rfl) (by kernel_rfl) (fun _ _ _ h => h) (Or.inr ⟨by rfl, rfl⟩) (by assumption) ?_
    try simp only [Act.put, List.setIfInBounds_toArray, List.set_cons_zero, List.set_cons_succ]
    refine wpAnyH_take (i := 10) (oi := { dst := some 13, op := Go.Op.load 34 (Go.Operand.tmp 12), type := 34, pos := "cases.go:148", after := #[{ on := 9, ground := Go.Ground.data }, { on := 8, ground := Go.Ground.guard }], guard := some (8, false) }) (v := undef) rfl (by kernel_rfl) (by kernel_rfl) (by kernel_rfl) (fun _ _ _ h => h) (Or.inr ⟨by rfl, rfl⟩) (by assumption) ?_
    try simp only [Act.put, List.setIfInBounds_toArray, List.set_cons_zero, List.set_cons_succ]
    refine wpAnyH_take (i := 11) (oi := { dst := some 14, op := Go.Op.call { callee := Go.Callee.value (Go.Operand.func 26), args := #[Go.Operand.tmp 13], argTypes := #[34] }, type := 23, pos := "cases.go:148", after := #[{ on := 10, ground := Go.Ground.data }, { on := 8, ground := Go.Ground.chain }, { on := 8, ground := Go.Ground.guard }], guard := some (8, false) }) (v := undef) rfl (by kernel_rfl) (by kernel_rfl) (by kernel_rfl) (fun _ _ _ h => h) (Or.inr ⟨by rfl, rfl⟩) (by assumption) ?_
    try simp only [Act.put, List.setIfInBounds_toArray, List.set_cons_zero, List.set_cons_succ]
    refine wpAnyH_take (i := 12) (oi := { dst := some 15, op := Go.Op.binOp Go.BinOp.eql 23 (Go.Operand.tmp 14) (Go.Operand.const (Go.Value.int Go.IntKind.u32 4294967295)) 23, type := 4, pos := "cases.go:148", after := #[{ on := 11, ground := Go.Ground.data }, { on := 8, ground := Go.Ground.guard }], guard := some (8, false) }) (v := undef) rfl (by kernel_rfl) (by kernel_rfl) (by kernel_rfl) (fun _ _ _ h => h) (Or.inr ⟨by rfl, rfl⟩) (by assumption) ?_
    try simp only [Act.put, List.setIfInBounds_toArray, List.set_cons_zero, List.set_cons_succ]
    refine tkH (i := 13) (oi := { dst := some 16, op := Go.Op.pick (Go.Operand.tmp 11) (Go.Operand.const (Go.Value.bool true)) (Go.Operand.tmp 15), type := 4, pos := "cases.go:148", after := #[{ on := 8, ground := Go.Ground.data }, { on := 12, ground := Go.Ground.data }], guard := none }) (v := ?_) rfl ?_ ?_
    rotate_left
    · (intro w hSw; (try dsimp only at hSw); (go_simp <;> with_reducible rfl))
    try simp only [Act.put, List.setIfInBounds_toArray, List.set_cons_zero, List.set_cons_succ]
    refine wpAnyH_done (by kernel_rfl) ?_ _
    go_wp2
    go_ret
    exact ⟨rfl, m2.gr⟩
  · have h1 : l < sb' := by omega
    by_cases h2 : n = 4294967295
    · rw [if_pos (.inr h2)]
      have f1 : (n == 4294967295) = true := by simpa using h2
      have f2 : decide (n = 4294967295) = true := by simpa using h2
      clear h2
      go_enter Tryz.func79, Tryz.ntmps79
      go_wp2
      generalize World.alloc w _ = w1 at *
      refine wp_region_held_drew (S := (fun W => W.cell? ⟨w.heap.size, 0, none⟩ = some (.pointer (some ⟨b, 0, none⟩)))) (by kernel_rfl) ?_ (fun hHeld => ?_)
      · (exact HK.out _ (HM.out.then (grown_drew _ none)))
      refine tkH (i := 0) (oi := { dst := some 3, op := Go.Op.fieldAddr 83 (Go.Operand.tmp 1) 0, type := 0, pos := "cases.go:148", after := #[], guard := none }) (v := ?_) rfl ?_ ?_
      rotate_left
      · (intro w hSw; (try dsimp only at hSw); (go_simp <;> with_reducible rfl))
      try simp only [Act.put, List.setIfInBounds_toArray, List.set_cons_zero, List.set_cons_succ]
      refine tkH (i := 1) (oi := { dst := some 4, op := Go.Op.load 34 (Go.Operand.tmp 3), type := 34, pos := "cases.go:148", after := #[{ on := 0, ground := Go.Ground.data }], guard := none }) (v := ?_) rfl ?_ ?_
      rotate_left
      · (intro w hSw; (try dsimp only at hSw); (go_simp <;> with_reducible rfl))
      try simp only [Act.put, List.setIfInBounds_toArray, List.set_cons_zero, List.set_cons_succ]
      refine tkH (i := 3) (oi := { dst := some 6, op := Go.Op.fieldAddr 83 (Go.Operand.tmp 1) 0, type := 0, pos := "cases.go:148", after := #[], guard := none }) (v := ?_) rfl ?_ ?_
      rotate_left
      · (intro w hSw; (try dsimp only at hSw); (go_simp <;> with_reducible rfl))
      try simp only [Act.put, List.setIfInBounds_toArray, List.set_cons_zero, List.set_cons_succ]
      refine tkH (i := 4) (oi := { dst := some 7, op := Go.Op.load 34 (Go.Operand.tmp 6), type := 34, pos := "cases.go:148", after := #[{ on := 3, ground := Go.Ground.data }], guard := none }) (v := ?_) rfl ?_ ?_
      rotate_left
      · (intro w hSw; (try dsimp only at hSw); (go_simp <;> with_reducible rfl))
      try simp only [Act.put, List.setIfInBounds_toArray, List.set_cons_zero, List.set_cons_succ]
      refine rdH (i := 2) (o := { dst := some 5, op := Go.Op.call { callee := Go.Callee.value (Go.Operand.func 27), args := #[Go.Operand.tmp 4], argTypes := #[34] }, type := 3, pos := "cases.go:148", after := #[{ on := 1, ground := Go.Ground.data }], guard := none }) rfl (fun K hK => ?_)
      go_simp
      refine (HL.out _ (grown_trans HM.out.gr (grown_drew _ none))).mono ?_; rintro e wx ⟨rfl, hwx⟩; obtain rfl := hwx.symm
      go_wp2_with fail
      refine hK.out _ _ ?_ (fun hHeld => ?_)
      · ((try dsimp only); assumption)
      clear hK K
      try simp only [Act.put, List.setIfInBounds_toArray, List.set_cons_zero, List.set_cons_succ]
      refine rdH (i := 5) (o := { dst := some 8, op := Go.Op.call { callee := Go.Callee.value (Go.Operand.func 61), args := #[Go.Operand.tmp 7], argTypes := #[34] }, type := 36, pos := "cases.go:148", after := #[{ on := 4, ground := Go.Ground.data }, { on := 2, ground := Go.Ground.chain }], guard := none }) rfl (fun K hK => ?_)
      go_simp
      refine (HS.out _ (grown_trans HM.out.gr (grown_drew _ none))).mono ?_; rintro e w2 ⟨rfl, hg2⟩; have m2 := (HM.out.then (grown_drew w1 none)).then hg2; have hJ := HK.out _ m2
      go_wp2_with fail
      refine hK.out _ _ ?_ (fun hHeld => ?_)
      · ((try dsimp only); assumption)
      clear hK K
      try simp only [Act.put, List.setIfInBounds_toArray, List.set_cons_zero, List.set_cons_succ]
      refine tkH (i := 6) (oi := { dst := some 9, op := Go.Op.field 36 (Go.Operand.tmp 8) 1, type := 3, pos := "cases.go:148", after := #[{ on := 5, ground := Go.Ground.data }], guard := none }) (v := ?_) rfl ?_ ?_
      rotate_left
      · (intro w hSw; (try dsimp only at hSw); (go_simp <;> with_reducible rfl))
      try simp only [Act.put, List.setIfInBounds_toArray, List.set_cons_zero, List.set_cons_succ]
      refine tkH (i := 7) (oi := { dst := some 10, op := Go.Op.binOp Go.BinOp.geq 3 (Go.Operand.tmp 5) (Go.Operand.tmp 9) 3, type := 4, pos := "cases.go:148", after := #[{ on := 2, ground := Go.Ground.data }, { on := 6, ground := Go.Ground.data }], guard := none }) (v := ?_) rfl ?_ ?_
      rotate_left
      · (intro w hSw; refine geq_f (t := 3) (k := .i64) (x := .tmp 5) (y := .tmp 9) (p := l) (q := sb') ?_ ?_ ?_ h1 w <;> rfl)
      try simp only [Act.put, List.setIfInBounds_toArray, List.set_cons_zero, List.set_cons_succ]
      refine tkH (i := 8) (oi := { dst := some 11, op := Go.Op.move (Go.Operand.tmp 10), type := 4, pos := "cases.go:148", after := #[{ on := 7, ground := Go.Ground.data }, { on := 5, ground := Go.Ground.chain }], guard := none }) (v := ?_) rfl ?_ ?_
      rotate_left
      · (intro w hSw; (try dsimp only at hSw); (go_simp <;> with_reducible rfl))
      try simp only [Act.put, List.setIfInBounds_toArray, List.set_cons_zero, List.set_cons_succ]
      refine tkH (i := 9) (oi := { dst := some 12, op := Go.Op.fieldAddr 83 (Go.Operand.tmp 1) 0, type := 0, pos := "cases.go:148", after := #[{ on := 8, ground := Go.Ground.guard }], guard := some (8, false) }) (v := ?_) rfl ?_ ?_
      rotate_left
      · (intro w hSw; (try dsimp only at hSw); (go_simp <;> with_reducible rfl))
      try simp only [Act.put, List.setIfInBounds_toArray, List.set_cons_zero, List.set_cons_succ]
      refine tkH (i := 10) (oi := { dst := some 13, op := Go.Op.load 34 (Go.Operand.tmp 12), type := 34, pos := "cases.go:148", after := #[{ on := 9, ground := Go.Ground.data }, { on := 8, ground := Go.Ground.guard }], guard := some (8, false) }) (v := ?_) rfl ?_ ?_
      rotate_left
      · (intro w hSw; (try dsimp only at hSw); (go_simp <;> with_reducible rfl))
      try simp only [Act.put, List.setIfInBounds_toArray, List.set_cons_zero, List.set_cons_succ]
      refine rdH (i := 11) (o := { dst := some 14, op := Go.Op.call { callee := Go.Callee.value (Go.Operand.func 26), args := #[Go.Operand.tmp 13], argTypes := #[34] }, type := 23, pos := "cases.go:148", after := #[{ on := 10, ground := Go.Ground.data }, { on := 8, ground := Go.Ground.chain }, { on := 8, ground := Go.Ground.guard }], guard := some (8, false) }) rfl (fun K hK => ?_)
      go_simp
      refine (HN.out _ m2.gr).mono ?_; rintro e wx ⟨rfl, hwx⟩; obtain rfl := hwx.symm
      go_wp2_with fail
      refine hK.out _ _ ?_ (fun hHeld => ?_)
      · ((try dsimp only); assumption)
      clear hK K
      try simp only [Act.put, List.setIfInBounds_toArray, List.set_cons_zero, List.set_cons_succ]
      refine tkH (i := 12) (oi := { dst := some 15, op := Go.Op.binOp Go.BinOp.eql 23 (Go.Operand.tmp 14) (Go.Operand.const (Go.Value.int Go.IntKind.u32 4294967295)) 23, type := 4, pos := "cases.go:148", after := #[{ on := 11, ground := Go.Ground.data }, { on := 8, ground := Go.Ground.guard }], guard := some (8, false) }) (v := ?_) rfl ?_ ?_
      rotate_left
      · (intro w hSw; (try dsimp only at hSw); (go_simp <;> with_reducible rfl))
      try simp only [Act.put, List.setIfInBounds_toArray, List.set_cons_zero, List.set_cons_succ]
      refine tkH (i := 13) (oi := { dst := some 16, op := Go.Op.pick (Go.Operand.tmp 11) (Go.Operand.const (Go.Value.bool true)) (Go.Operand.tmp 15), type := 4, pos := "cases.go:148", after := #[{ on := 8, ground := Go.Ground.data }, { on := 12, ground := Go.Ground.data }], guard := none }) (v := ?_) rfl ?_ ?_
      rotate_left
      · (intro w hSw; (try dsimp only at hSw); (go_simp <;> with_reducible rfl))
      try simp only [Act.put, List.setIfInBounds_toArray, List.set_cons_zero, List.set_cons_succ]
      refine wpAnyH_done (by kernel_rfl) ?_ _
      go_wp2
      go_ret
      exact ⟨rfl, m2.gr⟩
    · rw [if_neg (by omega)]
      have f1 : (n == 4294967295) = false := by simpa using h2
      have f2 : decide (n = 4294967295) = false := by simpa using h2
      clear h2
      go_enter Tryz.func79, Tryz.ntmps79
      go_wp2
      generalize World.alloc w _ = w1 at *
      refine wp_region_held_drew (S := (fun W => W.cell? ⟨w.heap.size, 0, none⟩ = some (.pointer (some ⟨b, 0, none⟩)))) (by kernel_rfl) ?_ (fun hHeld => ?_)
      · (exact HK.out _ (HM.out.then (grown_drew _ none)))
      refine tkH (i := 0) (oi := { dst := some 3, op := Go.Op.fieldAddr 83 (Go.Operand.tmp 1) 0, type := 0, pos := "cases.go:148", after := #[], guard := none }) (v := ?_) rfl ?_ ?_
      rotate_left
      · (intro w hSw; (try dsimp only at hSw); (go_simp <;> with_reducible rfl))
      try simp only [Act.put, List.setIfInBounds_toArray, List.set_cons_zero, List.set_cons_succ]
      refine tkH (i := 1) (oi := { dst := some 4, op := Go.Op.load 34 (Go.Operand.tmp 3), type := 34, pos := "cases.go:148", after := #[{ on := 0, ground := Go.Ground.data }], guard := none }) (v := ?_) rfl ?_ ?_
      rotate_left
      · (intro w hSw; (try dsimp only at hSw); (go_simp <;> with_reducible rfl))
      try simp only [Act.put, List.setIfInBounds_toArray, List.set_cons_zero, List.set_cons_succ]
      refine tkH (i := 3) (oi := { dst := some 6, op := Go.Op.fieldAddr 83 (Go.Operand.tmp 1) 0, type := 0, pos := "cases.go:148", after := #[], guard := none }) (v := ?_) rfl ?_ ?_
      rotate_left
      · (intro w hSw; (try dsimp only at hSw); (go_simp <;> with_reducible rfl))
      try simp only [Act.put, List.setIfInBounds_toArray, List.set_cons_zero, List.set_cons_succ]
      refine tkH (i := 4) (oi := { dst := some 7, op := Go.Op.load 34 (Go.Operand.tmp 6), type := 34, pos := "cases.go:148", after := #[{ on := 3, ground := Go.Ground.data }], guard := none }) (v := ?_) rfl ?_ ?_
      rotate_left
      · (intro w hSw; (try dsimp only at hSw); (go_simp <;> with_reducible rfl))
      try simp only [Act.put, List.setIfInBounds_toArray, List.set_cons_zero, List.set_cons_succ]
      refine rdH (i := 2) (o := { dst := some 5, op := Go.Op.call { callee := Go.Callee.value (Go.Operand.func 27), args := #[Go.Operand.tmp 4], argTypes := #[34] }, type := 3, pos := "cases.go:148", after := #[{ on := 1, ground := Go.Ground.data }], guard := none }) rfl (fun K hK => ?_)
      go_simp
      refine (HL.out _ (grown_trans HM.out.gr (grown_drew _ none))).mono ?_; rintro e wx ⟨rfl, hwx⟩; obtain rfl := hwx.symm
      go_wp2_with fail
      refine hK.out _ _ ?_ (fun hHeld => ?_)
      · ((try dsimp only); assumption)
      clear hK K
      try simp only [Act.put, List.setIfInBounds_toArray, List.set_cons_zero, List.set_cons_succ]
      refine rdH (i := 5) (o := { dst := some 8, op := Go.Op.call { callee := Go.Callee.value (Go.Operand.func 61), args := #[Go.Operand.tmp 7], argTypes := #[34] }, type := 36, pos := "cases.go:148", after := #[{ on := 4, ground := Go.Ground.data }, { on := 2, ground := Go.Ground.chain }], guard := none }) rfl (fun K hK => ?_)
      go_simp
      refine (HS.out _ (grown_trans HM.out.gr (grown_drew _ none))).mono ?_; rintro e w2 ⟨rfl, hg2⟩; have m2 := (HM.out.then (grown_drew w1 none)).then hg2; have hJ := HK.out _ m2
      go_wp2_with fail
      refine hK.out _ _ ?_ (fun hHeld => ?_)
      · ((try dsimp only); assumption)
      clear hK K
      try simp only [Act.put, List.setIfInBounds_toArray, List.set_cons_zero, List.set_cons_succ]
      refine tkH (i := 6) (oi := { dst := some 9, op := Go.Op.field 36 (Go.Operand.tmp 8) 1, type := 3, pos := "cases.go:148", after := #[{ on := 5, ground := Go.Ground.data }], guard := none }) (v := ?_) rfl ?_ ?_
      rotate_left
      · (intro w hSw; (try dsimp only at hSw); (go_simp <;> with_reducible rfl))
      try simp only [Act.put, List.setIfInBounds_toArray, List.set_cons_zero, List.set_cons_succ]
      refine tkH (i := 7) (oi := { dst := some 10, op := Go.Op.binOp Go.BinOp.geq 3 (Go.Operand.tmp 5) (Go.Operand.tmp 9) 3, type := 4, pos := "cases.go:148", after := #[{ on := 2, ground := Go.Ground.data }, { on := 6, ground := Go.Ground.data }], guard := none }) (v := ?_) rfl ?_ ?_
      rotate_left
      · (intro w hSw; refine geq_f (t := 3) (k := .i64) (x := .tmp 5) (y := .tmp 9) (p := l) (q := sb') ?_ ?_ ?_ h1 w <;> rfl)
      try simp only [Act.put, List.setIfInBounds_toArray, List.set_cons_zero, List.set_cons_succ]
      refine tkH (i := 8) (oi := { dst := some 11, op := Go.Op.move (Go.Operand.tmp 10), type := 4, pos := "cases.go:148", after := #[{ on := 7, ground := Go.Ground.data }, { on := 5, ground := Go.Ground.chain }], guard := none }) (v := ?_) rfl ?_ ?_
      rotate_left
      · (intro w hSw; (try dsimp only at hSw); (go_simp <;> with_reducible rfl))
      try simp only [Act.put, List.setIfInBounds_toArray, List.set_cons_zero, List.set_cons_succ]
      refine tkH (i := 9) (oi := { dst := some 12, op := Go.Op.fieldAddr 83 (Go.Operand.tmp 1) 0, type := 0, pos := "cases.go:148", after := #[{ on := 8, ground := Go.Ground.guard }], guard := some (8, false) }) (v := ?_) rfl ?_ ?_
      rotate_left
      · (intro w hSw; (try dsimp only at hSw); (go_simp <;> with_reducible rfl))
      try simp only [Act.put, List.setIfInBounds_toArray, List.set_cons_zero, List.set_cons_succ]
      refine tkH (i := 10) (oi := { dst := some 13, op := Go.Op.load 34 (Go.Operand.tmp 12), type := 34, pos := "cases.go:148", after := #[{ on := 9, ground := Go.Ground.data }, { on := 8, ground := Go.Ground.guard }], guard := some (8, false) }) (v := ?_) rfl ?_ ?_
      rotate_left
      · (intro w hSw; (try dsimp only at hSw); (go_simp <;> with_reducible rfl))
      try simp only [Act.put, List.setIfInBounds_toArray, List.set_cons_zero, List.set_cons_succ]
      refine rdH (i := 11) (o := { dst := some 14, op := Go.Op.call { callee := Go.Callee.value (Go.Operand.func 26), args := #[Go.Operand.tmp 13], argTypes := #[34] }, type := 23, pos := "cases.go:148", after := #[{ on := 10, ground := Go.Ground.data }, { on := 8, ground := Go.Ground.chain }, { on := 8, ground := Go.Ground.guard }], guard := some (8, false) }) rfl (fun K hK => ?_)
      go_simp
      refine (HN.out _ m2.gr).mono ?_; rintro e wx ⟨rfl, hwx⟩; obtain rfl := hwx.symm
      go_wp2_with fail
      refine hK.out _ _ ?_ (fun hHeld => ?_)
      · ((try dsimp only); assumption)
      clear hK K
      try simp only [Act.put, List.setIfInBounds_toArray, List.set_cons_zero, List.set_cons_succ]
      refine tkH (i := 12) (oi := { dst := some 15, op := Go.Op.binOp Go.BinOp.eql 23 (Go.Operand.tmp 14) (Go.Operand.const (Go.Value.int Go.IntKind.u32 4294967295)) 23, type := 4, pos := "cases.go:148", after := #[{ on := 11, ground := Go.Ground.data }, { on := 8, ground := Go.Ground.guard }], guard := some (8, false) }) (v := ?_) rfl ?_ ?_
      rotate_left
      · (intro w hSw; (try dsimp only at hSw); (go_simp <;> with_reducible rfl))
      try simp only [Act.put, List.setIfInBounds_toArray, List.set_cons_zero, List.set_cons_succ]
      refine tkH (i := 13) (oi := { dst := some 16, op := Go.Op.pick (Go.Operand.tmp 11) (Go.Operand.const (Go.Value.bool true)) (Go.Operand.tmp 15), type := 4, pos := "cases.go:148", after := #[{ on := 8, ground := Go.Ground.data }, { on := 12, ground := Go.Ground.data }], guard := none }) (v := ?_) rfl ?_ ?_
      rotate_left
      · (intro w hSw; (try dsimp only at hSw); (go_simp <;> with_reducible rfl))
      try simp only [Act.put, List.setIfInBounds_toArray, List.set_cons_zero, List.set_cons_succ]
      refine wpAnyH_done (by kernel_rfl) ?_ _
      go_wp2
      go_ret
      exact ⟨rfl, m2.gr⟩
end
end Go.Proofs.YtjfhilignbeboaaGreatDoor
