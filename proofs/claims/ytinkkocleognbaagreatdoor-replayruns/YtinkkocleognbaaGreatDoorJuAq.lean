/- Texts joined: JpAa. -/
import Derived.Test.YtinkkocleognbaaGreatDoorJuAo
import Derived.Test.YtinkkocleognbaaGreatDoorJuAa
import Derived.Test.YtinkkocleognbaaGreatDoorJuAp
/- Texts joined: Db0, GePs, GeRf, Db1. -/
namespace Go.Proofs.YtinkkocleognbaaGreatDoor
/- The document's book in memory; what lies where in a list of bookings. -/
open Go.RowKit
attribute [local go_sem ↓] Go.wp_at_zero Go.wp_at_succ
attribute [local go_sem] Oper.semAt_some
theorem AscB.at {L : List Bg} (h : AscB L) {j k : Nat} {x y : Bg} (hj : L[j]? = some x) (hk : L[k]? = some y) (e : x.i = y.i) : j = k := by
  obtain ⟨h1, e1⟩ := List.getElem?_eq_some_iff.1 hj
  obtain ⟨h2, e2⟩ := List.getElem?_eq_some_iff.1 hk
  have hp := List.pairwise_iff_getElem.1 h
  apply Classical.byContradiction
  intro hne
  rcases Nat.lt_or_gt_of_ne hne with hlt | hlt
  · have := hp j k h1 h2 hlt; rw [e1, e2] at this; omega
  · have := hp k j h2 h1 hlt; rw [e1, e2] at this; omega
theorem OneS.at {L : List Bg} (h : OneS L) {j k : Nat} {x y : Bg} (hj : L[j]? = some x) (hk : L[k]? = some y) (e : x.s = y.s) : j = k := by
  obtain ⟨h1, e1⟩ := List.getElem?_eq_some_iff.1 hj
  obtain ⟨h2, e2⟩ := List.getElem?_eq_some_iff.1 hk
  have hp := List.pairwise_iff_getElem.1 h
  apply Classical.byContradiction
  intro hne
  rcases Nat.lt_or_gt_of_ne hne with hlt | hlt
  · have := hp j k h1 h2 hlt; rw [e1, e2] at this; exact this e
  · have := hp k j h2 h1 hlt; rw [e1, e2] at this; exact this e.symm
theorem upd_set {L : List Bg} (hA : AscB L) {k : Nat} {x : Bg} (hk : L[k]? = some x) (y : Bg) : upd L x.i y = L.set k y := by
  apply List.ext_getElem?
  intro j
  unfold upd
  rw [List.getElem?_map, List.getElem?_set]
  by_cases hj : k = j
  · subst hj
    rw [if_pos rfl, if_pos (List.getElem?_eq_some_iff.1 hk).1, hk]
    simp
  · rw [if_neg hj]
    cases hz : L[j]? with
    | none => rfl
    | some z =>
      simp only [Option.map_some]
      rw [if_neg (fun e => hj (hA.at hk hz e.symm))]
theorem del_idx {L : List Bg} (hA : AscB L) {k : Nat} {x : Bg} (hk : L[k]? = some x) : del L x.i = L.take k ++ L.drop (k + 1) := by
  obtain ⟨h1, e1⟩ := List.getElem?_eq_some_iff.1 hk
  have hL : L = L.take k ++ x :: L.drop (k + 1) := by
    rw [← e1, ← List.drop_eq_getElem_cons h1, List.take_append_drop]
  have hp := List.pairwise_iff_getElem.1 hA
  unfold del
  conv => lhs; rw [hL]
  rw [List.filter_append, List.filter_cons_of_neg (by simp)]
  congr 1
  · rw [List.filter_eq_self]
    intro z hz
    obtain ⟨j, hj, ez⟩ := List.mem_iff_getElem.1 hz
    have hjk : j < k := by simp at hj; omega
    rw [List.getElem_take] at ez
    have := hp j k (by omega) h1 hjk
    rw [e1, ez] at this
    simp; omega
  · rw [List.filter_eq_self]
    intro z hz
    obtain ⟨j, hj, ez⟩ := List.mem_iff_getElem.1 hz
    rw [List.getElem_drop] at ez
    have := hp k (k + 1 + j) h1 (by simp at hj; omega) (by omega)
    rw [e1, ez] at this
    simp; omega
theorem tik_take {L : List Bg} {k : Nat} {x : Bg} (h : L[k]? = some x) (c : Int) : tik (L.take (k + 1)) c = tik (L.take k) c ++ (if x.u = 0 ∨ c < x.u then [x] else []) := by
  unfold tik
  rw [List.take_add_one, h, Option.toList_some, List.filter_append]
  congr 1
  by_cases hc : x.u = 0 ∨ c < x.u
  · rw [if_pos hc, List.filter_cons_of_pos (by simpa using hc)]; rfl
  · rw [if_neg hc, List.filter_cons_of_neg (by simpa using hc)]; rfl
/-- The cells of the document's book. -/
def dbc (S : Sb) (v : Value) : List Value := [.bool true, .int .i64 (S.a : Int), .int .i64 (S.b : Int), .int .i64 (S.c : Int), v, .int .u32 (S.n : Int), .int .i64 S.t]
/-- The document's book: its head at d, its bookings in v, all its blocks from lo on. -/
structure Db (w : World) (lo d : Nat) (v : Value) (S : Sb) : Prop where
  head : w.heap[d]? = some (.cells (dbc S v).toArray 76 (0, 0))
  row : w.ownsRow lo 108 3 v S.L.length (bgs S.L)
  ge : lo ≤ d
def dbo (d : Nat) (v : Value) (i : Nat) : Prop := i = d ∨ v.ownBlock = some i
/-- What a call on it does. -/
structure Dst (w w' : World) (d : Nat) (v v' : Value) : Prop where
  kept : Kept w w' (dbo d v)
  own : ∀ i, v'.ownBlock = some i → v.ownBlock = some i ∨ w.heap.size ≤ i
section
variable {w w' : World} {lo d : Nat} {v v' : Value} {S S' : Sb}
theorem Db.apart (h : Db w lo d v S) : ¬ v.ownBlock = some d := fun e => by
  obtain ⟨-, cur, hc⟩ := Ix.own_block h.row e
  rw [h.head] at hc
  cases hc
theorem Db.far {X : Nat → Prop} (h : Db w lo d v S) (k : Kept w w' X) (hX : ∀ i, dbo d v i → ¬ X i) : Db w' lo d v S :=
  ⟨k.at h.head (hX _ (.inl rfl)), Ix.row_keep h.row (fun q hq => by obtain ⟨-, cur, hc⟩ := Ix.own_block h.row hq; exact k.block q (row_lt hc) (hX q (.inr hq))), h.ge⟩
theorem Db.then (h : Db w lo d v S) (g : w.grownBy w' none) : Db w' lo d v S := h.far (Kept.new g (fun _ => False)) (fun _ _ e => e)
theorem Db.lt (h : Db w lo d v S) : ∀ i, dbo d v i → i < w.heap.size := by
  rintro i (rfl | hi)
  · exact row_lt h.head
  · obtain ⟨-, cur, hc⟩ := Ix.own_block h.row hi; exact row_lt hc
theorem Db.lows (h : Db w lo d v S) : ∀ i, dbo d v i → lo ≤ i := by
  rintro i (rfl | hi)
  · exact h.ge
  · exact (Ix.own_block h.row hi).1
theorem Db.cell (h : Db w lo d v S) {j : Nat} {u : Value} (hu : (dbc S v)[j]? = some u) : w.cell? ⟨d, j, none⟩ = some u := by rw [cell_row h.head]; exact hu
theorem Db.free (h : Db w lo d v S) (j : Nat) : w.frozen? ⟨d, j, none⟩ = false := free_row h.head j
theorem Db.bga (h : Db w lo d v S) : BgA w v S.L := BgA.own h.row
theorem Dst.refl (w : World) (d : Nat) (v : Value) : Dst w w d v v := ⟨Kept.refl _ _, fun _ e => .inl e⟩
theorem Dst.new (g : w.grownBy w' none) (d : Nat) (v : Value) : Dst w w' d v v := ⟨Kept.new g _, fun _ e => .inl e⟩
theorem Dst.trans {a b c : World} {v v' v'' : Value} (h : Dst a b d v v') (k : Dst b c d v' v'') : Dst a c d v v'' := by
  refine ⟨h.kept.trans k.kept (fun i hi e => ?_), fun i e => ?_⟩
  · rcases e with e | e
    · exact .inl e
    · rcases h.own i e with e | e
      · exact .inr e
      · omega
  · rcases k.own i e with e | e
    · exact h.own i e
    · exact .inr (Nat.le_trans h.kept.size e)
/-- The head is written. -/
theorem Db.headed (h : Db w lo d v S) {j : Nat} {u : Value} (hc : (dbc S v).set j u = dbc S' v) (hl : S'.L = S.L) : Db (w.setCell ⟨d, j, none⟩ u) lo d v S' ∧ Dst w (w.setCell ⟨d, j, none⟩ u) d v v := by
  have k := kept_setCell w d j u
  have hr := row_setCell h.head j u
  rw [hc] at hr
  refine ⟨⟨hr, ?_, h.ge⟩, ⟨k.mono (fun i _ e => .inl e), fun _ e => .inl e⟩⟩
  rw [hl]
  exact Ix.row_keep h.row (fun q hq => by obtain ⟨-, cur, hc⟩ := Ix.own_block h.row hq; exact k.block q (row_lt hc) (fun e => h.apart (by rw [← e]; exact hq)))
end
/-- Which place has the id, or the seat; or none. -/
def PosA (q : Bg → Prop) (L : List Bg) (e : Ending) : Prop := (∃ (k : Nat) (x : Bg), L[k]? = some x ∧ q x ∧ e = .returned (.int .i64 (k : Int))) ∨ ((∀ x ∈ L, ¬ q x) ∧ e = .returned (.int .i64 (-1)))
theorem rd_get {L : List Bg} {i : Nat} (h : i < L.length) : L[i]? = some (rd L i) := by
  unfold rd
  rw [List.getElem?_eq_getElem h]
  rfl
theorem all_not {q : Bg → Prop} {L : List Bg} (h : ∀ j, j < L.length → ¬ q (rd L j)) : ∀ x ∈ L, ¬ q x := fun x hx => by
  obtain ⟨j, hj, rfl⟩ := List.mem_iff_getElem.1 hx
  have := h j hj
  have e := rd_get hj
  rw [List.getElem?_eq_getElem hj] at e
  rw [← Option.some.inj e] at this
  exact this
set_option maxHeartbeats 4000000 in
theorem dfind_any {w : World} {lo d : Nat} {v : Value} {S : Sb} (h : Db w lo d v S) (hL : S.L.length ≤ 65536) (i : Int) : Calls Tryz.prog 55 #[.pointer (some ⟨d, 0, none⟩), .int .u32 i] w fun e w' => PosA (fun x => (x.i : Int) = i) S.L e ∧ w' = w := by
  obtain ⟨ao, cap, rfl, hb⟩ := h.bga.ex
  have c4 := h.cell (j := 4) rfl
  have HB := hide hb
  have HL := hide hL
  clear h hb
  go_enter Tryz.func55, Tryz.ntmps55
  go_wp2
  go_loopg [5] S.L.length (fun k q wr => ∃ j : Nat, k + j = S.L.length ∧ q = .int .i64 (j : Int) ∧ wr = w ∧ Hid (∀ m, m < j → ¬ ((rd S.L m).i : Int) = i))
  case atStart => exact ⟨0, by omega, rfl, rfl, fun m hm => by omega⟩
  case round =>
    obtain ⟨j, hkj, rfl, rfl, HN⟩ := hrel
    by_cases hk : 0 < gk
    · have hj : j < S.L.length := by omega
      have h1 : (j : Int) < (S.L.length : Int) := by omega
      have h0 : (0 : Int) ≤ (j : Int) := by omega
      obtain ⟨g, rfl, e0, e1, e2⟩ := HB.out j hj
      by_cases hx : ((rd S.L j).i : Int) = i
      · have HP := hide (And.intro hj hx)
        have f1 : (((rd S.L j).i : Int) == i) = true := by simpa using hx
        have f2 : decide (((rd S.L j).i : Int) = i) = true := by simpa using hx
        clear hx
        go_wp2
        go_ret
        exact ⟨.inl ⟨j, rd S.L j, rd_get HP.out.1, HP.out.2, rfl⟩, rfl⟩
      · have f1 : (((rd S.L j).i : Int) == i) = false := by simpa using hx
        have f2 : decide (((rd S.L j).i : Int) = i) = false := by simpa using hx
        have HN2 : Hid (∀ m, m < j + 1 → ¬ ((rd S.L m).i : Int) = i) := fun m hm => by
          by_cases hmj : m < j
          · exact HN.out m hmj
          · obtain rfl : m = j := by omega
            exact hx
        clear hx
        have hL' := HL.out
        go_wp2
        go_roundg (gk - 1)
        case measure => omega
        case rel => exact ⟨j + 1, by omega, by go_num, rfl, HN2.out⟩
    · have hj : j = S.L.length := by omega
      subst hj
      go_wp2
      go_ret
      exact ⟨.inr ⟨all_not (q := fun x => (x.i : Int) = i) HN.out, rfl⟩, rfl⟩
set_option maxHeartbeats 4000000 in
theorem dtaken_any {w : World} {lo d : Nat} {v : Value} {S : Sb} (h : Db w lo d v S) (hL : S.L.length ≤ 65536) (i : Int) : Calls Tryz.prog 56 #[.pointer (some ⟨d, 0, none⟩), .int .i64 i] w fun e w' => PosA (fun x => (x.s : Int) = i) S.L e ∧ w' = w := by
  obtain ⟨ao, cap, rfl, hb⟩ := h.bga.ex
  have c4 := h.cell (j := 4) rfl
  have HB := hide hb
  have HL := hide hL
  clear h hb
  go_enter Tryz.func56, Tryz.ntmps56
  go_wp2
  go_loopg [5] S.L.length (fun k q wr => ∃ j : Nat, k + j = S.L.length ∧ q = .int .i64 (j : Int) ∧ wr = w ∧ Hid (∀ m, m < j → ¬ ((rd S.L m).s : Int) = i))
  case atStart => exact ⟨0, by omega, rfl, rfl, fun m hm => by omega⟩
  case round =>
    obtain ⟨j, hkj, rfl, rfl, HN⟩ := hrel
    by_cases hk : 0 < gk
    · have hj : j < S.L.length := by omega
      have h1 : (j : Int) < (S.L.length : Int) := by omega
      have h0 : (0 : Int) ≤ (j : Int) := by omega
      obtain ⟨g, rfl, e0, e1, e2⟩ := HB.out j hj
      by_cases hx : ((rd S.L j).s : Int) = i
      · have HP := hide (And.intro hj hx)
        have f1 : (((rd S.L j).s : Int) == i) = true := by simpa using hx
        have f2 : decide (((rd S.L j).s : Int) = i) = true := by simpa using hx
        clear hx
        go_wp2
        go_ret
        exact ⟨.inl ⟨j, rd S.L j, rd_get HP.out.1, HP.out.2, rfl⟩, rfl⟩
      · have f1 : (((rd S.L j).s : Int) == i) = false := by simpa using hx
        have f2 : decide (((rd S.L j).s : Int) = i) = false := by simpa using hx
        have HN2 : Hid (∀ m, m < j + 1 → ¬ ((rd S.L m).s : Int) = i) := fun m hm => by
          by_cases hmj : m < j
          · exact HN.out m hmj
          · obtain rfl : m = j := by omega
            exact hx
        clear hx
        have hL' := HL.out
        go_wp2
        go_roundg (gk - 1)
        case measure => omega
        case rel => exact ⟨j + 1, by omega, by go_num, rfl, HN2.out⟩
    · have hj : j = S.L.length := by omega
      subst hj
      go_wp2
      go_ret
      exact ⟨.inr ⟨all_not (q := fun x => (x.s : Int) = i) HN.out, rfl⟩, rfl⟩
end Go.Proofs.YtinkkocleognbaaGreatDoor
/- The contracts of Image, Need, Plan. -/
namespace Go.Proofs.YtinkkocleognbaaGreatDoor.Ge
open Go.RowKit
attribute [local go_sem ↓] Go.wp_at_zero Go.wp_at_succ

end Go.Proofs.YtinkkocleognbaaGreatDoor.Ge
/- The contracts of the document's functions: Check, Size, Image, hold. -/
namespace Go.Proofs.YtinkkocleognbaaGreatDoor.Ge
open Go.RowKit
attribute [local go_sem ↓] Go.wp_at_zero Go.wp_at_succ

set_option maxHeartbeats 1000000 in
theorem rcheck_ok (a b c : Int) (h : Gx.OkS a b c) (w : World) : Calls Tryz.prog 82 #[shV a b c] w fun e w' => e = .returned (.int .i64 0) ∧ w.grownBy w' none := by
  have hG : ∀ o, w.grownBy (w.alloc o) none := fun o => grown_alloc w o
  obtain ⟨h1, h2, h3, h4, h5, h6⟩ := h
  unfold shV
  go_enter Tryz.func82, Tryz.ntmps82
  go_wp2
  go_ret
  exact ⟨rfl, hG _⟩

end Go.Proofs.YtinkkocleognbaaGreatDoor.Ge
namespace Go.Proofs.YtinkkocleognbaaGreatDoor
/- The document's book: New, hold, tick. -/
open Go.RowKit
attribute [local go_sem ↓] Go.wp_at_zero Go.wp_at_succ
attribute [local go_sem] Oper.semAt_some
set_option maxHeartbeats 4000000 in
theorem dnew_any {a b c : Nat} (h : Gx.OkS a b c) (w : World) : Calls Tryz.prog 46 #[limV a b c] w fun e w' => ∃ d, e = .returned (.tuple #[.pointer (some ⟨d, 0, none⟩), .int .i64 0]) ∧ Db w' w.heap.size d (.slice none 0 0) (nS a b c) ∧ w.grownBy w' none := by
  have HC : Hid (∀ W : World, Calls Tryz.prog 82 #[.agg #[.int .i64 (a : Int), .int .i64 (b : Int), .int .i64 (c : Int)]] W fun e w' => e = .returned (.int .i64 0) ∧ W.grownBy w' none) := fun W => Ge.rcheck_ok _ _ _ h W
  have hb0 := hide (heap_alloc_new w (.cells [.int .i64 (a : Int), .int .i64 (b : Int), .int .i64 (c : Int)].toArray 23))
  have HX : Hid (∀ w1 : World, w.grownBy w1 none → Db (w1.alloc (.cells #[.bool true, .int .i64 (a : Int), .int .i64 (b : Int), .int .i64 (c : Int), .slice none 0 0, .int .u32 1, .int .i64 0] 76)) w.heap.size w1.heap.size (.slice none 0 0) (nS a b c)) := fun w1 g => ⟨heap_alloc_new w1 _, World.ownsRow_nil _ _ _ _, g.size⟩
  clear h
  unfold limV
  generalize (a : Int) = ai at *
  generalize (b : Int) = bi at *
  generalize (c : Int) = ci at *
  go_enter Tryz.func46, Tryz.ntmps46
  go_wp2_with fail
  refine (HC.out _).mono ?_
  rintro e w1 ⟨rfl, hg1⟩
  have hg0 := grown_trans (grown_alloc w _) hg1
  obtain ⟨d0, d1, d2, -⟩ := box3 ((hg1.block _ (row_lt hb0.out) (by simp)).trans hb0.out)
  have HF := hide (And.intro (HX.out w1 hg0) hg0)
  clear hg1 hg0 HX HC
  go_wp2
  go_ret2
  exact ⟨w1.heap.size, rfl, HF.out.1, gn_alloc HF.out.2 _⟩
/-- A booking is put behind the others. -/
theorem Db.push {w : World} {lo d : Nat} {v : Value} {S : Sb} (h : Db w lo d v S) (hL : S.L.length + 1 ≤ 65536) (x : Bg) : ∃ v' w3, (∀ ty, (Builtin.append_ #[32, 32] ty #[v, .slice (some ⟨w.heap.size, 0, none⟩) 1 1]).run Tryz.prog (w.alloc (.cells (bgc x).toArray 108)).drew = .ok v' w3) ∧ w3.cell? ⟨d, 4, none⟩ = some v ∧ w3.frozen? ⟨d, 4, none⟩ = false ∧ Db (w3.setCell ⟨d, 4, none⟩ v') lo d v' { S with L := S.L ++ [x] } ∧ Dst w (w3.setCell ⟨d, 4, none⟩ v') d v v' := by
  have hlo : lo ≤ w.heap.size := Nat.le_trans h.ge (Nat.le_of_lt (row_lt h.head))
  obtain ⟨v', w3, h1, h2, h3, h4⟩ := app_bg x h.row hL hlo
  have k1 : Kept w w3 (fun i => v.ownBlock = some i) := (Kept.new (grown_alloc w _) _).trans (Kept.of h3 (S := fun i => v.ownBlock = some i) (fun j e _ => e)) (fun _ _ e => e)
  have hh := k1.at h.head h.apart
  have k2 := kept_setCell w3 d 4 v'
  have hr := row_setCell hh 4 v'
  have hap : ∀ q, v'.ownBlock = some q → ¬ q = d := fun q hq e => by
    obtain ⟨-, cur, hc⟩ := Ix.own_block h2 hq
    rw [e, hh] at hc
    cases hc
  refine ⟨v', w3, h1, ?_, free_row hh 4, ⟨?_, ?_, h.ge⟩, ⟨?_, fun i hi => ?_⟩⟩
  · rw [cell_row hh]; rfl
  · exact hr
  · have := Ix.row_keep h2 (w' := w3.setCell ⟨d, 4, none⟩ v') (fun q hq => by obtain ⟨-, cur, hc⟩ := Ix.own_block h2 hq; exact k2.block q (row_lt hc) (hap q hq))
    simpa using this
  · exact (k1.mono (fun i _ e => .inr e)).trans k2 (fun i _ e => .inl e)
  · rcases h4 with e | e
    · rw [e] at hi; exact .inl hi
    · rw [e] at hi; cases hi; exact .inr (by omega)

/-- A record's box beside the document's book. -/
structure Dm (w W : World) (B : Nat) (cs : List Value) (lo d : Nat) (v : Value) (S : Sb) : Prop where
  db : Db W lo d v S
  gr : w.grownBy W none
  box : W.heap[B]? = some (.cells cs.toArray 47 (0, 0))
  lo : w.heap.size ≤ B
section
variable {w W W' : World} {B lo d : Nat} {cs : List Value} {v : Value} {S : Sb}
theorem Dm.then (h : Dm w W B cs lo d v S) (g : W.grownBy W' none) : Dm w W' B cs lo d v S := ⟨h.db.then g, grown_trans h.gr g, (g.block _ (row_lt h.box) (by simp)).trans h.box, h.lo⟩
theorem Dm.start (h : Db w lo d v S) (cs : List Value) : Dm w (w.alloc (.cells cs.toArray 47)) w.heap.size cs lo d v S := ⟨h.then (grown_alloc w _), grown_alloc w _, heap_alloc_new w _, Nat.le_refl _⟩
theorem Dm.cells (h : Dm w W B cs lo d v S) : ∀ j u, cs[j]? = some u → W.cell? ⟨B, j, none⟩ = some u := fun j u hu => by rw [cell_row h.box]; exact hu
theorem Dm.off (h : Dm w W B cs lo d v S) : ¬ dbo d v B := by
  rintro (e | e)
  · have h1 := h.box
    rw [e, h.db.head] at h1
    cases h1
  · obtain ⟨-, cur, hc⟩ := Ix.own_block h.db.row e
    rw [h.box] at hc
    cases hc
end
/-- Behind a hold that is taken: the booking, and the next id. -/
theorem Dm.held {w W : World} {B lo d : Nat} {cs : List Value} {v : Value} {S : Sb} (h : Dm w W B cs lo d v S) (hL : S.L.length + 1 ≤ 65536) (_hn : S.n + 1 < 4294967296) (x : Bg) : ∃ v' w3, (∀ ty, (Builtin.append_ #[32, 32] ty #[v, .slice (some ⟨W.heap.size, 0, none⟩) 1 1]).run Tryz.prog (W.alloc (.cells (bgc x).toArray 108)).drew = .ok v' w3) ∧ w3.cell? ⟨d, 4, none⟩ = some v ∧ w3.frozen? ⟨d, 4, none⟩ = false ∧ (∀ j u, cs[j]? = some u → w3.cell? ⟨B, j, none⟩ = some u ∧ (w3.setCell ⟨d, 4, none⟩ v').cell? ⟨B, j, none⟩ = some u) ∧ (w3.setCell ⟨d, 4, none⟩ v').cell? ⟨d, 5, none⟩ = some (.int .u32 (S.n : Int)) ∧ (w3.setCell ⟨d, 4, none⟩ v').frozen? ⟨d, 5, none⟩ = false ∧ Db ((w3.setCell ⟨d, 4, none⟩ v').setCell ⟨d, 5, none⟩ (.int .u32 ((S.n : Int) + 1))) lo d v' { S with L := S.L ++ [x], n := S.n + 1 } ∧ Kept w ((w3.setCell ⟨d, 4, none⟩ v').setCell ⟨d, 5, none⟩ (.int .u32 ((S.n : Int) + 1))) (dbo d v) ∧ (∀ i, v'.ownBlock = some i → v.ownBlock = some i ∨ w.heap.size ≤ i) := by
  obtain ⟨v', w3, h1, h2, h3, h4, h5⟩ := h.db.push hL x
  have hh := h4.headed (j := 5) (u := .int .u32 ((S.n : Int) + 1)) (S' := { S with L := S.L ++ [x], n := S.n + 1 }) (by simp [dbc]) rfl
  have hbx : w3.heap[B]? = some (.cells cs.toArray 47 (0, 0)) := by
    have k := h5.kept.at h.box h.off
    have : ¬ B = d := fun e => h.off (.inl e)
    rw [(kept_setCell w3 d 4 v').block B (by
      have := (Array.getElem?_eq_some_iff.1 k).1
      simpa using this) this] at k
    exact k
  have hbx2 := h5.kept.at h.box h.off
  refine ⟨v', w3, h1, h2, h3, fun j u hu => ⟨by rw [cell_row hbx]; exact hu, by rw [cell_row hbx2]; exact hu⟩, h4.cell rfl, h4.free 5, hh.1, ?_, fun i hi => ?_⟩
  · have k1 := (Kept.new h.gr (dbo d v)).trans h5.kept (fun i _ e => e)
    refine k1.trans hh.2.kept (fun i hi e => ?_)
    rcases e with e | e
    · exact .inl e
    · rcases h5.own i e with e | e
      · exact .inr e
      · have := h.gr.size; omega
  · rcases h5.own i hi with e | e
    · exact .inl e
    · exact .inr (Nat.le_trans h.gr.size e)
/-- What a hold leaves. -/
def DhP (w w' : World) (lo d : Nat) (v : Value) (S : Sb) (r : Rc) (x : Bg) (e : Ending) : Prop := ∃ v', e = .returned (.int .i64 (holdE S r)) ∧ Db w' lo d v' (if holdE S r = 0 then { S with L := S.L ++ [x], n := S.n + 1 } else S) ∧ Dst w w' d v v'
set_option maxRecDepth 20000 in
set_option maxHeartbeats 16000000 in
theorem dhold_any {w : World} {lo d : Nat} {v : Value} {S : Sb} (h : Db w lo d v S) (ho : S.Ok) (i s : Nat) (u : Int) (_hi : i < 4294967296) : Calls Tryz.prog 53 #[.pointer (some ⟨d, 0, none⟩), Rk.rcV ⟨1, (i : Int), (s : Int), u, 0⟩] w fun e w' => DhP w w' lo d v S ⟨1, (i : Int), (s : Int), u, 0⟩ ⟨i, s, u⟩ e := by
  have hb1 := ho.b1
  have hfew := ho.few
  have hn1 := ho.n1
  have HOne := hide ho.one
  have m0 := Dm.start h [.int .i64 1, .int .u32 (i : Int), .int .i64 (s : Int), .int .i64 u, .int .i64 0]
  obtain ⟨vo, vcap, rfl, -⟩ := Ix.own_form h.row
  have HE : Hid (∀ W, Dm w W w.heap.size [.int .i64 1, .int .u32 (i : Int), .int .i64 (s : Int), .int .i64 u, .int .i64 0] lo d (.slice vo S.L.length vcap) S → ∀ e : Int, e ≠ 0 → holdE S ⟨1, (i : Int), (s : Int), u, 0⟩ = e → DhP w W lo d (.slice vo S.L.length vcap) S ⟨1, (i : Int), (s : Int), u, 0⟩ ⟨i, s, u⟩ (.returned (.int .i64 e))) := fun W m e he h1 => ⟨_, by rw [h1], by rw [if_neg (by rw [h1]; exact he)]; exact m.db, Dst.new m.gr d _⟩
  have HT : Hid (∀ W, Dm w W w.heap.size [.int .i64 1, .int .u32 (i : Int), .int .i64 (s : Int), .int .i64 u, .int .i64 0] lo d (.slice vo S.L.length vcap) S → Calls Tryz.prog 56 #[.pointer (some ⟨d, 0, none⟩), .int .i64 (s : Int)] W fun e w' => PosA (fun x => (x.s : Int) = (s : Int)) S.L e ∧ w' = W) := fun W m => dtaken_any m.db (by omega) (s : Int)
  have HM := hide m0
  have x1 := m0.cells 1 _ rfl
  have d5 := m0.db.cell (j := 5) rfl
  clear m0 h ho
  unfold Rk.rcV
  go_enter Tryz.func53, Tryz.ntmps53
  go_wp2
  by_cases h1 : i = S.n
  · subst h1
    go_quiet (fail)
    go_wp2
    clear x1 d5
    have m1 := HM.out.then (grown_drewN _ nq none)
    clear HM
    generalize World.drewN _ nq = w1 at *
    have x2 := m1.cells 2 _ rfl
    have d1 := m1.db.cell (j := 1) rfl
    have HM := hide m1
    clear m1
    by_cases h2 : s < S.a
    · have h2a : (s : Int) < (S.a : Int) := by omega
      have h2b : decide ((s : Int) ≥ (S.a : Int)) = false := by simp; omega
      go_quiet (fail)
      go_wp2
      clear x2 d1
      have m2 := HM.out.then (grown_drewN _ nq none)
      clear HM
      generalize World.drewN _ nq = w2 at *
      have x3 := m2.cells 3 _ rfl
      have d6 := m2.db.cell (j := 6) rfl
      have HM := hide m2
      clear m2
      by_cases h3 : u ≤ S.t
      · go_quiet (fail)
        go_wp2
        go_ret
        exact HE.out _ (HM.out.then (grown_drewN _ nq none)) 173 (by decide) (hold_173 h2 h3)
      · go_quiet (fail)
        have m3 := HM.out.then (grown_drewN _ nq none)
        clear HM x3 d6
        generalize World.drewN _ nq = w3 at *
        have x2 := m3.cells 2 _ rfl
        have HM := hide m3
        have HTc := hide (HT.out w3 m3)
        clear m3
        go_wp2_with fail
        refine HTc.out.mono ?_
        rintro e w4 ⟨hpos, rfl⟩
        rcases hpos with ⟨k, x, hk, hx, rfl⟩ | ⟨hno, rfl⟩
        · have hq : sat S.L s = some x := (sat_some HOne.out).2 ⟨List.mem_of_getElem? hk, by omega⟩
          have HF := hide (HE.out _ HM.out 170 (by decide) (hold_170 h2 (by omega) hq))
          clear hk hx hq
          go_wp2
          go_ret
          exact HF.out
        · have hq : sat S.L s = none := sat_none.2 (fun x hx e => hno x hx (by omega))
          have HQ := hide hq
          clear hno hq
          go_wp2
          have d2 := HM.out.db.cell (j := 2) rfl
          have d4 := HM.out.db.cell (j := 4) rfl
          have d5 := HM.out.db.cell (j := 5) rfl
          clear x2
          by_cases h5 : S.b ≤ S.L.length ∨ S.n = 4294967295
          · have HF := hide (fun W m => HE.out W m 6 (by decide) (hold_6 h2 (by omega) HQ.out h5))
            by_cases h6 : S.b ≤ S.L.length
            · have h6a : decide ((S.L.length : Int) ≥ (S.b : Int)) = true := by simp; omega
              have h6b : (S.b : Int) ≤ (S.L.length : Int) := by omega
              go_quiet (fail)
              go_wp2
              go_ret
              exact HF.out _ (HM.out.then (grown_drewN _ nq none))
            · have h6a : decide ((S.L.length : Int) ≥ (S.b : Int)) = false := by simp; omega
              have h6c : (S.L.length : Int) < (S.b : Int) := by omega
              have h7a : ((S.n : Int) == 4294967295) = true := by simp; omega
              have h7b : decide ((S.n : Int) = 4294967295) = true := by simp; omega
              go_quiet (fail)
              go_wp2
              go_ret
              exact HF.out _ (HM.out.then (grown_drewN _ nq none))
          · have h6a : decide ((S.L.length : Int) ≥ (S.b : Int)) = false := by simp; omega
            have h6c : (S.L.length : Int) < (S.b : Int) := by omega
            have h7a : ((S.n : Int) == 4294967295) = false := by simp; omega
            have h7b : decide ((S.n : Int) = 4294967295) = false := by simp; omega
            have HV := hide (hold_0 (k := 1) (c := 0) (u := u) h2 (by omega) HQ.out h5)
            have h6n : ¬ S.b ≤ S.L.length := fun e => h5 (.inl e)
            have h7n : ¬ S.n = 4294967295 := fun e => h5 (.inr e)
            clear h5
            go_quiet (fail)
            go_wp2
            clear d2 d4 d5
            have m5 := HM.out.then (grown_drewN _ nq none)
            clear HM
            generalize World.drewN _ nq = w5 at *
            obtain ⟨v', w6, hrun, y4, f4, hbx, y5, f5, hdb, hkp, hown⟩ := m5.held (by omega) (by omega) ⟨S.n, s, u⟩
            obtain ⟨B, hB⟩ : ∃ B, B = w.heap.size := ⟨_, rfl⟩
            obtain ⟨vo', vc', rfl, -⟩ := Ix.own_form hdb.row
            simp only [List.length_append, List.length_cons, List.length_nil, Nat.zero_add] at hrun hbx y5 f5 hdb hkp hown
            have k1 := m5.then (grown_alloc w5 (.cells (bgc ⟨S.n, s, u⟩).toArray 108))
            have HK0 : Hid (w5.drew.cell? ⟨B, 1, none⟩ = some (.int .u32 (S.n : Int)) ∧ w5.drew.cell? ⟨B, 2, none⟩ = some (.int .i64 (s : Int)) ∧ w5.drew.cell? ⟨B, 3, none⟩ = some (.int .i64 u)) := by rw [hB]; exact ⟨m5.cells 1 _ rfl, m5.cells 2 _ rfl, m5.cells 3 _ rfl⟩
            have HK1 : Hid ((w5.alloc (.cells (bgc ⟨S.n, s, u⟩).toArray 108)).drew.cell? ⟨B, 1, none⟩ = some (.int .u32 (S.n : Int)) ∧ (w5.alloc (.cells (bgc ⟨S.n, s, u⟩).toArray 108)).drew.cell? ⟨B, 2, none⟩ = some (.int .i64 (s : Int)) ∧ (w5.alloc (.cells (bgc ⟨S.n, s, u⟩).toArray 108)).drew.cell? ⟨B, 3, none⟩ = some (.int .i64 u)) := by rw [hB]; exact ⟨k1.cells 1 _ rfl, k1.cells 2 _ rfl, k1.cells 3 _ rfl⟩
            have HK2 : Hid (w6.cell? ⟨B, 1, none⟩ = some (.int .u32 (S.n : Int)) ∧ w6.cell? ⟨B, 2, none⟩ = some (.int .i64 (s : Int)) ∧ w6.cell? ⟨B, 3, none⟩ = some (.int .i64 u)) := by rw [hB]; exact ⟨(hbx 1 _ rfl).1, (hbx 2 _ rfl).1, (hbx 3 _ rfl).1⟩
            have HK3 : Hid ((w6.setCell ⟨d, 4, none⟩ (.slice vo' (S.L.length + 1) vc')).cell? ⟨B, 1, none⟩ = some (.int .u32 (S.n : Int)) ∧ (w6.setCell ⟨d, 4, none⟩ (.slice vo' (S.L.length + 1) vc')).cell? ⟨B, 2, none⟩ = some (.int .i64 (s : Int)) ∧ (w6.setCell ⟨d, 4, none⟩ (.slice vo' (S.L.length + 1) vc')).cell? ⟨B, 3, none⟩ = some (.int .i64 u)) := by rw [hB]; exact ⟨(hbx 1 _ rfl).2, (hbx 2 _ rfl).2, (hbx 3 _ rfl).2⟩
            have d4 : w5.drew.cell? ⟨d, 4, none⟩ = some (.slice vo S.L.length vcap) := m5.db.cell (j := 4) rfl
            have d4' : (w5.alloc (.cells (bgc ⟨S.n, s, u⟩).toArray 108)).drew.cell? ⟨d, 4, none⟩ = some (.slice vo S.L.length vcap) := k1.db.cell (j := 4) rfl
            have hwr : IntKind.u32.wrap ((S.n : Int) + 1) = (S.n : Int) + 1 := by rw [IntKind.wrap_u32]; omega
            have HZ : Hid (DhP w ((w6.setCell ⟨d, 4, none⟩ (.slice vo' (S.L.length + 1) vc')).setCell ⟨d, 5, none⟩ (.int .u32 ((S.n : Int) + 1))) lo d (.slice vo S.L.length vcap) S ⟨1, (S.n : Int), (s : Int), u, 0⟩ ⟨S.n, s, u⟩ (.returned (.int .i64 0))) := ⟨_, by rw [HV.out], by rw [if_pos HV.out]; exact hdb, hkp, hown⟩
            have HRun : Hid (∀ ty, (Builtin.append_ #[32, 32] ty #[.slice vo S.L.length vcap, .slice (some ⟨w5.heap.size, 0, none⟩) 1 1]).run Tryz.prog (w5.alloc (.cells (bgc ⟨S.n, s, u⟩).toArray 108)).drew = .ok (.slice vo' (S.L.length + 1) vc') w6) := hrun
            unfold bgc at HK1 d4' HRun
            clear hrun hbx hdb hkp hown m5 k1 HE HT HV HQ HTc
            rw [← hB]
            clear hB
            refine wp_region_held_drew (S := (fun W => W.cell? ⟨B, 1, none⟩ = some (.int .u32 (S.n : Int)) ∧ W.cell? ⟨B, 2, none⟩ = some (.int .i64 (s : Int)) ∧ W.cell? ⟨B, 3, none⟩ = some (.int .i64 u))) (by kernel_rfl) ?_ (fun hHeld => ?_)
            · (exact HK0.out)
            refine tkQ 0 (oi := ⟨some 50, .move (.tmp 0), 61, "ref.go:160", #[], none⟩) rfl ?_
            try simp only [Act.put, pA, pB, pC]
            refine tkQ 1 (oi := ⟨some 51, .move (.tmp 0), 61, "ref.go:160", #[], none⟩) rfl ?_
            try simp only [Act.put, pA, pB, pC]
            refine tkQ 2 (oi := ⟨some 52, .nilCheck (.tmp 51), 0, "ref.go:160", #[⟨1, .data⟩], none⟩) rfl ?_
            try simp only [Act.put, pA, pB, pC]
            refine tkQ 3 (oi := ⟨some 53, .fieldAddr 76 (.tmp 52) 2, 0, "ref.go:160", #[⟨2, .data⟩], none⟩) rfl ?_
            try simp only [Act.put, pA, pB, pC]
            refine tkQ 5 (oi := ⟨some 55, .fieldAddr 47 (.tmp 3) 1, 0, "ref.go:160", #[], none⟩) rfl ?_
            try simp only [Act.put, pA, pB, pC]
            refine tkQ 6 (oi := ⟨some 56, .load 30 (.tmp 55), 30, "ref.go:160", #[⟨5, .data⟩], none⟩) rfl ?_
            try simp only [Act.put, pA, pB, pC]
            refine tkQ 7 (oi := ⟨some 57, .fieldAddr 47 (.tmp 3) 2, 0, "ref.go:160", #[], none⟩) rfl ?_
            try simp only [Act.put, pA, pB, pC]
            refine tkQ 8 (oi := ⟨some 58, .load 3 (.tmp 57), 3, "ref.go:160", #[⟨7, .data⟩], none⟩) rfl ?_
            try simp only [Act.put, pA, pB, pC]
            refine tkQ 9 (oi := ⟨some 59, .fieldAddr 47 (.tmp 3) 3, 0, "ref.go:160", #[], none⟩) rfl ?_
            try simp only [Act.put, pA, pB, pC]
            refine tkQ 10 (oi := ⟨some 60, .load 2 (.tmp 59), 2, "ref.go:160", #[⟨9, .data⟩], none⟩) rfl ?_
            try simp only [Act.put, pA, pB, pC]
            refine tkQ 11 (oi := ⟨some 61, .build 108 #[(0, .tmp 56), (1, .tmp 58), (2, .tmp 60)], 108, "ref.go:160", #[⟨6, .data⟩, ⟨8, .data⟩, ⟨10, .data⟩], none⟩) rfl ?_
            try simp only [Act.put, pA, pB, pC]
            refine wpAnyH_ready (rs := [4, 12]) (by kernel_rfl) (by simp) ?_
            refine AllReadyH.cons (o := { dst := some 54, op := Go.Op.load 32 (Go.Operand.tmp 53), type := 32, pos := "ref.go:160", after := #[{ on := 3, ground := Go.Ground.data }], guard := none }) rfl (fun K hK => ?_) ?_
            · skip
              go_simp
              refine hK.out _ _ ?_ (fun hHeld => ?_)
              · ((try dsimp only); first | exact HK0.out | exact HK1.out | exact HK2.out | exact HK3.out)
              clear hK K
              try simp only [Act.put, pA, pB, pC]
              refine rdH (i := 12) rfl (fun K hK => ?_)
              go_simp
              refine hK.out _ _ ?_ (fun hHeld => ?_)
              · ((try dsimp only); first | exact HK0.out | exact HK1.out | exact HK2.out | exact HK3.out)
              clear hK K
              try simp only [Act.put, pA, pB, pC]
              refine rdH (i := 13) rfl (fun K hK => ?_)
              refine step_append_run (by rfl) _ _ _ (by rfl) _ _ (by rfl) (by rfl) HRun.out ?_
              refine hK.out _ _ ?_ (fun hHeld => ?_)
              · ((try dsimp only); first | exact HK0.out | exact HK1.out | exact HK2.out | exact HK3.out)
              clear hK K
              try simp only [Act.put, pA]
              refine tkQ 14 (oi := ⟨some 64, .nilCheck (.tmp 50), 0, "ref.go:160", #[⟨0, .data⟩, ⟨0, .phase⟩, ⟨1, .phase⟩, ⟨2, .phase⟩, ⟨3, .phase⟩, ⟨4, .phase⟩, ⟨5, .phase⟩, ⟨6, .phase⟩, ⟨7, .phase⟩, ⟨8, .phase⟩, ⟨9, .phase⟩, ⟨10, .phase⟩, ⟨11, .phase⟩, ⟨12, .phase⟩, ⟨13, .phase⟩], none⟩) rfl ?_
              try simp only [Act.put]
              refine tkQ 15 (oi := ⟨some 65, .fieldAddr 76 (.tmp 64) 2, 0, "ref.go:160", #[⟨14, .data⟩, ⟨0, .phase⟩, ⟨1, .phase⟩, ⟨2, .phase⟩, ⟨3, .phase⟩, ⟨4, .phase⟩, ⟨5, .phase⟩, ⟨6, .phase⟩, ⟨7, .phase⟩, ⟨8, .phase⟩, ⟨9, .phase⟩, ⟨10, .phase⟩, ⟨11, .phase⟩, ⟨12, .phase⟩, ⟨13, .phase⟩], none⟩) rfl ?_
              try simp only [Act.put]
              refine rdH (i := 16) rfl (fun K hK => ?_)
              go_simp
              refine hK.out _ _ ?_ (fun hHeld => ?_)
              · ((try dsimp only); first | exact HK0.out | exact HK1.out | exact HK2.out | exact HK3.out)
              clear hK K
              try simp only [Act.put, pA, pB, pC]
              refine wpAnyH_done (by kernel_rfl) ?_ _
              go_wp2
              go_ret
              exact HZ.out
            refine AllReadyH.cons (o := { dst := some 62, op := Go.Op.buildSlice 32 1 #[(0, Go.Operand.tmp 61)], type := 32, pos := "ref.go:160", after := #[{ on := 11, ground := Go.Ground.data }], guard := none }) rfl (fun K hK => ?_) ?_
            · skip
              go_simp
              refine hK.out _ _ ?_ (fun hHeld => ?_)
              · ((try dsimp only); first | exact HK0.out | exact HK1.out | exact HK2.out | exact HK3.out)
              clear hK K
              try simp only [Act.put, pA, pB, pC]
              refine rdH (i := 4) rfl (fun K hK => ?_)
              go_simp
              refine hK.out _ _ ?_ (fun hHeld => ?_)
              · ((try dsimp only); first | exact HK0.out | exact HK1.out | exact HK2.out | exact HK3.out)
              clear hK K
              try simp only [Act.put, pA, pB, pC]
              refine rdH (i := 13) rfl (fun K hK => ?_)
              refine step_append_run (by rfl) _ _ _ (by rfl) _ _ (by rfl) (by rfl) HRun.out ?_
              refine hK.out _ _ ?_ (fun hHeld => ?_)
              · ((try dsimp only); first | exact HK0.out | exact HK1.out | exact HK2.out | exact HK3.out)
              clear hK K
              try simp only [Act.put, pA]
              refine tkQ 14 (oi := ⟨some 64, .nilCheck (.tmp 50), 0, "ref.go:160", #[⟨0, .data⟩, ⟨0, .phase⟩, ⟨1, .phase⟩, ⟨2, .phase⟩, ⟨3, .phase⟩, ⟨4, .phase⟩, ⟨5, .phase⟩, ⟨6, .phase⟩, ⟨7, .phase⟩, ⟨8, .phase⟩, ⟨9, .phase⟩, ⟨10, .phase⟩, ⟨11, .phase⟩, ⟨12, .phase⟩, ⟨13, .phase⟩], none⟩) rfl ?_
              try simp only [Act.put]
              refine tkQ 15 (oi := ⟨some 65, .fieldAddr 76 (.tmp 64) 2, 0, "ref.go:160", #[⟨14, .data⟩, ⟨0, .phase⟩, ⟨1, .phase⟩, ⟨2, .phase⟩, ⟨3, .phase⟩, ⟨4, .phase⟩, ⟨5, .phase⟩, ⟨6, .phase⟩, ⟨7, .phase⟩, ⟨8, .phase⟩, ⟨9, .phase⟩, ⟨10, .phase⟩, ⟨11, .phase⟩, ⟨12, .phase⟩, ⟨13, .phase⟩], none⟩) rfl ?_
              try simp only [Act.put]
              refine rdH (i := 16) rfl (fun K hK => ?_)
              go_simp
              refine hK.out _ _ ?_ (fun hHeld => ?_)
              · ((try dsimp only); first | exact HK0.out | exact HK1.out | exact HK2.out | exact HK3.out)
              clear hK K
              try simp only [Act.put, pA, pB, pC]
              refine wpAnyH_done (by kernel_rfl) ?_ _
              go_wp2
              go_ret
              exact HZ.out
            exact AllReadyH.nil
    · have h2b : decide ((s : Int) ≥ (S.a : Int)) = true := by simp; omega
      have h2c : (S.a : Int) ≤ (s : Int) := by omega
      go_quiet (fail)
      go_wp2
      go_ret
      exact HE.out _ (HM.out.then (grown_drewN _ nq none)) 140 (by decide) (hold_140 h2)
  · have f1 : ((i : Int) != (S.n : Int)) = true := by simp; omega
    go_quiet (fail)
    go_wp2
    go_ret
    exact HE.out _ (HM.out.then (grown_drewN _ nq none)) 2 (by decide) (hold_2 h1)
end Go.Proofs.YtinkkocleognbaaGreatDoor
