/- Texts joined: Db1, Db2, RkRg. -/
import Derived.Test.YtcbiloomnkbalaaGreatDoorJyAm
import Derived.Test.YtcbiloomnkbalaaGreatDoorJyAn
import Derived.Laws.BitsAllLaws
import Derived.WalkKit
import Derived.WalkSpells
import Derived.WalkLawsBesides
import Derived.Laws.CopyOwn
import Derived.Deep.MidRow
namespace Go.Proofs.YtcbiloomnkbalaaGreatDoor
/- The document's book: New, hold, tick. -/
open Go.RowKit
attribute [local go_sem ↓] Go.wp_at_zero Go.wp_at_succ
attribute [local go_sem] Oper.semAt_some
set_option maxHeartbeats 4000000 in
theorem dnew_any {a b c : Nat} (h : Gx.OkS a b c) (w : World) : Calls Tryz.prog 16 #[limV a b c] w fun e w' => ∃ d, e = .returned (.tuple #[.pointer (some ⟨d, 0, none⟩), .int .i64 0]) ∧ Db w' w.heap.size d (.slice none 0 0) (nS a b c) ∧ w.grownBy w' none := by
  have HC : Hid (∀ W : World, Calls Tryz.prog 43 #[.agg #[.int .i64 (a : Int), .int .i64 (b : Int), .int .i64 (c : Int)]] W fun e w' => e = .returned (.int .i64 0) ∧ W.grownBy w' none) := fun W => Ge.rcheck_ok _ _ _ h W
  have hb0 := hide (heap_alloc_new w (.cells [.int .i64 (a : Int), .int .i64 (b : Int), .int .i64 (c : Int)].toArray 23))
  have HX : Hid (∀ w1 : World, w.grownBy w1 none → Db (w1.alloc (.cells #[.bool true, .int .i64 (a : Int), .int .i64 (b : Int), .int .i64 (c : Int), .slice none 0 0, .int .u32 1, .int .i64 0] 52)) w.heap.size w1.heap.size (.slice none 0 0) (nS a b c)) := fun w1 g => ⟨heap_alloc_new w1 _, World.ownsRow_nil _ _ _ _, g.size⟩
  clear h
  unfold limV
  generalize (a : Int) = ai at *
  generalize (b : Int) = bi at *
  generalize (c : Int) = ci at *
  go_enter Tryz.func16, Tryz.ntmps16
  go_wp2_with fail
  refine (HC.out _).mono ?_
  rintro e w1 ⟨rfl, hg1⟩
  have hg0 := grown_trans (grown_alloc w _) hg1
  obtain ⟨d0, d1, d2, -⟩ := box3 ((hg1.block _ (row_lt hb0.out) (by simp)).trans hb0.out)
  have HF := hide (And.intro (HX.out w1 hg0) hg0)
  clear hg1 hg0 HX HC
  go_wp2
  go_ret2
  exact ⟨w1.heap.size, rfl, HF.out.1, gn_alloc HF.out.2 _⟩
/-- A booking is put behind the others. -/
theorem Db.push {w : World} {lo d : Nat} {v : Value} {S : Sb} (h : Db w lo d v S) (hL : S.L.length + 1 ≤ 65536) (x : Bg) : ∃ v' w3, (∀ ty, (Builtin.append_ #[25, 25] ty #[v, .slice (some ⟨w.heap.size, 0, none⟩) 1 1]).run Tryz.prog (w.alloc (.cells (bgc x).toArray 78)).drew = .ok v' w3) ∧ w3.cell? ⟨d, 4, none⟩ = some v ∧ w3.frozen? ⟨d, 4, none⟩ = false ∧ Db (w3.setCell ⟨d, 4, none⟩ v') lo d v' { S with L := S.L ++ [x] } ∧ Dst w (w3.setCell ⟨d, 4, none⟩ v') d v v' := by
  have hlo : lo ≤ w.heap.size := Nat.le_trans h.ge (Nat.le_of_lt (row_lt h.head))
  obtain ⟨v', w3, h1, h2, h3, h4⟩ := app_bg x h.row hL hlo
  have k1 : Kept w w3 (fun i => v.ownBlock = some i) := (Kept.new (grown_alloc w _) _).trans (Kept.of h3 (S := fun i => v.ownBlock = some i) (fun j e _ => e)) (fun _ _ e => e)
  have hh := k1.at h.head h.apart
  have k2 := kept_setCell w3 d 4 v'
  have hr := row_setCell hh 4 v'
  have hap : ∀ q, v'.ownBlock = some q → ¬ q = d := fun q hq e => by
    obtain ⟨-, cur, hc⟩ := Ix.own_block h2 hq
    rw [e, hh] at hc
    cases hc
  refine ⟨v', w3, h1, ?_, free_row hh 4, ⟨?_, ?_, h.ge⟩, ⟨?_, fun i hi => ?_⟩⟩
  · rw [cell_row hh]; rfl
  · exact hr
  · have := Ix.row_keep h2 (w' := w3.setCell ⟨d, 4, none⟩ v') (fun q hq => by obtain ⟨-, cur, hc⟩ := Ix.own_block h2 hq; exact k2.block q (row_lt hc) (hap q hq))
    simpa using this
  · exact (k1.mono (fun i _ e => .inr e)).trans k2 (fun i _ e => .inl e)
  · rcases h4 with e | e
    · rw [e] at hi; exact .inl hi
    · rw [e] at hi; cases hi; exact .inr (by omega)

/-- A record's box beside the document's book. -/
structure Dm (w W : World) (B : Nat) (cs : List Value) (lo d : Nat) (v : Value) (S : Sb) : Prop where
  db : Db W lo d v S
  gr : w.grownBy W none
  box : W.heap[B]? = some (.cells cs.toArray 46 (0, 0))
  lo : w.heap.size ≤ B
section
variable {w W W' : World} {B lo d : Nat} {cs : List Value} {v : Value} {S : Sb}
theorem Dm.then (h : Dm w W B cs lo d v S) (g : W.grownBy W' none) : Dm w W' B cs lo d v S := ⟨h.db.then g, grown_trans h.gr g, (g.block _ (row_lt h.box) (by simp)).trans h.box, h.lo⟩
theorem Dm.start (h : Db w lo d v S) (cs : List Value) : Dm w (w.alloc (.cells cs.toArray 46)) w.heap.size cs lo d v S := ⟨h.then (grown_alloc w _), grown_alloc w _, heap_alloc_new w _, Nat.le_refl _⟩
theorem Dm.cells (h : Dm w W B cs lo d v S) : ∀ j u, cs[j]? = some u → W.cell? ⟨B, j, none⟩ = some u := fun j u hu => by rw [cell_row h.box]; exact hu
theorem Dm.off (h : Dm w W B cs lo d v S) : ¬ dbo d v B := by
  rintro (e | e)
  · have h1 := h.box
    rw [e, h.db.head] at h1
    cases h1
  · obtain ⟨-, cur, hc⟩ := Ix.own_block h.db.row e
    rw [h.box] at hc
    cases hc
end
/-- Behind a hold that is taken: the booking, and the next id. -/
theorem Dm.held {w W : World} {B lo d : Nat} {cs : List Value} {v : Value} {S : Sb} (h : Dm w W B cs lo d v S) (hL : S.L.length + 1 ≤ 65536) (_hn : S.n + 1 < 4294967296) (x : Bg) : ∃ v' w3, (∀ ty, (Builtin.append_ #[25, 25] ty #[v, .slice (some ⟨W.heap.size, 0, none⟩) 1 1]).run Tryz.prog (W.alloc (.cells (bgc x).toArray 78)).drew = .ok v' w3) ∧ w3.cell? ⟨d, 4, none⟩ = some v ∧ w3.frozen? ⟨d, 4, none⟩ = false ∧ (∀ j u, cs[j]? = some u → w3.cell? ⟨B, j, none⟩ = some u ∧ (w3.setCell ⟨d, 4, none⟩ v').cell? ⟨B, j, none⟩ = some u) ∧ (w3.setCell ⟨d, 4, none⟩ v').cell? ⟨d, 5, none⟩ = some (.int .u32 (S.n : Int)) ∧ (w3.setCell ⟨d, 4, none⟩ v').frozen? ⟨d, 5, none⟩ = false ∧ Db ((w3.setCell ⟨d, 4, none⟩ v').setCell ⟨d, 5, none⟩ (.int .u32 ((S.n : Int) + 1))) lo d v' { S with L := S.L ++ [x], n := S.n + 1 } ∧ Kept w ((w3.setCell ⟨d, 4, none⟩ v').setCell ⟨d, 5, none⟩ (.int .u32 ((S.n : Int) + 1))) (dbo d v) ∧ (∀ i, v'.ownBlock = some i → v.ownBlock = some i ∨ w.heap.size ≤ i) := by
  obtain ⟨v', w3, h1, h2, h3, h4, h5⟩ := h.db.push hL x
  have hh := h4.headed (j := 5) (u := .int .u32 ((S.n : Int) + 1)) (S' := { S with L := S.L ++ [x], n := S.n + 1 }) (by simp [dbc]) rfl
  have hbx : w3.heap[B]? = some (.cells cs.toArray 46 (0, 0)) := by
    have k := h5.kept.at h.box h.off
    have : ¬ B = d := fun e => h.off (.inl e)
    rw [(kept_setCell w3 d 4 v').block B (by
      have := (Array.getElem?_eq_some_iff.1 k).1
      simpa using this) this] at k
    exact k
  have hbx2 := h5.kept.at h.box h.off
  refine ⟨v', w3, h1, h2, h3, fun j u hu => ⟨by rw [cell_row hbx]; exact hu, by rw [cell_row hbx2]; exact hu⟩, h4.cell rfl, h4.free 5, hh.1, ?_, fun i hi => ?_⟩
  · have k1 := (Kept.new h.gr (dbo d v)).trans h5.kept (fun i _ e => e)
    refine k1.trans hh.2.kept (fun i hi e => ?_)
    rcases e with e | e
    · exact .inl e
    · rcases h5.own i e with e | e
      · exact .inr e
      · have := h.gr.size; omega
  · rcases h5.own i hi with e | e
    · exact .inl e
    · exact .inr (Nat.le_trans h.gr.size e)
/-- What a hold leaves. -/
def DhP (w w' : World) (lo d : Nat) (v : Value) (S : Sb) (r : Rc) (x : Bg) (e : Ending) : Prop := ∃ v', e = .returned (.int .i64 (holdE S r)) ∧ Db w' lo d v' (if holdE S r = 0 then { S with L := S.L ++ [x], n := S.n + 1 } else S) ∧ Dst w w' d v v'
set_option maxRecDepth 20000 in
set_option maxHeartbeats 16000000 in
theorem dhold_any {w : World} {lo d : Nat} {v : Value} {S : Sb} (h : Db w lo d v S) (ho : S.Ok) (i s : Nat) (u : Int) (_hi : i < 4294967296) : Calls Tryz.prog 77 #[.pointer (some ⟨d, 0, none⟩), Rk.rcV ⟨1, (i : Int), (s : Int), u, 0⟩] w fun e w' => DhP w w' lo d v S ⟨1, (i : Int), (s : Int), u, 0⟩ ⟨i, s, u⟩ e := by
  have hb1 := ho.b1
  have hfew := ho.few
  have hn1 := ho.n1
  have HOne := hide ho.one
  have m0 := Dm.start h [.int .i64 1, .int .u32 (i : Int), .int .i64 (s : Int), .int .i64 u, .int .i64 0]
  obtain ⟨vo, vcap, rfl, -⟩ := Ix.own_form h.row
  have HE : Hid (∀ W, Dm w W w.heap.size [.int .i64 1, .int .u32 (i : Int), .int .i64 (s : Int), .int .i64 u, .int .i64 0] lo d (.slice vo S.L.length vcap) S → ∀ e : Int, e ≠ 0 → holdE S ⟨1, (i : Int), (s : Int), u, 0⟩ = e → DhP w W lo d (.slice vo S.L.length vcap) S ⟨1, (i : Int), (s : Int), u, 0⟩ ⟨i, s, u⟩ (.returned (.int .i64 e))) := fun W m e he h1 => ⟨_, by rw [h1], by rw [if_neg (by rw [h1]; exact he)]; exact m.db, Dst.new m.gr d _⟩
  have HT : Hid (∀ W, Dm w W w.heap.size [.int .i64 1, .int .u32 (i : Int), .int .i64 (s : Int), .int .i64 u, .int .i64 0] lo d (.slice vo S.L.length vcap) S → Calls Tryz.prog 80 #[.pointer (some ⟨d, 0, none⟩), .int .i64 (s : Int)] W fun e w' => PosA (fun x => (x.s : Int) = (s : Int)) S.L e ∧ w' = W) := fun W m => dtaken_any m.db (by omega) (s : Int)
  have HM := hide m0
  have x1 := m0.cells 1 _ rfl
  have d5 := m0.db.cell (j := 5) rfl
  clear m0 h ho
  unfold Rk.rcV
  go_enter Tryz.func77, Tryz.ntmps77
  go_wp2
  by_cases h1 : i = S.n
  · subst h1
    go_quiet (fail)
    go_wp2
    clear x1 d5
    have m1 := HM.out.then (grown_drewN _ nq none)
    clear HM
    generalize World.drewN _ nq = w1 at *
    have x2 := m1.cells 2 _ rfl
    have d1 := m1.db.cell (j := 1) rfl
    have HM := hide m1
    clear m1
    by_cases h2 : s < S.a
    · have h2a : (s : Int) < (S.a : Int) := by omega
      have h2b : decide ((s : Int) ≥ (S.a : Int)) = false := by simp; omega
      go_quiet (fail)
      go_wp2
      clear x2 d1
      have m2 := HM.out.then (grown_drewN _ nq none)
      clear HM
      generalize World.drewN _ nq = w2 at *
      have x3 := m2.cells 3 _ rfl
      have d6 := m2.db.cell (j := 6) rfl
      have HM := hide m2
      clear m2
      by_cases h3 : u ≤ S.t
      · go_quiet (fail)
        go_wp2
        go_ret
        exact HE.out _ (HM.out.then (grown_drewN _ nq none)) 173 (by decide) (hold_173 h2 h3)
      · go_quiet (fail)
        have m3 := HM.out.then (grown_drewN _ nq none)
        clear HM x3 d6
        generalize World.drewN _ nq = w3 at *
        have x2 := m3.cells 2 _ rfl
        have HM := hide m3
        have HTc := hide (HT.out w3 m3)
        clear m3
        go_wp2_with fail
        refine HTc.out.mono ?_
        rintro e w4 ⟨hpos, rfl⟩
        rcases hpos with ⟨k, x, hk, hx, rfl⟩ | ⟨hno, rfl⟩
        · have hq : sat S.L s = some x := (sat_some HOne.out).2 ⟨List.mem_of_getElem? hk, by omega⟩
          have HF := hide (HE.out _ HM.out 170 (by decide) (hold_170 h2 (by omega) hq))
          clear hk hx hq
          go_wp2
          go_ret
          exact HF.out
        · have hq : sat S.L s = none := sat_none.2 (fun x hx e => hno x hx (by omega))
          have HQ := hide hq
          clear hno hq
          go_wp2
          have d2 := HM.out.db.cell (j := 2) rfl
          have d4 := HM.out.db.cell (j := 4) rfl
          have d5 := HM.out.db.cell (j := 5) rfl
          clear x2
          by_cases h5 : S.b ≤ S.L.length ∨ S.n = 4294967295
          · have HF := hide (fun W m => HE.out W m 6 (by decide) (hold_6 h2 (by omega) HQ.out h5))
            by_cases h6 : S.b ≤ S.L.length
            · have h6a : decide ((S.L.length : Int) ≥ (S.b : Int)) = true := by simp; omega
              have h6b : (S.b : Int) ≤ (S.L.length : Int) := by omega
              go_quiet (fail)
              go_wp2
              go_ret
              exact HF.out _ (HM.out.then (grown_drewN _ nq none))
            · have h6a : decide ((S.L.length : Int) ≥ (S.b : Int)) = false := by simp; omega
              have h6c : (S.L.length : Int) < (S.b : Int) := by omega
              have h7a : ((S.n : Int) == 4294967295) = true := by simp; omega
              have h7b : decide ((S.n : Int) = 4294967295) = true := by simp; omega
              go_quiet (fail)
              go_wp2
              go_ret
              exact HF.out _ (HM.out.then (grown_drewN _ nq none))
          · have h6a : decide ((S.L.length : Int) ≥ (S.b : Int)) = false := by simp; omega
            have h6c : (S.L.length : Int) < (S.b : Int) := by omega
            have h7a : ((S.n : Int) == 4294967295) = false := by simp; omega
            have h7b : decide ((S.n : Int) = 4294967295) = false := by simp; omega
            have HV := hide (hold_0 (k := 1) (c := 0) (u := u) h2 (by omega) HQ.out h5)
            have h6n : ¬ S.b ≤ S.L.length := fun e => h5 (.inl e)
            have h7n : ¬ S.n = 4294967295 := fun e => h5 (.inr e)
            clear h5
            go_quiet (fail)
            go_wp2
            clear d2 d4 d5
            have m5 := HM.out.then (grown_drewN _ nq none)
            clear HM
            generalize World.drewN _ nq = w5 at *
            obtain ⟨v', w6, hrun, y4, f4, hbx, y5, f5, hdb, hkp, hown⟩ := m5.held (by omega) (by omega) ⟨S.n, s, u⟩
            obtain ⟨B, hB⟩ : ∃ B, B = w.heap.size := ⟨_, rfl⟩
            obtain ⟨vo', vc', rfl, -⟩ := Ix.own_form hdb.row
            simp only [List.length_append, List.length_cons, List.length_nil, Nat.zero_add] at hrun hbx y5 f5 hdb hkp hown
            have k1 := m5.then (grown_alloc w5 (.cells (bgc ⟨S.n, s, u⟩).toArray 78))
            have HK0 : Hid (w5.drew.cell? ⟨B, 1, none⟩ = some (.int .u32 (S.n : Int)) ∧ w5.drew.cell? ⟨B, 2, none⟩ = some (.int .i64 (s : Int)) ∧ w5.drew.cell? ⟨B, 3, none⟩ = some (.int .i64 u)) := by rw [hB]; exact ⟨m5.cells 1 _ rfl, m5.cells 2 _ rfl, m5.cells 3 _ rfl⟩
            have HK1 : Hid ((w5.alloc (.cells (bgc ⟨S.n, s, u⟩).toArray 78)).drew.cell? ⟨B, 1, none⟩ = some (.int .u32 (S.n : Int)) ∧ (w5.alloc (.cells (bgc ⟨S.n, s, u⟩).toArray 78)).drew.cell? ⟨B, 2, none⟩ = some (.int .i64 (s : Int)) ∧ (w5.alloc (.cells (bgc ⟨S.n, s, u⟩).toArray 78)).drew.cell? ⟨B, 3, none⟩ = some (.int .i64 u)) := by rw [hB]; exact ⟨k1.cells 1 _ rfl, k1.cells 2 _ rfl, k1.cells 3 _ rfl⟩
            have HK2 : Hid (w6.cell? ⟨B, 1, none⟩ = some (.int .u32 (S.n : Int)) ∧ w6.cell? ⟨B, 2, none⟩ = some (.int .i64 (s : Int)) ∧ w6.cell? ⟨B, 3, none⟩ = some (.int .i64 u)) := by rw [hB]; exact ⟨(hbx 1 _ rfl).1, (hbx 2 _ rfl).1, (hbx 3 _ rfl).1⟩
            have HK3 : Hid ((w6.setCell ⟨d, 4, none⟩ (.slice vo' (S.L.length + 1) vc')).cell? ⟨B, 1, none⟩ = some (.int .u32 (S.n : Int)) ∧ (w6.setCell ⟨d, 4, none⟩ (.slice vo' (S.L.length + 1) vc')).cell? ⟨B, 2, none⟩ = some (.int .i64 (s : Int)) ∧ (w6.setCell ⟨d, 4, none⟩ (.slice vo' (S.L.length + 1) vc')).cell? ⟨B, 3, none⟩ = some (.int .i64 u)) := by rw [hB]; exact ⟨(hbx 1 _ rfl).2, (hbx 2 _ rfl).2, (hbx 3 _ rfl).2⟩
            have d4 : w5.drew.cell? ⟨d, 4, none⟩ = some (.slice vo S.L.length vcap) := m5.db.cell (j := 4) rfl
            have d4' : (w5.alloc (.cells (bgc ⟨S.n, s, u⟩).toArray 78)).drew.cell? ⟨d, 4, none⟩ = some (.slice vo S.L.length vcap) := k1.db.cell (j := 4) rfl
            have hwr : IntKind.u32.wrap ((S.n : Int) + 1) = (S.n : Int) + 1 := by rw [IntKind.wrap_u32]; omega
            have HZ : Hid (DhP w ((w6.setCell ⟨d, 4, none⟩ (.slice vo' (S.L.length + 1) vc')).setCell ⟨d, 5, none⟩ (.int .u32 ((S.n : Int) + 1))) lo d (.slice vo S.L.length vcap) S ⟨1, (S.n : Int), (s : Int), u, 0⟩ ⟨S.n, s, u⟩ (.returned (.int .i64 0))) := ⟨_, by rw [HV.out], by rw [if_pos HV.out]; exact hdb, hkp, hown⟩
            have HRun : Hid (∀ ty, (Builtin.append_ #[25, 25] ty #[.slice vo S.L.length vcap, .slice (some ⟨w5.heap.size, 0, none⟩) 1 1]).run Tryz.prog (w5.alloc (.cells (bgc ⟨S.n, s, u⟩).toArray 78)).drew = .ok (.slice vo' (S.L.length + 1) vc') w6) := hrun
            unfold bgc at HK1 d4' HRun
            clear hrun hbx hdb hkp hown m5 k1 HE HT HV HQ HTc
            rw [← hB]
            clear hB
            refine wp_region_held_drew (S := (fun W => W.cell? ⟨B, 1, none⟩ = some (.int .u32 (S.n : Int)) ∧ W.cell? ⟨B, 2, none⟩ = some (.int .i64 (s : Int)) ∧ W.cell? ⟨B, 3, none⟩ = some (.int .i64 u))) (by kernel_rfl) ?_ (fun hHeld => ?_)
            · (exact HK0.out)
            refine tkQ 0 rfl ?_
            try simp only [Act.put, pA]
            refine tkQ 1 rfl ?_
            try simp only [Act.put]
            refine tkQ 2 rfl ?_
            try simp only [Act.put]
            refine tkQ 3 rfl ?_
            try simp only [Act.put]
            refine tkQ 5 rfl ?_
            try simp only [Act.put]
            refine tkQ 6 rfl ?_
            try simp only [Act.put]
            refine tkQ 7 rfl ?_
            try simp only [Act.put]
            refine tkQ 8 rfl ?_
            try simp only [Act.put]
            refine tkQ 9 rfl ?_
            try simp only [Act.put]
            refine tkQ 10 rfl ?_
            try simp only [Act.put]
            refine tkQ 11 rfl ?_
            try simp only [Act.put]
            refine wpAnyH_ready (rs := [4, 12]) (by kernel_rfl) (by simp) ?_
            refine AllReadyH.cons rfl (fun K hK => ?_) ?_
            · skip
              go_simp
              refine hK.out _ _ ?_ (fun hHeld => ?_)
              · ((try dsimp only); first | exact HK0.out | exact HK1.out | exact HK2.out | exact HK3.out)
              clear hK K
              try simp only [Act.put, pA, pB, pC]
              refine rdH (i := 12) rfl (fun K hK => ?_)
              go_simp
              refine hK.out _ _ ?_ (fun hHeld => ?_)
              · ((try dsimp only); first | exact HK0.out | exact HK1.out | exact HK2.out | exact HK3.out)
              clear hK K
              try simp only [Act.put, pA, pB, pC]
              refine rdH (i := 13) rfl (fun K hK => ?_)
              refine step_append_run (by rfl) _ _ _ (by rfl) _ _ (by rfl) (by rfl) HRun.out ?_
              refine hK.out _ _ ?_ (fun hHeld => ?_)
              · ((try dsimp only); first | exact HK0.out | exact HK1.out | exact HK2.out | exact HK3.out)
              clear hK K
              try simp only [Act.put, pA]
              refine tkQ 14 rfl ?_
              try simp only [Act.put]
              refine tkQ 15 rfl ?_
              try simp only [Act.put]
              refine rdH (i := 16) rfl (fun K hK => ?_)
              go_simp
              refine hK.out _ _ ?_ (fun hHeld => ?_)
              · ((try dsimp only); first | exact HK0.out | exact HK1.out | exact HK2.out | exact HK3.out)
              clear hK K
              try simp only [Act.put, pA, pB, pC]
              refine wpAnyH_done (by kernel_rfl) ?_ _
              go_wp2
              go_ret
              exact HZ.out
            refine AllReadyH.cons rfl (fun K hK => ?_) ?_
            · skip
              go_simp
              refine hK.out _ _ ?_ (fun hHeld => ?_)
              · ((try dsimp only); first | exact HK0.out | exact HK1.out | exact HK2.out | exact HK3.out)
              clear hK K
              try simp only [Act.put, pA, pB, pC]
              refine rdH (i := 4) rfl (fun K hK => ?_)
              go_simp
              refine hK.out _ _ ?_ (fun hHeld => ?_)
              · ((try dsimp only); first | exact HK0.out | exact HK1.out | exact HK2.out | exact HK3.out)
              clear hK K
              try simp only [Act.put, pA, pB, pC]
              refine rdH (i := 13) rfl (fun K hK => ?_)
              refine step_append_run (by rfl) _ _ _ (by rfl) _ _ (by rfl) (by rfl) HRun.out ?_
              refine hK.out _ _ ?_ (fun hHeld => ?_)
              · ((try dsimp only); first | exact HK0.out | exact HK1.out | exact HK2.out | exact HK3.out)
              clear hK K
              try simp only [Act.put, pA]
              refine tkQ 14 rfl ?_
              try simp only [Act.put]
              refine tkQ 15 rfl ?_
              try simp only [Act.put]
              refine rdH (i := 16) rfl (fun K hK => ?_)
              go_simp
              refine hK.out _ _ ?_ (fun hHeld => ?_)
              · ((try dsimp only); first | exact HK0.out | exact HK1.out | exact HK2.out | exact HK3.out)
              clear hK K
              try simp only [Act.put, pA, pB, pC]
              refine wpAnyH_done (by kernel_rfl) ?_ _
              go_wp2
              go_ret
              exact HZ.out
            exact AllReadyH.nil
    · have h2b : decide ((s : Int) ≥ (S.a : Int)) = true := by simp; omega
      have h2c : (S.a : Int) ≤ (s : Int) := by omega
      go_quiet (fail)
      go_wp2
      go_ret
      exact HE.out _ (HM.out.then (grown_drewN _ nq none)) 140 (by decide) (hold_140 h2)
  · have f1 : ((i : Int) != (S.n : Int)) = true := by simp; omega
    go_quiet (fail)
    go_wp2
    go_ret
    exact HE.out _ (HM.out.then (grown_drewN _ nq none)) 2 (by decide) (hold_2 h1)
end Go.Proofs.YtcbiloomnkbalaaGreatDoor
namespace Go.Proofs.YtcbiloomnkbalaaGreatDoor
/- The document's book: tick. -/
open Go.RowKit
attribute [local go_sem ↓] Go.wp_at_zero Go.wp_at_succ
attribute [local go_sem] Oper.semAt_some
theorem info108 : (Tryz.prog.info? 78).map (fun i => (i.zero, i.size, i.bytes)) = some (some (.agg #[.int .u32 0, .int .i64 0, .int .i64 0]), 3, 24) := by kernel_rfl
/-- What a tick leaves. -/
def DtP (w w' : World) (lo d : Nat) (v : Value) (S : Sb) (c : Int) (e : Ending) : Prop := ∃ v', e = .returned (.int .i64 (if c ≤ S.t then 173 else 0)) ∧ Db w' lo d v' (if c ≤ S.t then S else { S with L := tik S.L c, t := c }) ∧ Dst w w' d v v'
/-- Inside tick, behind j bookings. -/
structure TiS (w wr : World) (lo d : Nat) (v : Value) (S : Sb) (c : Int) (j : Nat) (q : Value) : Prop where
  db : Db wr lo d v S
  row : wr.ownsRow w.heap.size 78 3 q (tik (S.L.take j) c).length (bgs (tik (S.L.take j) c))
  kp : Kept w wr (dbo d v)
theorem slice_n {w : World} {b m cap : Nat} {e : TypeId} {size n : Nat} {vo : Option Addr} {xs : List Value} (h : w.ownsRow b e size (.slice vo m cap) n xs) : m = n := by
  obtain ⟨_, _, e, -⟩ := Ix.own_form h
  injection e
theorem tik_le (L : List Bg) (c : Int) : (tik L c).length ≤ L.length := List.length_filter_le _ _
theorem own_kept {w w' : World} {b : Nat} {e : TypeId} {size n : Nat} {v : Value} {xs : List Value} {X : Nat → Prop} (h : w.ownsRow b e size v n xs) (k : Kept w w' X) (hX : ∀ i, v.ownBlock = some i → ¬ X i) : w'.ownsRow b e size v n xs :=
  Ix.row_keep h (fun q hq => by obtain ⟨_, cur, hc⟩ := Ix.own_block h hq; exact k.block q (row_lt hc) (hX q hq))
set_option maxRecDepth 20000 in
set_option maxHeartbeats 16000000 in
theorem dtick_any {w : World} {lo d : Nat} {v : Value} {S : Sb} (h : Db w lo d v S) (ho : S.Ok) (c : Int) : Calls Tryz.prog 78 #[.pointer (some ⟨d, 0, none⟩), .int .i64 c] w fun e w' => DtP w w' lo d v S c e := by
  have hL : S.L.length ≤ 4096 := by have := ho.b1; have := ho.few; omega
  have d6 := h.cell (j := 6) rfl
  have f6 := h.free 6
  have HLt := hide h.lt
  have HLo := hide (Nat.le_trans h.ge (Nat.le_of_lt (row_lt h.head)))
  by_cases hc : c ≤ S.t
  · have HF : Hid (DtP w w lo d v S c (.returned (.int .i64 173))) := ⟨v, by rw [if_pos hc], by rw [if_pos hc]; exact h, Dst.refl _ _ _⟩
    clear h ho
    go_enter Tryz.func78, Tryz.ntmps78
    go_wp2
    go_ret
    exact HF.out
  · have hh := h.headed (j := 6) (u := .int .i64 c) (S' := { S with t := c }) (by simp [dbc]) rfl
    obtain ⟨vo, vcap, rfl, -⟩ := Ix.own_form h.row
    obtain ⟨w1, hw1⟩ : ∃ w1, w.setCell ⟨d, 6, none⟩ (.int .i64 c) = w1 := ⟨_, rfl⟩
    have HW := hide hw1
    have HT0 : Hid (TiS w w1 lo d (.slice vo S.L.length vcap) { S with t := c } c 0 (.slice none 0 0)) := by rw [← hw1]; exact ⟨hh.1, World.ownsRow_nil _ _ _ _, hh.2.kept⟩
    have HP : Hid (∀ W v', Db W lo d v' { S with L := tik S.L c, t := c } → Dst w W d (.slice vo S.L.length vcap) v' → DtP w W lo d (.slice vo S.L.length vcap) S c (.returned (.int .i64 0))) := fun W v' h1 h2 => ⟨v', by rw [if_neg hc], by rw [if_neg hc]; exact h1, h2⟩
    have HA : Hid (∀ (wr : World) j vq mq cq x, TiS w wr lo d (.slice vo S.L.length vcap) { S with t := c } c j (.slice vq mq cq) → S.L[j]? = some x → (x.u = 0 ∨ c < x.u) → mq ≤ 4096 → ∀ v' w', w'.ownsRow w.heap.size 78 3 v' (mq + 1) (bgs (tik (S.L.take j) c) ++ bgc x) → (wr.alloc (.cells (bgc x).toArray 78)).grownBy w' (Value.slice vq mq cq).ownBlock → TiS w w' lo d (.slice vo S.L.length vcap) { S with t := c } c (j + 1) v') := by
      intro wr j vq mq cq x ht hj hx hm v' w' ho hg
      have hmq := slice_n ht.row
      have k : Kept wr w' (fun i => (Value.slice vq mq cq).ownBlock = some i) := (Kept.new (grown_alloc wr _) _).trans (Kept.of hg (S := fun i => (Value.slice vq mq cq).ownBlock = some i) (fun j e _ => e)) (fun _ _ e => e)
      have hge : ∀ i, (Value.slice vq mq cq).ownBlock = some i → w.heap.size ≤ i := fun i hi => (Ix.own_block ht.row hi).1
      refine ⟨ht.db.far k (fun i hi e => ?_), ?_, ht.kp.trans k (fun i hi e => ?_)⟩
      · have := HLt.out i hi; have := hge i e; omega
      · show w'.ownsRow w.heap.size 78 3 v' (tik (S.L.take (j + 1)) c).length (bgs (tik (S.L.take (j + 1)) c))
        rw [tik_take hj, if_pos hx, List.length_append, ← hmq, ← bgs_snoc]
        exact ho
      · have := hge i e; omega
    have HEnd : Hid (∀ (wr : World) vq mq cq, TiS w wr lo d (.slice vo S.L.length vcap) { S with t := c } c S.L.length (.slice vq mq cq) → wr.cell? ⟨d, 4, none⟩ = some (.slice vo S.L.length vcap) ∧ wr.frozen? ⟨d, 4, none⟩ = false ∧ Db (wr.setCell ⟨d, 4, none⟩ (.slice vq mq cq)) lo d (.slice vq mq cq) { S with L := tik S.L c, t := c } ∧ Dst w (wr.setCell ⟨d, 4, none⟩ (.slice vq mq cq)) d (.slice vo S.L.length vcap) (.slice vq mq cq)) := by
      intro wr vq mq cq ht
      have hr := row_setCell ht.db.head 4 (.slice vq mq cq)
      have ks := kept_setCell wr d 4 (.slice vq mq cq)
      have hge : ∀ i, (Value.slice vq mq cq).ownBlock = some i → w.heap.size ≤ i := fun i hi => (Ix.own_block ht.row hi).1
      have hd := HLt.out d (.inl rfl)
      have hrow := ht.row
      simp only [List.take_length] at hrow
      refine ⟨ht.db.cell rfl, ht.db.free 4, ⟨hr, ?_, ht.db.ge⟩, ⟨ht.kp.trans ks (fun i _ e => .inl e), fun i hi => .inr (hge i hi)⟩⟩
      exact own_base (own_kept hrow ks (fun i hi e => by have := hge i hi; omega)) HLo.out
    have HB : Hid (∀ (wr : World) j q, TiS w wr lo d (.slice vo S.L.length vcap) { S with t := c } c j q → wr.cell? ⟨d, 4, none⟩ = some (.slice vo S.L.length vcap) ∧ ∀ i, i < S.L.length → ∃ g, vo = some ⟨g, 0, none⟩ ∧ wr.cell? ⟨g, i * 3, none⟩ = some (.int .u32 ((rd S.L i).i : Int)) ∧ wr.cell? ⟨g, i * 3 + 1, none⟩ = some (.int .i64 ((rd S.L i).s : Int)) ∧ wr.cell? ⟨g, i * 3 + 2, none⟩ = some (.int .i64 (rd S.L i).u)) := by
      intro wr j q ht
      refine ⟨ht.db.cell rfl, fun i hi => ?_⟩
      obtain ⟨ao, cap, e, hb⟩ := ht.db.bga.ex
      cases e
      exact hb i hi
    obtain ⟨i0, hi0, hz0, hz1, hz2⟩ := info_parts info108
    have HI0 := hide (And.intro hi0 (And.intro hz0 (And.intro hz1 hz2)))
    have HLs := hide hL
    clear h ho hh hw1 hi0 hz0 hz1 hz2
    go_enter Tryz.func78, Tryz.ntmps78
    go_wp2
    rw [HW.out]
    clear HW d6 f6
    go_loopg [5, 6] S.L.length (fun k q5 q6 wr => ∃ (j : Nat) (vq : Option Addr) (mq cq : Nat), k + j = S.L.length ∧ q6 = .int .i64 (j : Int) ∧ q5 = .slice vq mq cq ∧ Hid (TiS w wr lo d (.slice vo S.L.length vcap) { S with t := c } c j (.slice vq mq cq)))
    case atStart => exact ⟨0, none, 0, 0, by omega, rfl, rfl, HT0.out⟩
    case round =>
      clear HT0
      obtain ⟨j, vq, mq, cq, hkj, rfl, rfl, HT⟩ := hrel
      obtain ⟨d4, hb⟩ := HB.out _ _ _ HT.out
      have hmq : mq ≤ 4096 := by
        have h1 := slice_n HT.out.row
        have h2 := tik_le (S.L.take j) c
        have h3 := HLs.out
        simp only at h1
        rw [List.length_take] at h2
        omega
      by_cases hk : 0 < gk
      · have hj : j < S.L.length := by omega
        have h1 : (j : Int) < (S.L.length : Int) := by omega
        have h0 : (0 : Int) ≤ (j : Int) := by omega
        obtain ⟨g, rfl, e0, e1, e2⟩ := hb j hj
        have HJ := hide (rd_get hj)
        clear hb
        have hL' := HLs.out
        by_cases hx : (rd S.L j).u = 0 ∨ c < (rd S.L j).u
        · have HXs := hide hx
          have HRow := hide (And.intro (HT.out.row.alloc (.cells (bgc (rd S.L j)).toArray 78)) (And.intro (cell3_new wr (rd S.L j) 78) HT.out.kp.size))
          have HAp := hide (fun v' w' => HA.out wr j vq mq cq (rd S.L j) HT.out HJ.out HXs.out hmq v' w')
          obtain ⟨Lt, hLt⟩ : ∃ Lt, Lt = bgs (tik (S.L.take j) c) := ⟨_, rfl⟩
          have hlen : (tik (S.L.take j) c).length = mq := (slice_n HT.out.row).symm
          simp only [← hLt, hlen] at HRow HAp
          clear hLt hlen
          have HMq := hide hmq
          have HOc := hide (bgc_one (rd S.L j))
          unfold bgc at HRow HAp HOc
          generalize (rd S.L j).i = xi at *
          generalize (rd S.L j).s = xs at *
          generalize (rd S.L j).u = xu at *
          clear hx
          by_cases hu : xu = 0
          · subst hu
            go_wp2_with (at_builtin; refine wpList_append_own _ rfl (.tmp 47) (.tmp 55) 25 rfl w.heap.size 78 i0 (.agg #[.int .u32 0, .int .i64 0, .int .i64 0]) 3 24 Tryz.underlying25 HI0.out.1 HI0.out.2.1 HI0.out.2.2.1 HI0.out.2.2.2 rfl (by decide) (.slice vq mq cq) mq Lt rfl HRow.out.1 ⟨wr.heap.size, 0, none⟩ 1 1 [.int .u32 (xi : Int), .int .i64 (xs : Int), .int .i64 0] rfl rfl HRow.out.2.1 HOc.out (by have := HMq.out; unfold maxLen; omega) (by have := HMq.out; omega) (by have := HRow.out.2.2; simp; omega) ?_)
            intro v' w' hov hg hv
            clear hv
            obtain ⟨vo', vc', rfl, -⟩ := Ix.own_form hov
            have HN := hide (HAp.out _ _ hov hg)
            clear hov hg
            go_wp2
            go_roundg (gk - 1)
            case measure => omega
            case rel => exact ⟨j + 1, vo', mq + 1, vc', by omega, by go_num, rfl, HN.out⟩
          · have f1 : (xu == 0) = false := by simpa using hu
            have f2 : decide (xu = 0) = false := by simpa using hu
            have f3 : c < xu := by have := HXs.out; omega
            go_wp2_with (at_builtin; refine wpList_append_own _ rfl (.tmp 47) (.tmp 55) 25 rfl w.heap.size 78 i0 (.agg #[.int .u32 0, .int .i64 0, .int .i64 0]) 3 24 Tryz.underlying25 HI0.out.1 HI0.out.2.1 HI0.out.2.2.1 HI0.out.2.2.2 rfl (by decide) (.slice vq mq cq) mq Lt rfl HRow.out.1 ⟨wr.heap.size, 0, none⟩ 1 1 [.int .u32 (xi : Int), .int .i64 (xs : Int), .int .i64 xu] rfl rfl HRow.out.2.1 HOc.out (by have := HMq.out; unfold maxLen; omega) (by have := HMq.out; omega) (by have := HRow.out.2.2; simp; omega) ?_)
            intro v' w' hov hg hv
            clear hv
            obtain ⟨vo', vc', rfl, -⟩ := Ix.own_form hov
            have HN := hide (HAp.out _ _ hov hg)
            clear hov hg
            go_wp2
            go_roundg (gk - 1)
            case measure => omega
            case rel => exact ⟨j + 1, vo', mq + 1, vc', by omega, by go_num, rfl, HN.out⟩
        · have HN : Hid (TiS w wr lo d (.slice (some ⟨g, 0, none⟩) S.L.length vcap) { S with t := c } c (j + 1) (.slice vq mq cq)) := by
            refine ⟨HT.out.db, ?_, HT.out.kp⟩
            have := HT.out.row
            show wr.ownsRow w.heap.size 78 3 _ (tik (S.L.take (j + 1)) c).length (bgs (tik (S.L.take (j + 1)) c))
            rw [tik_take HJ.out, if_neg hx, List.append_nil]
            exact this
          generalize (rd S.L j).i = xi at *
          generalize (rd S.L j).s = xs at *
          generalize (rd S.L j).u = xu at *
          have f1 : (xu == 0) = false := by simp; omega
          have f2 : decide (xu = 0) = false := by simp; omega
          have f3 : ¬ c < xu := by omega
          clear hx
          go_wp2
          go_roundg (gk - 1)
          case measure => omega
          case rel => exact ⟨j + 1, vq, mq, cq, by omega, by go_num, rfl, HN.out⟩
      · have hj : j = S.L.length := by omega
        have HT' := HT.out
        rw [hj] at HT'
        obtain ⟨y4, z4, h5, h6⟩ := HEnd.out wr vq mq cq HT'
        have HF := hide (HP.out _ _ h5 h6)
        clear h5 h6 HT' hb HT d4
        subst hj
        go_wp2
        go_ret
        exact HF.out
end Go.Proofs.YtcbiloomnkbalaaGreatDoor
/- The document's records: time, may, Check, Size. -/
namespace Go.Proofs.YtcbiloomnkbalaaGreatDoor.Rk
open Go.RowKit
attribute [local go_sem ↓] Go.wp_at_zero Go.wp_at_succ
theorem time_any (n : Int) (w : World) : Calls Tryz.prog 115 #[.int .i64 n] w fun e w' => e = .returned (.bool (decide (1 ≤ n ∧ n ≤ mxC))) ∧ w' = w := by
  by_cases h1 : 1 ≤ n
  · by_cases h2 : n ≤ 1099511627776
    · rw [decide_eq_true (show 1 ≤ n ∧ n ≤ mxC from ⟨h1, h2⟩)]
      go_enter Tryz.func115, Tryz.ntmps115
      go_wp2
      go_ret
      exact ⟨rfl, rfl⟩
    · rw [decide_eq_false (show ¬ (1 ≤ n ∧ n ≤ mxC) from fun h => h2 h.2)]
      go_enter Tryz.func115, Tryz.ntmps115
      go_wp2
      go_ret
      exact ⟨rfl, rfl⟩
  · rw [decide_eq_false (show ¬ (1 ≤ n ∧ n ≤ mxC) from fun h => h1 h.1)]
    go_enter Tryz.func115, Tryz.ntmps115
    go_wp2
    go_ret
    exact ⟨rfl, rfl⟩
set_option maxHeartbeats 4000000 in
theorem rmay_1 (i s u c : Int) (hi : 0 ≤ i) (w : World) : Calls Tryz.prog 99 #[rcV ⟨1, i, s, u, c⟩] w fun e w' => e = .returned (.bool (decide (Rc.mk 1 i s u c).May)) ∧ w.grownBy w' none := by
  have HO := hi
  clear hi
  obtain ⟨res, hres⟩ : ∃ res, res = decide (Rc.mk 1 i s u c).May := ⟨_, rfl⟩
  rw [← hres]
  unfold rcV
  obtain ⟨c0, c1, c2, c3, c4⟩ := box5 (heap_alloc_new w (.cells [Value.int .i64 1, .int .u32 i, .int .i64 s, .int .i64 u, .int .i64 c].toArray 46))
  have HG := hide (World.grownBy_alloc w (.cells [Value.int .i64 1, .int .u32 i, .int .i64 s, .int .i64 u, .int .i64 c].toArray 46) none)
  by_cases hi : i = 0
  · subst hi
    obtain rfl : res = false := by rw [hres]; apply decide_eq_false; unfold Rc.May mxC; (try unfold mxC at *); dsimp only; omega
    clear HO hres
    go_enter Tryz.func99, Tryz.ntmps99
    go_wp2_with (go_at_call 115; refine (qt _).mono ?_; rintro e wt ⟨rfl, hwt⟩; obtain rfl := hwt.symm)
    all_goals
      go_ret
      exact ⟨rfl, HG.out⟩
  · have ei : (i == 0) = false := by simpa using hi
    have ni : (i != 0) = true := by simpa using hi
    have di : decide (i = 0) = false := by simpa using hi
    by_cases hs : 0 ≤ s
    · by_cases ht : s < 1024
      · skip
        have qt := time_any u
        by_cases hx : 1 ≤ u ∧ u ≤ mxC
        · rw [decide_eq_true hx] at qt
          by_cases hc : c = 0
          · subst hc
            obtain rfl : res = true := by rw [hres]; apply decide_eq_true; unfold Rc.May mxC; (try unfold mxC at *); dsimp only; omega
            clear HO hres
            go_enter Tryz.func99, Tryz.ntmps99
            go_wp2_with (go_at_call 115; refine (qt _).mono ?_; rintro e wt ⟨rfl, hwt⟩; obtain rfl := hwt.symm)
            all_goals
              go_ret
              exact ⟨rfl, HG.out⟩
          · have ec : (c == 0) = false := by simpa using hc
            have dc : decide (c = 0) = false := by simpa using hc
            obtain rfl : res = false := by rw [hres]; apply decide_eq_false; unfold Rc.May mxC; (try unfold mxC at *); dsimp only; omega
            clear HO hres
            go_enter Tryz.func99, Tryz.ntmps99
            go_wp2_with (go_at_call 115; refine (qt _).mono ?_; rintro e wt ⟨rfl, hwt⟩; obtain rfl := hwt.symm)
            all_goals
              go_ret
              exact ⟨rfl, HG.out⟩
        · rw [decide_eq_false hx] at qt
          obtain rfl : res = false := by rw [hres]; apply decide_eq_false; unfold Rc.May mxC; (try unfold mxC at *); dsimp only; omega
          clear HO hres
          go_enter Tryz.func99, Tryz.ntmps99
          go_wp2_with (go_at_call 115; refine (qt _).mono ?_; rintro e wt ⟨rfl, hwt⟩; obtain rfl := hwt.symm)
          all_goals
            go_ret
            exact ⟨rfl, HG.out⟩
      · skip
        obtain rfl : res = false := by rw [hres]; apply decide_eq_false; unfold Rc.May mxC; (try unfold mxC at *); dsimp only; omega
        clear HO hres
        go_enter Tryz.func99, Tryz.ntmps99
        go_wp2_with (go_at_call 115; refine (qt _).mono ?_; rintro e wt ⟨rfl, hwt⟩; obtain rfl := hwt.symm)
        all_goals
          go_ret
          exact ⟨rfl, HG.out⟩
    · skip
      obtain rfl : res = false := by rw [hres]; apply decide_eq_false; unfold Rc.May mxC; (try unfold mxC at *); dsimp only; omega
      clear HO hres
      go_enter Tryz.func99, Tryz.ntmps99
      go_wp2_with (go_at_call 115; refine (qt _).mono ?_; rintro e wt ⟨rfl, hwt⟩; obtain rfl := hwt.symm)
      all_goals
        go_ret
        exact ⟨rfl, HG.out⟩
set_option maxHeartbeats 4000000 in
theorem rmay_2 (i s u c : Int) (hi : 0 ≤ i) (w : World) : Calls Tryz.prog 99 #[rcV ⟨2, i, s, u, c⟩] w fun e w' => e = .returned (.bool (decide (Rc.mk 2 i s u c).May)) ∧ w.grownBy w' none := by
  have HO := hi
  clear hi
  obtain ⟨res, hres⟩ : ∃ res, res = decide (Rc.mk 2 i s u c).May := ⟨_, rfl⟩
  rw [← hres]
  unfold rcV
  obtain ⟨c0, c1, c2, c3, c4⟩ := box5 (heap_alloc_new w (.cells [Value.int .i64 2, .int .u32 i, .int .i64 s, .int .i64 u, .int .i64 c].toArray 46))
  have HG := hide (World.grownBy_alloc w (.cells [Value.int .i64 2, .int .u32 i, .int .i64 s, .int .i64 u, .int .i64 c].toArray 46) none)
  by_cases hi : i = 0
  · subst hi
    obtain rfl : res = false := by rw [hres]; apply decide_eq_false; unfold Rc.May mxC; (try unfold mxC at *); dsimp only; omega
    clear HO hres
    go_enter Tryz.func99, Tryz.ntmps99
    go_wp2_with (go_at_call 115; refine (qt _).mono ?_; rintro e wt ⟨rfl, hwt⟩; obtain rfl := hwt.symm)
    all_goals
      go_ret
      exact ⟨rfl, HG.out⟩
  · have ei : (i == 0) = false := by simpa using hi
    have ni : (i != 0) = true := by simpa using hi
    have di : decide (i = 0) = false := by simpa using hi
    by_cases hs : s = 0
    · subst hs
      by_cases hu : u = 0
      · subst hu
        by_cases hc : c = 0
        · subst hc
          obtain rfl : res = true := by rw [hres]; apply decide_eq_true; unfold Rc.May mxC; (try unfold mxC at *); dsimp only; omega
          clear HO hres
          go_enter Tryz.func99, Tryz.ntmps99
          go_wp2_with (go_at_call 115; refine (qt _).mono ?_; rintro e wt ⟨rfl, hwt⟩; obtain rfl := hwt.symm)
          all_goals
            go_ret
            exact ⟨rfl, HG.out⟩
        · have ec : (c == 0) = false := by simpa using hc
          have dc : decide (c = 0) = false := by simpa using hc
          obtain rfl : res = false := by rw [hres]; apply decide_eq_false; unfold Rc.May mxC; (try unfold mxC at *); dsimp only; omega
          clear HO hres
          go_enter Tryz.func99, Tryz.ntmps99
          go_wp2_with (go_at_call 115; refine (qt _).mono ?_; rintro e wt ⟨rfl, hwt⟩; obtain rfl := hwt.symm)
          all_goals
            go_ret
            exact ⟨rfl, HG.out⟩
      · have eu : (u == 0) = false := by simpa using hu
        have du : decide (u = 0) = false := by simpa using hu
        obtain rfl : res = false := by rw [hres]; apply decide_eq_false; unfold Rc.May mxC; (try unfold mxC at *); dsimp only; omega
        clear HO hres
        go_enter Tryz.func99, Tryz.ntmps99
        go_wp2_with (go_at_call 115; refine (qt _).mono ?_; rintro e wt ⟨rfl, hwt⟩; obtain rfl := hwt.symm)
        all_goals
          go_ret
          exact ⟨rfl, HG.out⟩
    · have es : (s == 0) = false := by simpa using hs
      have ds : decide (s = 0) = false := by simpa using hs
      obtain rfl : res = false := by rw [hres]; apply decide_eq_false; unfold Rc.May mxC; (try unfold mxC at *); dsimp only; omega
      clear HO hres
      go_enter Tryz.func99, Tryz.ntmps99
      go_wp2_with (go_at_call 115; refine (qt _).mono ?_; rintro e wt ⟨rfl, hwt⟩; obtain rfl := hwt.symm)
      all_goals
        go_ret
        exact ⟨rfl, HG.out⟩
set_option maxHeartbeats 4000000 in
theorem rmay_3 (i s u c : Int) (hi : 0 ≤ i) (w : World) : Calls Tryz.prog 99 #[rcV ⟨3, i, s, u, c⟩] w fun e w' => e = .returned (.bool (decide (Rc.mk 3 i s u c).May)) ∧ w.grownBy w' none := by
  have HO := hi
  clear hi
  obtain ⟨res, hres⟩ : ∃ res, res = decide (Rc.mk 3 i s u c).May := ⟨_, rfl⟩
  rw [← hres]
  unfold rcV
  obtain ⟨c0, c1, c2, c3, c4⟩ := box5 (heap_alloc_new w (.cells [Value.int .i64 3, .int .u32 i, .int .i64 s, .int .i64 u, .int .i64 c].toArray 46))
  have HG := hide (World.grownBy_alloc w (.cells [Value.int .i64 3, .int .u32 i, .int .i64 s, .int .i64 u, .int .i64 c].toArray 46) none)
  by_cases hi : i = 0
  · subst hi
    obtain rfl : res = false := by rw [hres]; apply decide_eq_false; unfold Rc.May mxC; (try unfold mxC at *); dsimp only; omega
    clear HO hres
    go_enter Tryz.func99, Tryz.ntmps99
    go_wp2_with (go_at_call 115; refine (qt _).mono ?_; rintro e wt ⟨rfl, hwt⟩; obtain rfl := hwt.symm)
    all_goals
      go_ret
      exact ⟨rfl, HG.out⟩
  · have ei : (i == 0) = false := by simpa using hi
    have ni : (i != 0) = true := by simpa using hi
    have di : decide (i = 0) = false := by simpa using hi
    by_cases hs : s = 0
    · subst hs
      by_cases hu : u = 0
      · subst hu
        by_cases hc : c = 0
        · subst hc
          obtain rfl : res = true := by rw [hres]; apply decide_eq_true; unfold Rc.May mxC; (try unfold mxC at *); dsimp only; omega
          clear HO hres
          go_enter Tryz.func99, Tryz.ntmps99
          go_wp2_with (go_at_call 115; refine (qt _).mono ?_; rintro e wt ⟨rfl, hwt⟩; obtain rfl := hwt.symm)
          all_goals
            go_ret
            exact ⟨rfl, HG.out⟩
        · have ec : (c == 0) = false := by simpa using hc
          have dc : decide (c = 0) = false := by simpa using hc
          obtain rfl : res = false := by rw [hres]; apply decide_eq_false; unfold Rc.May mxC; (try unfold mxC at *); dsimp only; omega
          clear HO hres
          go_enter Tryz.func99, Tryz.ntmps99
          go_wp2_with (go_at_call 115; refine (qt _).mono ?_; rintro e wt ⟨rfl, hwt⟩; obtain rfl := hwt.symm)
          all_goals
            go_ret
            exact ⟨rfl, HG.out⟩
      · have eu : (u == 0) = false := by simpa using hu
        have du : decide (u = 0) = false := by simpa using hu
        obtain rfl : res = false := by rw [hres]; apply decide_eq_false; unfold Rc.May mxC; (try unfold mxC at *); dsimp only; omega
        clear HO hres
        go_enter Tryz.func99, Tryz.ntmps99
        go_wp2_with (go_at_call 115; refine (qt _).mono ?_; rintro e wt ⟨rfl, hwt⟩; obtain rfl := hwt.symm)
        all_goals
          go_ret
          exact ⟨rfl, HG.out⟩
    · have es : (s == 0) = false := by simpa using hs
      have ds : decide (s = 0) = false := by simpa using hs
      obtain rfl : res = false := by rw [hres]; apply decide_eq_false; unfold Rc.May mxC; (try unfold mxC at *); dsimp only; omega
      clear HO hres
      go_enter Tryz.func99, Tryz.ntmps99
      go_wp2_with (go_at_call 115; refine (qt _).mono ?_; rintro e wt ⟨rfl, hwt⟩; obtain rfl := hwt.symm)
      all_goals
        go_ret
        exact ⟨rfl, HG.out⟩
set_option maxHeartbeats 4000000 in
theorem rmay_4 (i s u c : Int) (hi : 0 ≤ i) (w : World) : Calls Tryz.prog 99 #[rcV ⟨4, i, s, u, c⟩] w fun e w' => e = .returned (.bool (decide (Rc.mk 4 i s u c).May)) ∧ w.grownBy w' none := by
  have HO := hi
  clear hi
  obtain ⟨res, hres⟩ : ∃ res, res = decide (Rc.mk 4 i s u c).May := ⟨_, rfl⟩
  rw [← hres]
  unfold rcV
  obtain ⟨c0, c1, c2, c3, c4⟩ := box5 (heap_alloc_new w (.cells [Value.int .i64 4, .int .u32 i, .int .i64 s, .int .i64 u, .int .i64 c].toArray 46))
  have HG := hide (World.grownBy_alloc w (.cells [Value.int .i64 4, .int .u32 i, .int .i64 s, .int .i64 u, .int .i64 c].toArray 46) none)
  by_cases hi : i = 0
  · subst hi
    obtain rfl : res = false := by rw [hres]; apply decide_eq_false; unfold Rc.May mxC; (try unfold mxC at *); dsimp only; omega
    clear HO hres
    go_enter Tryz.func99, Tryz.ntmps99
    go_wp2_with (go_at_call 115; refine (qt _).mono ?_; rintro e wt ⟨rfl, hwt⟩; obtain rfl := hwt.symm)
    all_goals
      go_ret
      exact ⟨rfl, HG.out⟩
  · have ei : (i == 0) = false := by simpa using hi
    have ni : (i != 0) = true := by simpa using hi
    have di : decide (i = 0) = false := by simpa using hi
    by_cases hs : 0 ≤ s
    · by_cases ht : s < 1024
      · skip
        by_cases hu : u = 0
        · subst hu
          by_cases hc : c = 0
          · subst hc
            obtain rfl : res = true := by rw [hres]; apply decide_eq_true; unfold Rc.May mxC; (try unfold mxC at *); dsimp only; omega
            clear HO hres
            go_enter Tryz.func99, Tryz.ntmps99
            go_wp2_with (go_at_call 115; refine (qt _).mono ?_; rintro e wt ⟨rfl, hwt⟩; obtain rfl := hwt.symm)
            all_goals
              go_ret
              exact ⟨rfl, HG.out⟩
          · have ec : (c == 0) = false := by simpa using hc
            have dc : decide (c = 0) = false := by simpa using hc
            obtain rfl : res = false := by rw [hres]; apply decide_eq_false; unfold Rc.May mxC; (try unfold mxC at *); dsimp only; omega
            clear HO hres
            go_enter Tryz.func99, Tryz.ntmps99
            go_wp2_with (go_at_call 115; refine (qt _).mono ?_; rintro e wt ⟨rfl, hwt⟩; obtain rfl := hwt.symm)
            all_goals
              go_ret
              exact ⟨rfl, HG.out⟩
        · have eu : (u == 0) = false := by simpa using hu
          have du : decide (u = 0) = false := by simpa using hu
          obtain rfl : res = false := by rw [hres]; apply decide_eq_false; unfold Rc.May mxC; (try unfold mxC at *); dsimp only; omega
          clear HO hres
          go_enter Tryz.func99, Tryz.ntmps99
          go_wp2_with (go_at_call 115; refine (qt _).mono ?_; rintro e wt ⟨rfl, hwt⟩; obtain rfl := hwt.symm)
          all_goals
            go_ret
            exact ⟨rfl, HG.out⟩
      · skip
        obtain rfl : res = false := by rw [hres]; apply decide_eq_false; unfold Rc.May mxC; (try unfold mxC at *); dsimp only; omega
        clear HO hres
        go_enter Tryz.func99, Tryz.ntmps99
        go_wp2_with (go_at_call 115; refine (qt _).mono ?_; rintro e wt ⟨rfl, hwt⟩; obtain rfl := hwt.symm)
        all_goals
          go_ret
          exact ⟨rfl, HG.out⟩
    · skip
      obtain rfl : res = false := by rw [hres]; apply decide_eq_false; unfold Rc.May mxC; (try unfold mxC at *); dsimp only; omega
      clear HO hres
      go_enter Tryz.func99, Tryz.ntmps99
      go_wp2_with (go_at_call 115; refine (qt _).mono ?_; rintro e wt ⟨rfl, hwt⟩; obtain rfl := hwt.symm)
      all_goals
        go_ret
        exact ⟨rfl, HG.out⟩
set_option maxHeartbeats 4000000 in
theorem rmay_5 (i s u c : Int) (hi : 0 ≤ i) (w : World) : Calls Tryz.prog 99 #[rcV ⟨5, i, s, u, c⟩] w fun e w' => e = .returned (.bool (decide (Rc.mk 5 i s u c).May)) ∧ w.grownBy w' none := by
  have HO := hi
  clear hi
  obtain ⟨res, hres⟩ : ∃ res, res = decide (Rc.mk 5 i s u c).May := ⟨_, rfl⟩
  rw [← hres]
  unfold rcV
  obtain ⟨c0, c1, c2, c3, c4⟩ := box5 (heap_alloc_new w (.cells [Value.int .i64 5, .int .u32 i, .int .i64 s, .int .i64 u, .int .i64 c].toArray 46))
  have HG := hide (World.grownBy_alloc w (.cells [Value.int .i64 5, .int .u32 i, .int .i64 s, .int .i64 u, .int .i64 c].toArray 46) none)
  by_cases hi : i = 0
  · subst hi
    by_cases hs : s = 0
    · subst hs
      by_cases hu : u = 0
      · subst hu
        have qt := time_any c
        by_cases hx : 1 ≤ c ∧ c ≤ mxC
        · rw [decide_eq_true hx] at qt
          obtain rfl : res = true := by rw [hres]; apply decide_eq_true; unfold Rc.May mxC; (try unfold mxC at *); dsimp only; omega
          clear HO hres
          go_enter Tryz.func99, Tryz.ntmps99
          go_wp2_with (go_at_call 115; refine (qt _).mono ?_; rintro e wt ⟨rfl, hwt⟩; obtain rfl := hwt.symm)
          all_goals
            go_ret
            exact ⟨rfl, HG.out⟩
        · rw [decide_eq_false hx] at qt
          obtain rfl : res = false := by rw [hres]; apply decide_eq_false; unfold Rc.May mxC; (try unfold mxC at *); dsimp only; omega
          clear HO hres
          go_enter Tryz.func99, Tryz.ntmps99
          go_wp2_with (go_at_call 115; refine (qt _).mono ?_; rintro e wt ⟨rfl, hwt⟩; obtain rfl := hwt.symm)
          all_goals
            go_ret
            exact ⟨rfl, HG.out⟩
      · have eu : (u == 0) = false := by simpa using hu
        have du : decide (u = 0) = false := by simpa using hu
        obtain rfl : res = false := by rw [hres]; apply decide_eq_false; unfold Rc.May mxC; (try unfold mxC at *); dsimp only; omega
        clear HO hres
        go_enter Tryz.func99, Tryz.ntmps99
        go_wp2_with (go_at_call 115; refine (qt _).mono ?_; rintro e wt ⟨rfl, hwt⟩; obtain rfl := hwt.symm)
        all_goals
          go_ret
          exact ⟨rfl, HG.out⟩
    · have es : (s == 0) = false := by simpa using hs
      have ds : decide (s = 0) = false := by simpa using hs
      obtain rfl : res = false := by rw [hres]; apply decide_eq_false; unfold Rc.May mxC; (try unfold mxC at *); dsimp only; omega
      clear HO hres
      go_enter Tryz.func99, Tryz.ntmps99
      go_wp2_with (go_at_call 115; refine (qt _).mono ?_; rintro e wt ⟨rfl, hwt⟩; obtain rfl := hwt.symm)
      all_goals
        go_ret
        exact ⟨rfl, HG.out⟩
  · have ei : (i == 0) = false := by simpa using hi
    have di : decide (i = 0) = false := by simpa using hi
    obtain rfl : res = false := by rw [hres]; apply decide_eq_false; unfold Rc.May mxC; (try unfold mxC at *); dsimp only; omega
    clear HO hres
    go_enter Tryz.func99, Tryz.ntmps99
    go_wp2_with (go_at_call 115; refine (qt _).mono ?_; rintro e wt ⟨rfl, hwt⟩; obtain rfl := hwt.symm)
    all_goals
      go_ret
      exact ⟨rfl, HG.out⟩
theorem rmay_any (r : Rc) (ho : r.Ok) (w : World) : Calls Tryz.prog 99 #[rcV r] w fun e w' => e = .returned (.bool (decide r.May)) ∧ w.grownBy w' none := by
  have hi := ho.i0
  obtain ⟨k, i, s, u, c⟩ := r
  dsimp only at hi
  by_cases hk : 1 ≤ k ∧ k ≤ 5
  · have hk5 : k = 1 ∨ k = 2 ∨ k = 3 ∨ k = 4 ∨ k = 5 := by omega
    rcases hk5 with rfl | rfl | rfl | rfl | rfl
    · exact rmay_1 i s u c hi w
    · exact rmay_2 i s u c hi w
    · exact rmay_3 i s u c hi w
    · exact rmay_4 i s u c hi w
    · exact rmay_5 i s u c hi w
  · rw [decide_eq_false (may_not_kind (r := ⟨k, i, s, u, c⟩) hk)]
    have e1 : (k == 1) = false := by simp; omega
    have e2 : (k == 2) = false := by simp; omega
    have e3 : (k == 3) = false := by simp; omega
    have e4 : (k == 4) = false := by simp; omega
    have e5 : (k == 5) = false := by simp; omega
    have d1 : decide (k = 1) = false := by simp; omega
    have d2 : decide (k = 2) = false := by simp; omega
    have d3 : decide (k = 3) = false := by simp; omega
    have d4 : decide (k = 4) = false := by simp; omega
    have d5 : decide (k = 5) = false := by simp; omega
    clear hk hi ho
    unfold rcV
    obtain ⟨c0, c1, c2, c3, c4⟩ := box5 (heap_alloc_new w (.cells [Value.int .i64 k, .int .u32 i, .int .i64 s, .int .i64 u, .int .i64 c].toArray 46))
    have HG := hide (World.grownBy_alloc w (.cells [Value.int .i64 k, .int .u32 i, .int .i64 s, .int .i64 u, .int .i64 c].toArray 46) none)
    go_enter Tryz.func99, Tryz.ntmps99
    go_wp2
    all_goals
      go_ret
      exact ⟨rfl, HG.out⟩
theorem check_ref (r : Rc) (ho : r.Ok) (w : World) : Calls Tryz.prog 76 #[rcV r] w fun e w' => e = .returned (.int .i64 (chk r)) ∧ w.grownBy w' none := by
  have g1 := World.grownBy_alloc w (.cells (rcC r).toArray 46) none
  have b1 := heap_alloc_new w (.cells (rcC r).toArray 46)
  have q := rmay_any r ho (w.alloc (.cells (rcC r).toArray 46))
  obtain ⟨c0, c1, c2, c3, c4⟩ := box5 b1
  have G := hide g1
  clear g1 b1 ho
  unfold rcC rcV at *
  by_cases hm : r.May
  · rw [decide_eq_true hm] at q
    rw [show chk r = 0 from if_pos hm]
    clear hm
    go_enter Tryz.func76, Tryz.ntmps76
    go_wp2_with fail
    refine q.mono ?_
    rintro e w1 ⟨rfl, hg⟩
    have HG := hide (grown_trans G.out hg)
    clear hg q
    go_wp2
    go_ret
    exact ⟨rfl, HG.out⟩
  · rw [decide_eq_false hm] at q
    rw [show chk r = 160 from if_neg hm]
    clear hm
    go_enter Tryz.func76, Tryz.ntmps76
    go_wp2_with fail
    refine q.mono ?_
    rintro e w1 ⟨rfl, hg⟩
    have HG := hide (grown_trans G.out hg)
    clear hg q
    go_wp2
    go_ret
    exact ⟨rfl, HG.out⟩
end Go.Proofs.YtcbiloomnkbalaaGreatDoor.Rk
