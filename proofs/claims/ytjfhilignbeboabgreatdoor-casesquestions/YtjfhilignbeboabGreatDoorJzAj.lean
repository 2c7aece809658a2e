/- Texts joined: Db2, RkRg. -/
import Derived.Laws.BitsAllLaws
import Derived.WalkKit
import Derived.WalkSpells
import Derived.WalkLawsBesides
import Derived.Laws.CopyOwn
import Derived.Deep.MidRow
import Derived.Test.YtjfhilignbeboabGreatDoorJzAi
import Derived.Test.YtjfhilignbeboabGreatDoorJzAb
namespace Go.Proofs.YtjfhilignbeboabGreatDoor
/- The document's book: tick. -/
open Go.RowKit
attribute [local go_sem ↓] Go.wp_at_zero Go.wp_at_succ
attribute [local go_sem] Oper.semAt_some
theorem info108 : (Tryz.prog.info? 34).map (fun i => (i.zero, i.size, i.bytes)) = some (some (.agg #[.int .u32 0, .int .i64 0, .int .i64 0]), 3, 24) := by kernel_rfl
/-- What a tick leaves. -/
def DtP (w w' : World) (lo d : Nat) (v : Value) (S : Sb) (c : Int) (e : Ending) : Prop := ∃ v', e = .returned (.int .i64 (if c ≤ S.t then 173 else 0)) ∧ Db w' lo d v' (if c ≤ S.t then S else { S with L := tik S.L c, t := c }) ∧ Dst w w' d v v'
/-- Inside tick, behind j bookings. -/
structure TiS (w wr : World) (lo d : Nat) (v : Value) (S : Sb) (c : Int) (j : Nat) (q : Value) : Prop where
  db : Db wr lo d v S
  row : wr.ownsRow w.heap.size 34 3 q (tik (S.L.take j) c).length (bgs (tik (S.L.take j) c))
  kp : Kept w wr (dbo d v)
theorem slice_n {w : World} {b m cap : Nat} {e : TypeId} {size n : Nat} {vo : Option Addr} {xs : List Value} (h : w.ownsRow b e size (.slice vo m cap) n xs) : m = n := by
  obtain ⟨_, _, e, -⟩ := Ix.own_form h
  injection e
theorem tik_le (L : List Bg) (c : Int) : (tik L c).length ≤ L.length := List.length_filter_le _ _
theorem own_kept {w w' : World} {b : Nat} {e : TypeId} {size n : Nat} {v : Value} {xs : List Value} {X : Nat → Prop} (h : w.ownsRow b e size v n xs) (k : Kept w w' X) (hX : ∀ i, v.ownBlock = some i → ¬ X i) : w'.ownsRow b e size v n xs :=
  Ix.row_keep h (fun q hq => by obtain ⟨_, cur, hc⟩ := Ix.own_block h hq; exact k.block q (row_lt hc) (hX q hq))
set_option maxRecDepth 20000 in
set_option maxHeartbeats 16000000 in
theorem dtick_any {w : World} {lo d : Nat} {v : Value} {S : Sb} (h : Db w lo d v S) (ho : S.Ok) (c : Int) : Calls Tryz.prog 29 #[.pointer (some ⟨d, 0, none⟩), .int .i64 c] w fun e w' => DtP w w' lo d v S c e := by
  have hL : S.L.length ≤ 4096 := by have := ho.b1; have := ho.few; omega
  have d6 := h.cell (j := 6) rfl
  have f6 := h.free 6
  have HLt := hide h.lt
  have HLo := hide (Nat.le_trans h.ge (Nat.le_of_lt (row_lt h.head)))
  by_cases hc : c ≤ S.t
  · have HF : Hid (DtP w w lo d v S c (.returned (.int .i64 173))) := ⟨v, by rw [if_pos hc], by rw [if_pos hc]; exact h, Dst.refl _ _ _⟩
    clear h ho
    go_enter Tryz.func29, Tryz.ntmps29
    go_wp2
    go_ret
    exact HF.out
  · have hh := h.headed (j := 6) (u := .int .i64 c) (S' := { S with t := c }) (by simp [dbc]) rfl
    obtain ⟨vo, vcap, rfl, -⟩ := Ix.own_form h.row
    obtain ⟨w1, hw1⟩ : ∃ w1, w.setCell ⟨d, 6, none⟩ (.int .i64 c) = w1 := ⟨_, rfl⟩
    have HW := hide hw1
    have HT0 : Hid (TiS w w1 lo d (.slice vo S.L.length vcap) { S with t := c } c 0 (.slice none 0 0)) := by rw [← hw1]; exact ⟨hh.1, World.ownsRow_nil _ _ _ _, hh.2.kept⟩
    have HP : Hid (∀ W v', Db W lo d v' { S with L := tik S.L c, t := c } → Dst w W d (.slice vo S.L.length vcap) v' → DtP w W lo d (.slice vo S.L.length vcap) S c (.returned (.int .i64 0))) := fun W v' h1 h2 => ⟨v', by rw [if_neg hc], by rw [if_neg hc]; exact h1, h2⟩
    have HA : Hid (∀ (wr : World) j vq mq cq x, TiS w wr lo d (.slice vo S.L.length vcap) { S with t := c } c j (.slice vq mq cq) → S.L[j]? = some x → (x.u = 0 ∨ c < x.u) → mq ≤ 4096 → ∀ v' w', w'.ownsRow w.heap.size 34 3 v' (mq + 1) (bgs (tik (S.L.take j) c) ++ bgc x) → (wr.alloc (.cells (bgc x).toArray 34)).grownBy w' (Value.slice vq mq cq).ownBlock → TiS w w' lo d (.slice vo S.L.length vcap) { S with t := c } c (j + 1) v') := by
      intro wr j vq mq cq x ht hj hx hm v' w' ho hg
      have hmq := slice_n ht.row
      have k : Kept wr w' (fun i => (Value.slice vq mq cq).ownBlock = some i) := (Kept.new (grown_alloc wr _) _).trans (Kept.of hg (S := fun i => (Value.slice vq mq cq).ownBlock = some i) (fun j e _ => e)) (fun _ _ e => e)
      have hge : ∀ i, (Value.slice vq mq cq).ownBlock = some i → w.heap.size ≤ i := fun i hi => (Ix.own_block ht.row hi).1
      refine ⟨ht.db.far k (fun i hi e => ?_), ?_, ht.kp.trans k (fun i hi e => ?_)⟩
      · have := HLt.out i hi; have := hge i e; omega
      · show w'.ownsRow w.heap.size 34 3 v' (tik (S.L.take (j + 1)) c).length (bgs (tik (S.L.take (j + 1)) c))
        rw [tik_take hj, if_pos hx, List.length_append, ← hmq, ← bgs_snoc]
        exact ho
      · have := hge i e; omega
    have HEnd : Hid (∀ (wr : World) vq mq cq, TiS w wr lo d (.slice vo S.L.length vcap) { S with t := c } c S.L.length (.slice vq mq cq) → wr.cell? ⟨d, 4, none⟩ = some (.slice vo S.L.length vcap) ∧ wr.frozen? ⟨d, 4, none⟩ = false ∧ Db (wr.setCell ⟨d, 4, none⟩ (.slice vq mq cq)) lo d (.slice vq mq cq) { S with L := tik S.L c, t := c } ∧ Dst w (wr.setCell ⟨d, 4, none⟩ (.slice vq mq cq)) d (.slice vo S.L.length vcap) (.slice vq mq cq)) := by
      intro wr vq mq cq ht
      have hr := row_setCell ht.db.head 4 (.slice vq mq cq)
      have ks := kept_setCell wr d 4 (.slice vq mq cq)
      have hge : ∀ i, (Value.slice vq mq cq).ownBlock = some i → w.heap.size ≤ i := fun i hi => (Ix.own_block ht.row hi).1
      have hd := HLt.out d (.inl rfl)
      have hrow := ht.row
      simp only [List.take_length] at hrow
      refine ⟨ht.db.cell rfl, ht.db.free 4, ⟨hr, ?_, ht.db.ge⟩, ⟨ht.kp.trans ks (fun i _ e => .inl e), fun i hi => .inr (hge i hi)⟩⟩
      exact own_base (own_kept hrow ks (fun i hi e => by have := hge i hi; omega)) HLo.out
    have HB : Hid (∀ (wr : World) j q, TiS w wr lo d (.slice vo S.L.length vcap) { S with t := c } c j q → wr.cell? ⟨d, 4, none⟩ = some (.slice vo S.L.length vcap) ∧ ∀ i, i < S.L.length → ∃ g, vo = some ⟨g, 0, none⟩ ∧ wr.cell? ⟨g, i * 3, none⟩ = some (.int .u32 ((rd S.L i).i : Int)) ∧ wr.cell? ⟨g, i * 3 + 1, none⟩ = some (.int .i64 ((rd S.L i).s : Int)) ∧ wr.cell? ⟨g, i * 3 + 2, none⟩ = some (.int .i64 (rd S.L i).u)) := by
      intro wr j q ht
      refine ⟨ht.db.cell rfl, fun i hi => ?_⟩
      obtain ⟨ao, cap, e, hb⟩ := ht.db.bga.ex
      cases e
      exact hb i hi
    obtain ⟨i0, hi0, hz0, hz1, hz2⟩ := info_parts info108
    have HI0 := hide (And.intro hi0 (And.intro hz0 (And.intro hz1 hz2)))
    have HLs := hide hL
    clear h ho hh hw1 hi0 hz0 hz1 hz2
    go_enter Tryz.func29, Tryz.ntmps29
    go_wp2
    rw [HW.out]
    clear HW d6 f6
    go_loopg [5, 6] S.L.length (fun k q5 q6 wr => ∃ (j : Nat) (vq : Option Addr) (mq cq : Nat), k + j = S.L.length ∧ q6 = .int .i64 (j : Int) ∧ q5 = .slice vq mq cq ∧ Hid (TiS w wr lo d (.slice vo S.L.length vcap) { S with t := c } c j (.slice vq mq cq)))
    case atStart => exact ⟨0, none, 0, 0, by omega, rfl, rfl, HT0.out⟩
    case round =>
      clear HT0
      obtain ⟨j, vq, mq, cq, hkj, rfl, rfl, HT⟩ := hrel
      obtain ⟨d4, hb⟩ := HB.out _ _ _ HT.out
      have hmq : mq ≤ 4096 := by
        have h1 := slice_n HT.out.row
        have h2 := tik_le (S.L.take j) c
        have h3 := HLs.out
        simp only at h1
        rw [List.length_take] at h2
        omega
      by_cases hk : 0 < gk
      · have hj : j < S.L.length := by omega
        have h1 : (j : Int) < (S.L.length : Int) := by omega
        have h0 : (0 : Int) ≤ (j : Int) := by omega
        obtain ⟨g, rfl, e0, e1, e2⟩ := hb j hj
        have HJ := hide (rd_get hj)
        clear hb
        have hL' := HLs.out
        by_cases hx : (rd S.L j).u = 0 ∨ c < (rd S.L j).u
        · have HXs := hide hx
          have HRow := hide (And.intro (HT.out.row.alloc (.cells (bgc (rd S.L j)).toArray 34)) (And.intro (cell3_new wr (rd S.L j) 34) HT.out.kp.size))
          have HAp := hide (fun v' w' => HA.out wr j vq mq cq (rd S.L j) HT.out HJ.out HXs.out hmq v' w')
          obtain ⟨Lt, hLt⟩ : ∃ Lt, Lt = bgs (tik (S.L.take j) c) := ⟨_, rfl⟩
          have hlen : (tik (S.L.take j) c).length = mq := (slice_n HT.out.row).symm
          simp only [← hLt, hlen] at HRow HAp
          clear hLt hlen
          have HMq := hide hmq
          have HOc := hide (bgc_one (rd S.L j))
          unfold bgc at HRow HAp HOc
          generalize (rd S.L j).i = xi at *
          generalize (rd S.L j).s = xs at *
          generalize (rd S.L j).u = xu at *
          clear hx
          by_cases hu : xu = 0
          · subst hu
            go_wp2_with (at_builtin; refine wpList_append_own _ rfl (.tmp 47) (.tmp 55) 57 rfl w.heap.size 34 i0 (.agg #[.int .u32 0, .int .i64 0, .int .i64 0]) 3 24 Tryz.underlying57 HI0.out.1 HI0.out.2.1 HI0.out.2.2.1 HI0.out.2.2.2 rfl (by decide) (.slice vq mq cq) mq Lt rfl HRow.out.1 ⟨wr.heap.size, 0, none⟩ 1 1 [.int .u32 (xi : Int), .int .i64 (xs : Int), .int .i64 0] rfl rfl HRow.out.2.1 HOc.out (by have := HMq.out; unfold maxLen; omega) (by have := HMq.out; omega) (by have := HRow.out.2.2; simp; omega) ?_)
            intro v' w' hov hg hv
            clear hv
            obtain ⟨vo', vc', rfl, -⟩ := Ix.own_form hov
            have HN := hide (HAp.out _ _ hov hg)
            clear hov hg
            go_wp2
            go_roundg (gk - 1)
            case measure => omega
            case rel => exact ⟨j + 1, vo', mq + 1, vc', by omega, by go_num, rfl, HN.out⟩
          · have f1 : (xu == 0) = false := by simpa using hu
            have f2 : decide (xu = 0) = false := by simpa using hu
            have f3 : c < xu := by have := HXs.out; omega
            go_wp2_with (at_builtin; refine wpList_append_own _ rfl (.tmp 47) (.tmp 55) 57 rfl w.heap.size 34 i0 (.agg #[.int .u32 0, .int .i64 0, .int .i64 0]) 3 24 Tryz.underlying57 HI0.out.1 HI0.out.2.1 HI0.out.2.2.1 HI0.out.2.2.2 rfl (by decide) (.slice vq mq cq) mq Lt rfl HRow.out.1 ⟨wr.heap.size, 0, none⟩ 1 1 [.int .u32 (xi : Int), .int .i64 (xs : Int), .int .i64 xu] rfl rfl HRow.out.2.1 HOc.out (by have := HMq.out; unfold maxLen; omega) (by have := HMq.out; omega) (by have := HRow.out.2.2; simp; omega) ?_)
            intro v' w' hov hg hv
            clear hv
            obtain ⟨vo', vc', rfl, -⟩ := Ix.own_form hov
            have HN := hide (HAp.out _ _ hov hg)
            clear hov hg
            go_wp2
            go_roundg (gk - 1)
            case measure => omega
            case rel => exact ⟨j + 1, vo', mq + 1, vc', by omega, by go_num, rfl, HN.out⟩
        · have HN : Hid (TiS w wr lo d (.slice (some ⟨g, 0, none⟩) S.L.length vcap) { S with t := c } c (j + 1) (.slice vq mq cq)) := by
            refine ⟨HT.out.db, ?_, HT.out.kp⟩
            have := HT.out.row
            show wr.ownsRow w.heap.size 34 3 _ (tik (S.L.take (j + 1)) c).length (bgs (tik (S.L.take (j + 1)) c))
            rw [tik_take HJ.out, if_neg hx, List.append_nil]
            exact this
          generalize (rd S.L j).i = xi at *
          generalize (rd S.L j).s = xs at *
          generalize (rd S.L j).u = xu at *
          have f1 : (xu == 0) = false := by simp; omega
          have f2 : decide (xu = 0) = false := by simp; omega
          have f3 : ¬ c < xu := by omega
          clear hx
          go_wp2
          go_roundg (gk - 1)
          case measure => omega
          case rel => exact ⟨j + 1, vq, mq, cq, by omega, by go_num, rfl, HN.out⟩
      · have hj : j = S.L.length := by omega
        have HT' := HT.out
        rw [hj] at HT'
        obtain ⟨y4, z4, h5, h6⟩ := HEnd.out wr vq mq cq HT'
        have HF := hide (HP.out _ _ h5 h6)
        clear h5 h6 HT' hb HT d4
        subst hj
        go_wp2
        go_ret
        exact HF.out
end Go.Proofs.YtjfhilignbeboabGreatDoor
/- The document's records: time, may, Check, Size. -/
namespace Go.Proofs.YtjfhilignbeboabGreatDoor.Rk
open Go.RowKit
attribute [local go_sem ↓] Go.wp_at_zero Go.wp_at_succ
theorem time_any (n : Int) (w : World) : Calls Tryz.prog 100 #[.int .i64 n] w fun e w' => e = .returned (.bool (decide (1 ≤ n ∧ n ≤ mxC))) ∧ w' = w := by
  by_cases h1 : 1 ≤ n
  · by_cases h2 : n ≤ 1099511627776
    · rw [decide_eq_true (show 1 ≤ n ∧ n ≤ mxC from ⟨h1, h2⟩)]
      go_enter Tryz.func100, Tryz.ntmps100
      go_wp2
      go_ret
      exact ⟨rfl, rfl⟩
    · rw [decide_eq_false (show ¬ (1 ≤ n ∧ n ≤ mxC) from fun h => h2 h.2)]
      go_enter Tryz.func100, Tryz.ntmps100
      go_wp2
      go_ret
      exact ⟨rfl, rfl⟩
  · rw [decide_eq_false (show ¬ (1 ≤ n ∧ n ≤ mxC) from fun h => h1 h.1)]
    go_enter Tryz.func100, Tryz.ntmps100
    go_wp2
    go_ret
    exact ⟨rfl, rfl⟩
set_option maxHeartbeats 4000000 in
theorem rmay_1 (i s u c : Int) (hi : 0 ≤ i) (w : World) : Calls Tryz.prog 49 #[rcV ⟨1, i, s, u, c⟩] w fun e w' => e = .returned (.bool (decide (Rc.mk 1 i s u c).May)) ∧ w.grownBy w' none := by
  have HO := hi
  clear hi
  obtain ⟨res, hres⟩ : ∃ res, res = decide (Rc.mk 1 i s u c).May := ⟨_, rfl⟩
  rw [← hres]
  unfold rcV
  obtain ⟨c0, c1, c2, c3, c4⟩ := box5 (heap_alloc_new w (.cells [Value.int .i64 1, .int .u32 i, .int .i64 s, .int .i64 u, .int .i64 c].toArray 56))
  have HG := hide (World.grownBy_alloc w (.cells [Value.int .i64 1, .int .u32 i, .int .i64 s, .int .i64 u, .int .i64 c].toArray 56) none)
  by_cases hi : i = 0
  · subst hi
    obtain rfl : res = false := by rw [hres]; apply decide_eq_false; unfold Rc.May mxC; (try unfold mxC at *); dsimp only; omega
    clear HO hres
    go_enter Tryz.func49, Tryz.ntmps49
    go_wp2_with (go_at_call 100; refine (qt _).mono ?_; rintro e wt ⟨rfl, hwt⟩; obtain rfl := hwt.symm)
    all_goals
      go_ret
      exact ⟨rfl, HG.out⟩
  · have ei : (i == 0) = false := by simpa using hi
    have ni : (i != 0) = true := by simpa using hi
    have di : decide (i = 0) = false := by simpa using hi
    by_cases hs : 0 ≤ s
    · by_cases ht : s < 1024
      · skip
        have qt := time_any u
        by_cases hx : 1 ≤ u ∧ u ≤ mxC
        · rw [decide_eq_true hx] at qt
          by_cases hc : c = 0
          · subst hc
            obtain rfl : res = true := by rw [hres]; apply decide_eq_true; unfold Rc.May mxC; (try unfold mxC at *); dsimp only; omega
            clear HO hres
            go_enter Tryz.func49, Tryz.ntmps49
            go_wp2_with (go_at_call 100; refine (qt _).mono ?_; rintro e wt ⟨rfl, hwt⟩; obtain rfl := hwt.symm)
            all_goals
              go_ret
              exact ⟨rfl, HG.out⟩
          · have ec : (c == 0) = false := by simpa using hc
            have dc : decide (c = 0) = false := by simpa using hc
            obtain rfl : res = false := by rw [hres]; apply decide_eq_false; unfold Rc.May mxC; (try unfold mxC at *); dsimp only; omega
            clear HO hres
            go_enter Tryz.func49, Tryz.ntmps49
            go_wp2_with (go_at_call 100; refine (qt _).mono ?_; rintro e wt ⟨rfl, hwt⟩; obtain rfl := hwt.symm)
            all_goals
              go_ret
              exact ⟨rfl, HG.out⟩
        · rw [decide_eq_false hx] at qt
          obtain rfl : res = false := by rw [hres]; apply decide_eq_false; unfold Rc.May mxC; (try unfold mxC at *); dsimp only; omega
          clear HO hres
          go_enter Tryz.func49, Tryz.ntmps49
          go_wp2_with (go_at_call 100; refine (qt _).mono ?_; rintro e wt ⟨rfl, hwt⟩; obtain rfl := hwt.symm)
          all_goals
            go_ret
            exact ⟨rfl, HG.out⟩
      · skip
        obtain rfl : res = false := by rw [hres]; apply decide_eq_false; unfold Rc.May mxC; (try unfold mxC at *); dsimp only; omega
        clear HO hres
        go_enter Tryz.func49, Tryz.ntmps49
        go_wp2_with (go_at_call 100; refine (qt _).mono ?_; rintro e wt ⟨rfl, hwt⟩; obtain rfl := hwt.symm)
        all_goals
          go_ret
          exact ⟨rfl, HG.out⟩
    · skip
      obtain rfl : res = false := by rw [hres]; apply decide_eq_false; unfold Rc.May mxC; (try unfold mxC at *); dsimp only; omega
      clear HO hres
      go_enter Tryz.func49, Tryz.ntmps49
      go_wp2_with (go_at_call 100; refine (qt _).mono ?_; rintro e wt ⟨rfl, hwt⟩; obtain rfl := hwt.symm)
      all_goals
        go_ret
        exact ⟨rfl, HG.out⟩
set_option maxHeartbeats 4000000 in
theorem rmay_2 (i s u c : Int) (hi : 0 ≤ i) (w : World) : Calls Tryz.prog 49 #[rcV ⟨2, i, s, u, c⟩] w fun e w' => e = .returned (.bool (decide (Rc.mk 2 i s u c).May)) ∧ w.grownBy w' none := by
  have HO := hi
  clear hi
  obtain ⟨res, hres⟩ : ∃ res, res = decide (Rc.mk 2 i s u c).May := ⟨_, rfl⟩
  rw [← hres]
  unfold rcV
  obtain ⟨c0, c1, c2, c3, c4⟩ := box5 (heap_alloc_new w (.cells [Value.int .i64 2, .int .u32 i, .int .i64 s, .int .i64 u, .int .i64 c].toArray 56))
  have HG := hide (World.grownBy_alloc w (.cells [Value.int .i64 2, .int .u32 i, .int .i64 s, .int .i64 u, .int .i64 c].toArray 56) none)
  by_cases hi : i = 0
  · subst hi
    obtain rfl : res = false := by rw [hres]; apply decide_eq_false; unfold Rc.May mxC; (try unfold mxC at *); dsimp only; omega
    clear HO hres
    go_enter Tryz.func49, Tryz.ntmps49
    go_wp2_with (go_at_call 100; refine (qt _).mono ?_; rintro e wt ⟨rfl, hwt⟩; obtain rfl := hwt.symm)
    all_goals
      go_ret
      exact ⟨rfl, HG.out⟩
  · have ei : (i == 0) = false := by simpa using hi
    have ni : (i != 0) = true := by simpa using hi
    have di : decide (i = 0) = false := by simpa using hi
    by_cases hs : s = 0
    · subst hs
      by_cases hu : u = 0
      · subst hu
        by_cases hc : c = 0
        · subst hc
          obtain rfl : res = true := by rw [hres]; apply decide_eq_true; unfold Rc.May mxC; (try unfold mxC at *); dsimp only; omega
          clear HO hres
          go_enter Tryz.func49, Tryz.ntmps49
          go_wp2_with (go_at_call 100; refine (qt _).mono ?_; rintro e wt ⟨rfl, hwt⟩; obtain rfl := hwt.symm)
          all_goals
            go_ret
            exact ⟨rfl, HG.out⟩
        · have ec : (c == 0) = false := by simpa using hc
          have dc : decide (c = 0) = false := by simpa using hc
          obtain rfl : res = false := by rw [hres]; apply decide_eq_false; unfold Rc.May mxC; (try unfold mxC at *); dsimp only; omega
          clear HO hres
          go_enter Tryz.func49, Tryz.ntmps49
          go_wp2_with (go_at_call 100; refine (qt _).mono ?_; rintro e wt ⟨rfl, hwt⟩; obtain rfl := hwt.symm)
          all_goals
            go_ret
            exact ⟨rfl, HG.out⟩
      · have eu : (u == 0) = false := by simpa using hu
        have du : decide (u = 0) = false := by simpa using hu
        obtain rfl : res = false := by rw [hres]; apply decide_eq_false; unfold Rc.May mxC; (try unfold mxC at *); dsimp only; omega
        clear HO hres
        go_enter Tryz.func49, Tryz.ntmps49
        go_wp2_with (go_at_call 100; refine (qt _).mono ?_; rintro e wt ⟨rfl, hwt⟩; obtain rfl := hwt.symm)
        all_goals
          go_ret
          exact ⟨rfl, HG.out⟩
    · have es : (s == 0) = false := by simpa using hs
      have ds : decide (s = 0) = false := by simpa using hs
      obtain rfl : res = false := by rw [hres]; apply decide_eq_false; unfold Rc.May mxC; (try unfold mxC at *); dsimp only; omega
      clear HO hres
      go_enter Tryz.func49, Tryz.ntmps49
      go_wp2_with (go_at_call 100; refine (qt _).mono ?_; rintro e wt ⟨rfl, hwt⟩; obtain rfl := hwt.symm)
      all_goals
        go_ret
        exact ⟨rfl, HG.out⟩
set_option maxHeartbeats 4000000 in
theorem rmay_3 (i s u c : Int) (hi : 0 ≤ i) (w : World) : Calls Tryz.prog 49 #[rcV ⟨3, i, s, u, c⟩] w fun e w' => e = .returned (.bool (decide (Rc.mk 3 i s u c).May)) ∧ w.grownBy w' none := by
  have HO := hi
  clear hi
  obtain ⟨res, hres⟩ : ∃ res, res = decide (Rc.mk 3 i s u c).May := ⟨_, rfl⟩
  rw [← hres]
  unfold rcV
  obtain ⟨c0, c1, c2, c3, c4⟩ := box5 (heap_alloc_new w (.cells [Value.int .i64 3, .int .u32 i, .int .i64 s, .int .i64 u, .int .i64 c].toArray 56))
  have HG := hide (World.grownBy_alloc w (.cells [Value.int .i64 3, .int .u32 i, .int .i64 s, .int .i64 u, .int .i64 c].toArray 56) none)
  by_cases hi : i = 0
  · subst hi
    obtain rfl : res = false := by rw [hres]; apply decide_eq_false; unfold Rc.May mxC; (try unfold mxC at *); dsimp only; omega
    clear HO hres
    go_enter Tryz.func49, Tryz.ntmps49
    go_wp2_with (go_at_call 100; refine (qt _).mono ?_; rintro e wt ⟨rfl, hwt⟩; obtain rfl := hwt.symm)
    all_goals
      go_ret
      exact ⟨rfl, HG.out⟩
  · have ei : (i == 0) = false := by simpa using hi
    have ni : (i != 0) = true := by simpa using hi
    have di : decide (i = 0) = false := by simpa using hi
    by_cases hs : s = 0
    · subst hs
      by_cases hu : u = 0
      · subst hu
        by_cases hc : c = 0
        · subst hc
          obtain rfl : res = true := by rw [hres]; apply decide_eq_true; unfold Rc.May mxC; (try unfold mxC at *); dsimp only; omega
          clear HO hres
          go_enter Tryz.func49, Tryz.ntmps49
          go_wp2_with (go_at_call 100; refine (qt _).mono ?_; rintro e wt ⟨rfl, hwt⟩; obtain rfl := hwt.symm)
          all_goals
            go_ret
            exact ⟨rfl, HG.out⟩
        · have ec : (c == 0) = false := by simpa using hc
          have dc : decide (c = 0) = false := by simpa using hc
          obtain rfl : res = false := by rw [hres]; apply decide_eq_false; unfold Rc.May mxC; (try unfold mxC at *); dsimp only; omega
          clear HO hres
          go_enter Tryz.func49, Tryz.ntmps49
          go_wp2_with (go_at_call 100; refine (qt _).mono ?_; rintro e wt ⟨rfl, hwt⟩; obtain rfl := hwt.symm)
          all_goals
            go_ret
            exact ⟨rfl, HG.out⟩
      · have eu : (u == 0) = false := by simpa using hu
        have du : decide (u = 0) = false := by simpa using hu
        obtain rfl : res = false := by rw [hres]; apply decide_eq_false; unfold Rc.May mxC; (try unfold mxC at *); dsimp only; omega
        clear HO hres
        go_enter Tryz.func49, Tryz.ntmps49
        go_wp2_with (go_at_call 100; refine (qt _).mono ?_; rintro e wt ⟨rfl, hwt⟩; obtain rfl := hwt.symm)
        all_goals
          go_ret
          exact ⟨rfl, HG.out⟩
    · have es : (s == 0) = false := by simpa using hs
      have ds : decide (s = 0) = false := by simpa using hs
      obtain rfl : res = false := by rw [hres]; apply decide_eq_false; unfold Rc.May mxC; (try unfold mxC at *); dsimp only; omega
      clear HO hres
      go_enter Tryz.func49, Tryz.ntmps49
      go_wp2_with (go_at_call 100; refine (qt _).mono ?_; rintro e wt ⟨rfl, hwt⟩; obtain rfl := hwt.symm)
      all_goals
        go_ret
        exact ⟨rfl, HG.out⟩
set_option maxHeartbeats 4000000 in
theorem rmay_4 (i s u c : Int) (hi : 0 ≤ i) (w : World) : Calls Tryz.prog 49 #[rcV ⟨4, i, s, u, c⟩] w fun e w' => e = .returned (.bool (decide (Rc.mk 4 i s u c).May)) ∧ w.grownBy w' none := by
  have HO := hi
  clear hi
  obtain ⟨res, hres⟩ : ∃ res, res = decide (Rc.mk 4 i s u c).May := ⟨_, rfl⟩
  rw [← hres]
  unfold rcV
  obtain ⟨c0, c1, c2, c3, c4⟩ := box5 (heap_alloc_new w (.cells [Value.int .i64 4, .int .u32 i, .int .i64 s, .int .i64 u, .int .i64 c].toArray 56))
  have HG := hide (World.grownBy_alloc w (.cells [Value.int .i64 4, .int .u32 i, .int .i64 s, .int .i64 u, .int .i64 c].toArray 56) none)
  by_cases hi : i = 0
  · subst hi
    obtain rfl : res = false := by rw [hres]; apply decide_eq_false; unfold Rc.May mxC; (try unfold mxC at *); dsimp only; omega
    clear HO hres
    go_enter Tryz.func49, Tryz.ntmps49
    go_wp2_with (go_at_call 100; refine (qt _).mono ?_; rintro e wt ⟨rfl, hwt⟩; obtain rfl := hwt.symm)
    all_goals
      go_ret
      exact ⟨rfl, HG.out⟩
  · have ei : (i == 0) = false := by simpa using hi
    have ni : (i != 0) = true := by simpa using hi
    have di : decide (i = 0) = false := by simpa using hi
    by_cases hs : 0 ≤ s
    · by_cases ht : s < 1024
      · skip
        by_cases hu : u = 0
        · subst hu
          by_cases hc : c = 0
          · subst hc
            obtain rfl : res = true := by rw [hres]; apply decide_eq_true; unfold Rc.May mxC; (try unfold mxC at *); dsimp only; omega
            clear HO hres
            go_enter Tryz.func49, Tryz.ntmps49
            go_wp2_with (go_at_call 100; refine (qt _).mono ?_; rintro e wt ⟨rfl, hwt⟩; obtain rfl := hwt.symm)
            all_goals
              go_ret
              exact ⟨rfl, HG.out⟩
          · have ec : (c == 0) = false := by simpa using hc
            have dc : decide (c = 0) = false := by simpa using hc
            obtain rfl : res = false := by rw [hres]; apply decide_eq_false; unfold Rc.May mxC; (try unfold mxC at *); dsimp only; omega
            clear HO hres
            go_enter Tryz.func49, Tryz.ntmps49
            go_wp2_with (go_at_call 100; refine (qt _).mono ?_; rintro e wt ⟨rfl, hwt⟩; obtain rfl := hwt.symm)
            all_goals
              go_ret
              exact ⟨rfl, HG.out⟩
        · have eu : (u == 0) = false := by simpa using hu
          have du : decide (u = 0) = false := by simpa using hu
          obtain rfl : res = false := by rw [hres]; apply decide_eq_false; unfold Rc.May mxC; (try unfold mxC at *); dsimp only; omega
          clear HO hres
          go_enter Tryz.func49, Tryz.ntmps49
          go_wp2_with (go_at_call 100; refine (qt _).mono ?_; rintro e wt ⟨rfl, hwt⟩; obtain rfl := hwt.symm)
          all_goals
            go_ret
            exact ⟨rfl, HG.out⟩
      · skip
        obtain rfl : res = false := by rw [hres]; apply decide_eq_false; unfold Rc.May mxC; (try unfold mxC at *); dsimp only; omega
        clear HO hres
        go_enter Tryz.func49, Tryz.ntmps49
        go_wp2_with (go_at_call 100; refine (qt _).mono ?_; rintro e wt ⟨rfl, hwt⟩; obtain rfl := hwt.symm)
        all_goals
          go_ret
          exact ⟨rfl, HG.out⟩
    · skip
      obtain rfl : res = false := by rw [hres]; apply decide_eq_false; unfold Rc.May mxC; (try unfold mxC at *); dsimp only; omega
      clear HO hres
      go_enter Tryz.func49, Tryz.ntmps49
      go_wp2_with (go_at_call 100; refine (qt _).mono ?_; rintro e wt ⟨rfl, hwt⟩; obtain rfl := hwt.symm)
      all_goals
        go_ret
        exact ⟨rfl, HG.out⟩
set_option maxHeartbeats 4000000 in
theorem rmay_5 (i s u c : Int) (hi : 0 ≤ i) (w : World) : Calls Tryz.prog 49 #[rcV ⟨5, i, s, u, c⟩] w fun e w' => e = .returned (.bool (decide (Rc.mk 5 i s u c).May)) ∧ w.grownBy w' none := by
  have HO := hi
  clear hi
  obtain ⟨res, hres⟩ : ∃ res, res = decide (Rc.mk 5 i s u c).May := ⟨_, rfl⟩
  rw [← hres]
  unfold rcV
  obtain ⟨c0, c1, c2, c3, c4⟩ := box5 (heap_alloc_new w (.cells [Value.int .i64 5, .int .u32 i, .int .i64 s, .int .i64 u, .int .i64 c].toArray 56))
  have HG := hide (World.grownBy_alloc w (.cells [Value.int .i64 5, .int .u32 i, .int .i64 s, .int .i64 u, .int .i64 c].toArray 56) none)
  by_cases hi : i = 0
  · subst hi
    by_cases hs : s = 0
    · subst hs
      by_cases hu : u = 0
      · subst hu
        have qt := time_any c
        by_cases hx : 1 ≤ c ∧ c ≤ mxC
        · rw [decide_eq_true hx] at qt
          obtain rfl : res = true := by rw [hres]; apply decide_eq_true; unfold Rc.May mxC; (try unfold mxC at *); dsimp only; omega
          clear HO hres
          go_enter Tryz.func49, Tryz.ntmps49
          go_wp2_with (go_at_call 100; refine (qt _).mono ?_; rintro e wt ⟨rfl, hwt⟩; obtain rfl := hwt.symm)
          all_goals
            go_ret
            exact ⟨rfl, HG.out⟩
        · rw [decide_eq_false hx] at qt
          obtain rfl : res = false := by rw [hres]; apply decide_eq_false; unfold Rc.May mxC; (try unfold mxC at *); dsimp only; omega
          clear HO hres
          go_enter Tryz.func49, Tryz.ntmps49
          go_wp2_with (go_at_call 100; refine (qt _).mono ?_; rintro e wt ⟨rfl, hwt⟩; obtain rfl := hwt.symm)
          all_goals
            go_ret
            exact ⟨rfl, HG.out⟩
      · have eu : (u == 0) = false := by simpa using hu
        have du : decide (u = 0) = false := by simpa using hu
        obtain rfl : res = false := by rw [hres]; apply decide_eq_false; unfold Rc.May mxC; (try unfold mxC at *); dsimp only; omega
        clear HO hres
        go_enter Tryz.func49, Tryz.ntmps49
        go_wp2_with (go_at_call 100; refine (qt _).mono ?_; rintro e wt ⟨rfl, hwt⟩; obtain rfl := hwt.symm)
        all_goals
          go_ret
          exact ⟨rfl, HG.out⟩
    · have es : (s == 0) = false := by simpa using hs
      have ds : decide (s = 0) = false := by simpa using hs
      obtain rfl : res = false := by rw [hres]; apply decide_eq_false; unfold Rc.May mxC; (try unfold mxC at *); dsimp only; omega
      clear HO hres
      go_enter Tryz.func49, Tryz.ntmps49
      go_wp2_with (go_at_call 100; refine (qt _).mono ?_; rintro e wt ⟨rfl, hwt⟩; obtain rfl := hwt.symm)
      all_goals
        go_ret
        exact ⟨rfl, HG.out⟩
  · have ei : (i == 0) = false := by simpa using hi
    have di : decide (i = 0) = false := by simpa using hi
    obtain rfl : res = false := by rw [hres]; apply decide_eq_false; unfold Rc.May mxC; (try unfold mxC at *); dsimp only; omega
    clear HO hres
    go_enter Tryz.func49, Tryz.ntmps49
    go_wp2_with (go_at_call 100; refine (qt _).mono ?_; rintro e wt ⟨rfl, hwt⟩; obtain rfl := hwt.symm)
    all_goals
      go_ret
      exact ⟨rfl, HG.out⟩
theorem rmay_any (r : Rc) (ho : r.Ok) (w : World) : Calls Tryz.prog 49 #[rcV r] w fun e w' => e = .returned (.bool (decide r.May)) ∧ w.grownBy w' none := by
  have hi := ho.i0
  obtain ⟨k, i, s, u, c⟩ := r
  dsimp only at hi
  by_cases hk : 1 ≤ k ∧ k ≤ 5
  · have hk5 : k = 1 ∨ k = 2 ∨ k = 3 ∨ k = 4 ∨ k = 5 := by omega
    rcases hk5 with rfl | rfl | rfl | rfl | rfl
    · exact rmay_1 i s u c hi w
    · exact rmay_2 i s u c hi w
    · exact rmay_3 i s u c hi w
    · exact rmay_4 i s u c hi w
    · exact rmay_5 i s u c hi w
  · rw [decide_eq_false (may_not_kind (r := ⟨k, i, s, u, c⟩) hk)]
    have e1 : (k == 1) = false := by simp; omega
    have e2 : (k == 2) = false := by simp; omega
    have e3 : (k == 3) = false := by simp; omega
    have e4 : (k == 4) = false := by simp; omega
    have e5 : (k == 5) = false := by simp; omega
    have d1 : decide (k = 1) = false := by simp; omega
    have d2 : decide (k = 2) = false := by simp; omega
    have d3 : decide (k = 3) = false := by simp; omega
    have d4 : decide (k = 4) = false := by simp; omega
    have d5 : decide (k = 5) = false := by simp; omega
    clear hk hi ho
    unfold rcV
    obtain ⟨c0, c1, c2, c3, c4⟩ := box5 (heap_alloc_new w (.cells [Value.int .i64 k, .int .u32 i, .int .i64 s, .int .i64 u, .int .i64 c].toArray 56))
    have HG := hide (World.grownBy_alloc w (.cells [Value.int .i64 k, .int .u32 i, .int .i64 s, .int .i64 u, .int .i64 c].toArray 56) none)
    go_enter Tryz.func49, Tryz.ntmps49
    go_wp2
    all_goals
      go_ret
      exact ⟨rfl, HG.out⟩
theorem check_ref (r : Rc) (ho : r.Ok) (w : World) : Calls Tryz.prog 27 #[rcV r] w fun e w' => e = .returned (.int .i64 (chk r)) ∧ w.grownBy w' none := by
  have g1 := World.grownBy_alloc w (.cells (rcC r).toArray 56) none
  have b1 := heap_alloc_new w (.cells (rcC r).toArray 56)
  have q := rmay_any r ho (w.alloc (.cells (rcC r).toArray 56))
  obtain ⟨c0, c1, c2, c3, c4⟩ := box5 b1
  have G := hide g1
  clear g1 b1 ho
  unfold rcC rcV at *
  by_cases hm : r.May
  · rw [decide_eq_true hm] at q
    rw [show chk r = 0 from if_pos hm]
    clear hm
    go_enter Tryz.func27, Tryz.ntmps27
    go_wp2_with fail
    refine q.mono ?_
    rintro e w1 ⟨rfl, hg⟩
    have HG := hide (grown_trans G.out hg)
    clear hg q
    go_wp2
    go_ret
    exact ⟨rfl, HG.out⟩
  · rw [decide_eq_false hm] at q
    rw [show chk r = 160 from if_neg hm]
    clear hm
    go_enter Tryz.func27, Tryz.ntmps27
    go_wp2_with fail
    refine q.mono ?_
    rintro e w1 ⟨rfl, hg⟩
    have HG := hide (grown_trans G.out hg)
    clear hg q
    go_wp2
    go_ret
    exact ⟨rfl, HG.out⟩
end Go.Proofs.YtjfhilignbeboabGreatDoor.Rk
