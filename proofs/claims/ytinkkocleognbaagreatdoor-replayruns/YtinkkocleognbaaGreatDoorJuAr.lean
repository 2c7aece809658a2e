/- Texts joined: JpAb. -/
import Derived.Test.YtinkkocleognbaaGreatDoorJuAq
import Derived.Laws.BitsAllLaws
import Derived.Test.YtinkkocleognbaaGreatDoorJuAc
import Derived.WalkKit
import Derived.WalkSpells
import Derived.WalkLawsBesides
import Derived.Laws.CopyOwn
import Derived.Deep.MidRow
/- Texts joined: Db2, OcNum, RkRy, OcBase. -/
namespace Go.Proofs.YtinkkocleognbaaGreatDoor
/- The document's book: tick. -/
open Go.RowKit
attribute [local go_sem ↓] Go.wp_at_zero Go.wp_at_succ
attribute [local go_sem] Oper.semAt_some
theorem info108 : (Tryz.prog.info? 108).map (fun i => (i.zero, i.size, i.bytes)) = some (some (.agg #[.int .u32 0, .int .i64 0, .int .i64 0]), 3, 24) := by kernel_rfl
/-- What a tick leaves. -/
def DtP (w w' : World) (lo d : Nat) (v : Value) (S : Sb) (c : Int) (e : Ending) : Prop := ∃ v', e = .returned (.int .i64 (if c ≤ S.t then 173 else 0)) ∧ Db w' lo d v' (if c ≤ S.t then S else { S with L := tik S.L c, t := c }) ∧ Dst w w' d v v'
/-- Inside tick, behind j bookings. -/
structure TiS (w wr : World) (lo d : Nat) (v : Value) (S : Sb) (c : Int) (j : Nat) (q : Value) : Prop where
  db : Db wr lo d v S
  row : wr.ownsRow w.heap.size 108 3 q (tik (S.L.take j) c).length (bgs (tik (S.L.take j) c))
  kp : Kept w wr (dbo d v)
theorem slice_n {w : World} {b m cap : Nat} {e : TypeId} {size n : Nat} {vo : Option Addr} {xs : List Value} (h : w.ownsRow b e size (.slice vo m cap) n xs) : m = n := by
  obtain ⟨_, _, e, -⟩ := Ix.own_form h
  injection e
theorem tik_le (L : List Bg) (c : Int) : (tik L c).length ≤ L.length := List.length_filter_le _ _
theorem own_kept {w w' : World} {b : Nat} {e : TypeId} {size n : Nat} {v : Value} {xs : List Value} {X : Nat → Prop} (h : w.ownsRow b e size v n xs) (k : Kept w w' X) (hX : ∀ i, v.ownBlock = some i → ¬ X i) : w'.ownsRow b e size v n xs :=
  Ix.row_keep h (fun q hq => by obtain ⟨_, cur, hc⟩ := Ix.own_block h hq; exact k.block q (row_lt hc) (hX q hq))
set_option maxRecDepth 20000 in
set_option maxHeartbeats 16000000 in
theorem dtick_any {w : World} {lo d : Nat} {v : Value} {S : Sb} (h : Db w lo d v S) (ho : S.Ok) (c : Int) : Calls Tryz.prog 54 #[.pointer (some ⟨d, 0, none⟩), .int .i64 c] w fun e w' => DtP w w' lo d v S c e := by
  have hL : S.L.length ≤ 4096 := by have := ho.b1; have := ho.few; omega
  have d6 := h.cell (j := 6) rfl
  have f6 := h.free 6
  have HLt := hide h.lt
  have HLo := hide (Nat.le_trans h.ge (Nat.le_of_lt (row_lt h.head)))
  by_cases hc : c ≤ S.t
  · have HF : Hid (DtP w w lo d v S c (.returned (.int .i64 173))) := ⟨v, by rw [if_pos hc], by rw [if_pos hc]; exact h, Dst.refl _ _ _⟩
    clear h ho
    go_enter Tryz.func54, Tryz.ntmps54
    go_wp2
    go_ret
    exact HF.out
  · have hh := h.headed (j := 6) (u := .int .i64 c) (S' := { S with t := c }) (by simp [dbc]) rfl
    obtain ⟨vo, vcap, rfl, -⟩ := Ix.own_form h.row
    obtain ⟨w1, hw1⟩ : ∃ w1, w.setCell ⟨d, 6, none⟩ (.int .i64 c) = w1 := ⟨_, rfl⟩
    have HW := hide hw1
    have HT0 : Hid (TiS w w1 lo d (.slice vo S.L.length vcap) { S with t := c } c 0 (.slice none 0 0)) := by rw [← hw1]; exact ⟨hh.1, World.ownsRow_nil _ _ _ _, hh.2.kept⟩
    have HP : Hid (∀ W v', Db W lo d v' { S with L := tik S.L c, t := c } → Dst w W d (.slice vo S.L.length vcap) v' → DtP w W lo d (.slice vo S.L.length vcap) S c (.returned (.int .i64 0))) := fun W v' h1 h2 => ⟨v', by rw [if_neg hc], by rw [if_neg hc]; exact h1, h2⟩
    have HA : Hid (∀ (wr : World) j vq mq cq x, TiS w wr lo d (.slice vo S.L.length vcap) { S with t := c } c j (.slice vq mq cq) → S.L[j]? = some x → (x.u = 0 ∨ c < x.u) → mq ≤ 4096 → ∀ v' w', w'.ownsRow w.heap.size 108 3 v' (mq + 1) (bgs (tik (S.L.take j) c) ++ bgc x) → (wr.alloc (.cells (bgc x).toArray 108)).grownBy w' (Value.slice vq mq cq).ownBlock → TiS w w' lo d (.slice vo S.L.length vcap) { S with t := c } c (j + 1) v') := by
      intro wr j vq mq cq x ht hj hx hm v' w' ho hg
      have hmq := slice_n ht.row
      have k : Kept wr w' (fun i => (Value.slice vq mq cq).ownBlock = some i) := (Kept.new (grown_alloc wr _) _).trans (Kept.of hg (S := fun i => (Value.slice vq mq cq).ownBlock = some i) (fun j e _ => e)) (fun _ _ e => e)
      have hge : ∀ i, (Value.slice vq mq cq).ownBlock = some i → w.heap.size ≤ i := fun i hi => (Ix.own_block ht.row hi).1
      refine ⟨ht.db.far k (fun i hi e => ?_), ?_, ht.kp.trans k (fun i hi e => ?_)⟩
      · have := HLt.out i hi; have := hge i e; omega
      · show w'.ownsRow w.heap.size 108 3 v' (tik (S.L.take (j + 1)) c).length (bgs (tik (S.L.take (j + 1)) c))
        rw [tik_take hj, if_pos hx, List.length_append, ← hmq, ← bgs_snoc]
        exact ho
      · have := hge i e; omega
    have HEnd : Hid (∀ (wr : World) vq mq cq, TiS w wr lo d (.slice vo S.L.length vcap) { S with t := c } c S.L.length (.slice vq mq cq) → wr.cell? ⟨d, 4, none⟩ = some (.slice vo S.L.length vcap) ∧ wr.frozen? ⟨d, 4, none⟩ = false ∧ Db (wr.setCell ⟨d, 4, none⟩ (.slice vq mq cq)) lo d (.slice vq mq cq) { S with L := tik S.L c, t := c } ∧ Dst w (wr.setCell ⟨d, 4, none⟩ (.slice vq mq cq)) d (.slice vo S.L.length vcap) (.slice vq mq cq)) := by
      intro wr vq mq cq ht
      have hr := row_setCell ht.db.head 4 (.slice vq mq cq)
      have ks := kept_setCell wr d 4 (.slice vq mq cq)
      have hge : ∀ i, (Value.slice vq mq cq).ownBlock = some i → w.heap.size ≤ i := fun i hi => (Ix.own_block ht.row hi).1
      have hd := HLt.out d (.inl rfl)
      have hrow := ht.row
      simp only [List.take_length] at hrow
      refine ⟨ht.db.cell rfl, ht.db.free 4, ⟨hr, ?_, ht.db.ge⟩, ⟨ht.kp.trans ks (fun i _ e => .inl e), fun i hi => .inr (hge i hi)⟩⟩
      exact own_base (own_kept hrow ks (fun i hi e => by have := hge i hi; omega)) HLo.out
    have HB : Hid (∀ (wr : World) j q, TiS w wr lo d (.slice vo S.L.length vcap) { S with t := c } c j q → wr.cell? ⟨d, 4, none⟩ = some (.slice vo S.L.length vcap) ∧ ∀ i, i < S.L.length → ∃ g, vo = some ⟨g, 0, none⟩ ∧ wr.cell? ⟨g, i * 3, none⟩ = some (.int .u32 ((rd S.L i).i : Int)) ∧ wr.cell? ⟨g, i * 3 + 1, none⟩ = some (.int .i64 ((rd S.L i).s : Int)) ∧ wr.cell? ⟨g, i * 3 + 2, none⟩ = some (.int .i64 (rd S.L i).u)) := by
      intro wr j q ht
      refine ⟨ht.db.cell rfl, fun i hi => ?_⟩
      obtain ⟨ao, cap, e, hb⟩ := ht.db.bga.ex
      cases e
      exact hb i hi
    obtain ⟨i0, hi0, hz0, hz1, hz2⟩ := info_parts info108
    have HI0 := hide (And.intro hi0 (And.intro hz0 (And.intro hz1 hz2)))
    have HLs := hide hL
    clear h ho hh hw1 hi0 hz0 hz1 hz2
    go_enter Tryz.func54, Tryz.ntmps54
    go_wp2
    rw [HW.out]
    clear HW d6 f6
    go_loopg [5, 6] S.L.length (fun k q5 q6 wr => ∃ (j : Nat) (vq : Option Addr) (mq cq : Nat), k + j = S.L.length ∧ q6 = .int .i64 (j : Int) ∧ q5 = .slice vq mq cq ∧ Hid (TiS w wr lo d (.slice vo S.L.length vcap) { S with t := c } c j (.slice vq mq cq)))
    case atStart => exact ⟨0, none, 0, 0, by omega, rfl, rfl, HT0.out⟩
    case round =>
      clear HT0
      obtain ⟨j, vq, mq, cq, hkj, rfl, rfl, HT⟩ := hrel
      obtain ⟨d4, hb⟩ := HB.out _ _ _ HT.out
      have hmq : mq ≤ 4096 := by
        have h1 := slice_n HT.out.row
        have h2 := tik_le (S.L.take j) c
        have h3 := HLs.out
        simp only at h1
        rw [List.length_take] at h2
        omega
      by_cases hk : 0 < gk
      · have hj : j < S.L.length := by omega
        have h1 : (j : Int) < (S.L.length : Int) := by omega
        have h0 : (0 : Int) ≤ (j : Int) := by omega
        obtain ⟨g, rfl, e0, e1, e2⟩ := hb j hj
        have HJ := hide (rd_get hj)
        clear hb
        have hL' := HLs.out
        by_cases hx : (rd S.L j).u = 0 ∨ c < (rd S.L j).u
        · have HXs := hide hx
          have HRow := hide (And.intro (HT.out.row.alloc (.cells (bgc (rd S.L j)).toArray 108)) (And.intro (cell3_new wr (rd S.L j) 108) HT.out.kp.size))
          have HAp := hide (fun v' w' => HA.out wr j vq mq cq (rd S.L j) HT.out HJ.out HXs.out hmq v' w')
          obtain ⟨Lt, hLt⟩ : ∃ Lt, Lt = bgs (tik (S.L.take j) c) := ⟨_, rfl⟩
          have hlen : (tik (S.L.take j) c).length = mq := (slice_n HT.out.row).symm
          simp only [← hLt, hlen] at HRow HAp
          clear hLt hlen
          have HMq := hide hmq
          have HOc := hide (bgc_one (rd S.L j))
          unfold bgc at HRow HAp HOc
          generalize (rd S.L j).i = xi at *
          generalize (rd S.L j).s = xs at *
          generalize (rd S.L j).u = xu at *
          clear hx
          by_cases hu : xu = 0
          · subst hu
            go_wp2_with (at_builtin; refine wpList_append_own _ rfl (.tmp 47) (.tmp 55) 32 rfl w.heap.size 108 i0 (.agg #[.int .u32 0, .int .i64 0, .int .i64 0]) 3 24 Tryz.underlying32 HI0.out.1 HI0.out.2.1 HI0.out.2.2.1 HI0.out.2.2.2 rfl (by decide) (.slice vq mq cq) mq Lt rfl HRow.out.1 ⟨wr.heap.size, 0, none⟩ 1 1 [.int .u32 (xi : Int), .int .i64 (xs : Int), .int .i64 0] rfl rfl HRow.out.2.1 HOc.out (by have := HMq.out; unfold maxLen; omega) (by have := HMq.out; omega) (by have := HRow.out.2.2; simp; omega) ?_)
            intro v' w' hov hg hv
            clear hv
            obtain ⟨vo', vc', rfl, -⟩ := Ix.own_form hov
            have HN := hide (HAp.out _ _ hov hg)
            clear hov hg
            go_wp2
            go_roundg (gk - 1)
            case measure => omega
            case rel => exact ⟨j + 1, vo', mq + 1, vc', by omega, by go_num, rfl, HN.out⟩
          · have f1 : (xu == 0) = false := by simpa using hu
            have f2 : decide (xu = 0) = false := by simpa using hu
            have f3 : c < xu := by have := HXs.out; omega
            go_wp2_with (at_builtin; refine wpList_append_own _ rfl (.tmp 47) (.tmp 55) 32 rfl w.heap.size 108 i0 (.agg #[.int .u32 0, .int .i64 0, .int .i64 0]) 3 24 Tryz.underlying32 HI0.out.1 HI0.out.2.1 HI0.out.2.2.1 HI0.out.2.2.2 rfl (by decide) (.slice vq mq cq) mq Lt rfl HRow.out.1 ⟨wr.heap.size, 0, none⟩ 1 1 [.int .u32 (xi : Int), .int .i64 (xs : Int), .int .i64 xu] rfl rfl HRow.out.2.1 HOc.out (by have := HMq.out; unfold maxLen; omega) (by have := HMq.out; omega) (by have := HRow.out.2.2; simp; omega) ?_)
            intro v' w' hov hg hv
            clear hv
            obtain ⟨vo', vc', rfl, -⟩ := Ix.own_form hov
            have HN := hide (HAp.out _ _ hov hg)
            clear hov hg
            go_wp2
            go_roundg (gk - 1)
            case measure => omega
            case rel => exact ⟨j + 1, vo', mq + 1, vc', by omega, by go_num, rfl, HN.out⟩
        · have HN : Hid (TiS w wr lo d (.slice (some ⟨g, 0, none⟩) S.L.length vcap) { S with t := c } c (j + 1) (.slice vq mq cq)) := by
            refine ⟨HT.out.db, ?_, HT.out.kp⟩
            have := HT.out.row
            show wr.ownsRow w.heap.size 108 3 _ (tik (S.L.take (j + 1)) c).length (bgs (tik (S.L.take (j + 1)) c))
            rw [tik_take HJ.out, if_neg hx, List.append_nil]
            exact this
          generalize (rd S.L j).i = xi at *
          generalize (rd S.L j).s = xs at *
          generalize (rd S.L j).u = xu at *
          have f1 : (xu == 0) = false := by simp; omega
          have f2 : decide (xu = 0) = false := by simp; omega
          have f3 : ¬ c < xu := by omega
          clear hx
          go_wp2
          go_roundg (gk - 1)
          case measure => omega
          case rel => exact ⟨j + 1, vq, mq, cq, by omega, by go_num, rfl, HN.out⟩
      · have hj : j = S.L.length := by omega
        have HT' := HT.out
        rw [hj] at HT'
        obtain ⟨y4, z4, h5, h6⟩ := HEnd.out wr vq mq cq HT'
        have HF := hide (HP.out _ _ h5 h6)
        clear h5 h6 HT' hb HT d4
        subst hj
        go_wp2
        go_ret
        exact HF.out
end Go.Proofs.YtinkkocleognbaaGreatDoor
/- Numbers as bytes: plain arithmetic, without the program. -/
namespace Go.Proofs.YtinkkocleognbaaGreatDoor.Oc

/-- What bytes say, the lowest first. -/
def leV : List Int → Int
  | [] => 0
  | x :: r => x + 256 * leV r
/-- Bytes. -/
def Byt (xs : List Int) : Prop := ∀ x ∈ xs, 0 ≤ x ∧ x < 256
/-- The lowest k bytes of N, the lowest first. -/
def leB (N : Int) (k : Nat) : List Int := (List.range k).map fun j => N / 2 ^ (8 * j) % 256
theorem leB_length (N : Int) (k : Nat) : (leB N k).length = k := by simp [leB]

theorem Byt.tail {x : Int} {r : List Int} (h : Byt (x :: r)) : Byt r := fun y hy => h y (List.mem_cons_of_mem _ hy)
theorem Byt.take {xs : List Int} (h : Byt xs) (n : Nat) : Byt (xs.take n) := fun y hy => h y (List.mem_of_mem_take hy)
theorem Byt.drop {xs : List Int} (h : Byt xs) (n : Nat) : Byt (xs.drop n) := fun y hy => h y (List.mem_of_mem_drop hy)
theorem Byt.append {xs ys : List Int} (h : Byt xs) (k : Byt ys) : Byt (xs ++ ys) := fun y hy => (List.mem_append.1 hy).elim (h y) (k y)
theorem byt_leB (N : Int) (k : Nat) : Byt (leB N k) := by
  intro x hx
  simp only [leB, List.mem_map] at hx
  obtain ⟨j, _, rfl⟩ := hx
  omega

theorem pow_succ8 (n : Nat) : (2 : Int) ^ (8 * (n + 1)) = 256 * 2 ^ (8 * n) := by
  rw [show 8 * (n + 1) = 8 * n + 8 from by omega, Int.pow_add]
  omega

theorem leV_bound : ∀ (xs : List Int), Byt xs → 0 ≤ leV xs ∧ leV xs < 2 ^ (8 * xs.length)
  | [], _ => by simp [leV]
  | x :: r, h => by
    have ih := leV_bound r h.tail
    have hx := h x (List.mem_cons_self ..)
    rw [List.length_cons, pow_succ8]
    simp only [leV]
    omega

theorem leV_snoc : ∀ (xs : List Int) (y : Int), leV (xs ++ [y]) = leV xs + 2 ^ (8 * xs.length) * y
  | [], y => by simp [leV]
  | x :: r, y => by
    simp only [List.cons_append, leV, leV_snoc r y, List.length_cons, pow_succ8]
    rw [Int.mul_add, Int.mul_assoc]
    omega

theorem or_step (xs : List Int) (y : Int) (h : Byt xs) (hy : 0 ≤ y ∧ y < 256) (hl : xs.length < 8) :
    bits .or .u64 (leV xs) (IntKind.u64.wrap (y * 2 ^ (8 * xs.length))) = leV (xs ++ [y]) := by
  obtain ⟨h0, h1⟩ := leV_bound xs h
  obtain ⟨A, hA⟩ := Int.eq_ofNat_of_zero_le h0
  obtain ⟨Y, rfl⟩ := Int.eq_ofNat_of_zero_le hy.1
  have e2 : (2 : Int) ^ (8 * xs.length) = ((2 ^ (8 * xs.length) : Nat) : Int) := by simp
  have hP : 2 ^ (8 * xs.length) * 256 ≤ 18446744073709551616 := by
    have : 2 ^ (8 * xs.length) * 256 = 2 ^ (8 * xs.length + 8) := by rw [Nat.pow_add]
    rw [this]
    exact Nat.pow_le_pow_right (by omega) (show 8 * xs.length + 8 ≤ 64 by omega)
  have hY : Y < 256 := by omega
  have hAlt : A < 2 ^ (8 * xs.length) := by rw [hA, e2] at h1; omega
  have hm : 2 ^ (8 * xs.length) * Y < 18446744073709551616 := by
    have : 2 ^ (8 * xs.length) * Y ≤ 2 ^ (8 * xs.length) * 255 := Nat.mul_le_mul_left _ (by omega)
    omega
  rw [leV_snoc, hA, e2, IntKind.wrap_u64]
  generalize hPd : 2 ^ (8 * xs.length) = p at *
  have e3 : (Y : Int) * (p : Int) = ((p * Y : Nat) : Int) := by rw [Nat.mul_comm]; simp
  rw [e3, Int.emod_eq_of_lt (by omega) (by omega)]
  rw [u64_or _ _ (by omega) (by omega) (by omega) (by omega)]
  have e4 : p * Y + A = p * Y ||| A := by rw [← hPd]; exact Nat.two_pow_add_eq_or_of_lt (by rw [hPd]; exact hAlt) Y
  rw [Int.toNat_natCast, Int.toNat_natCast, Nat.or_comm, ← e4]
  simp
  omega

theorem leB_succ (N : Int) (k : Nat) : leB N (k + 1) = leB N k ++ [N / 2 ^ (8 * k) % 256] := by simp [leB, List.range_succ]

end Go.Proofs.YtinkkocleognbaaGreatDoor.Oc
/- Records as bytes: numbers alone. -/
namespace Go.Proofs.YtinkkocleognbaaGreatDoor
open Oc
/-- How many bytes a kind has. -/
def sz (k : Int) : Nat := if k = 1 then 15 else if k = 2 then 5 else if k = 3 then 5 else if k = 4 then 7 else if k = 5 then 9 else 0
/-- A record's bytes. -/
def Rc.out (r : Rc) : List Int := r.k :: (if r.k = 1 then leB r.i 4 ++ leB r.s 2 ++ leB r.u 8 else if r.k = 4 then leB r.i 4 ++ leB r.s 2 else if r.k = 5 then leB r.c 8 else leB r.i 4)
/-- A number of eight bytes as an int64. -/
def i64of (n : Int) : Int := if n < 9223372036854775808 then n else n - 18446744073709551616
/-- The record in bytes. -/
def rcOf (xs : List Int) : Rc :=
  if xs.headD 0 = 1 then ⟨1, leV ((xs.drop 1).take 4), leV ((xs.drop 5).take 2), i64of (leV ((xs.drop 7).take 8)), 0⟩
  else if xs.headD 0 = 4 then ⟨4, leV ((xs.drop 1).take 4), leV ((xs.drop 5).take 2), 0, 0⟩
  else if xs.headD 0 = 5 then ⟨5, 0, 0, 0, i64of (leV ((xs.drop 1).take 8))⟩
  else ⟨xs.headD 0, leV ((xs.drop 1).take 4), 0, 0, 0⟩
/-- What Get answers. -/
def getR (xs : List Int) : Rc × Int :=
  if xs.length = 0 then (zRc, 4) else if sz (xs.headD 0) = 0 then (zRc, 160) else if xs.length < sz (xs.headD 0) then (zRc, 4)
  else if (rcOf xs).May then (if sz (xs.headD 0) < xs.length then (zRc, 5) else (rcOf xs, 0)) else (zRc, 160)

theorem sz_pos {k : Int} (h : k = 1 ∨ k = 2 ∨ k = 3 ∨ k = 4 ∨ k = 5) : 0 < sz k := by rcases h with rfl | rfl | rfl | rfl | rfl <;> decide
theorem sz_zero {k : Int} (h : ¬ (1 ≤ k ∧ k ≤ 5)) : sz k = 0 := by
  unfold sz
  rw [if_neg (by omega), if_neg (by omega), if_neg (by omega), if_neg (by omega), if_neg (by omega)]
theorem sz_kind {k : Int} (h : sz k ≠ 0) : k = 1 ∨ k = 2 ∨ k = 3 ∨ k = 4 ∨ k = 5 := by
  apply Classical.byContradiction
  intro hn
  exact h (sz_zero (by omega))
theorem sz_le (k : Int) : sz k ≤ 15 := by
  unfold sz
  split <;> (try omega)
  split <;> (try omega)
  split <;> (try omega)
  split <;> (try omega)
  split <;> omega

/-- The four forms of bytes. -/
theorem out1 {r : Rc} (h : r.k = 1) : r.out = 1 :: (leB r.i 4 ++ leB r.s 2 ++ leB r.u 8) := by unfold Rc.out; rw [if_pos h, h]
theorem out4 {r : Rc} (h : r.k = 4) : r.out = 4 :: (leB r.i 4 ++ leB r.s 2) := by unfold Rc.out; rw [if_neg (by omega), if_pos h, h]
theorem out5 {r : Rc} (h : r.k = 5) : r.out = 5 :: leB r.c 8 := by unfold Rc.out; rw [if_neg (by omega), if_neg (by omega), if_pos h, h]
theorem out2 {r : Rc} (h : r.k = 2 ∨ r.k = 3) : r.out = r.k :: leB r.i 4 := by unfold Rc.out; rw [if_neg (by omega), if_neg (by omega), if_neg (by omega)]
theorem out_length {r : Rc} (h : r.May) : r.out.length = sz r.k := by
  rcases may_kind h with e | e | e | e | e
  · rw [out1 e, e]; simp [leB_length, sz]
  · rw [out2 (Or.inl e), e]; simp [leB_length, sz]
  · rw [out2 (Or.inr e), e]; simp [leB_length, sz]
  · rw [out4 e, e]; simp [leB_length, sz]
  · rw [out5 e, e]; simp [leB_length, sz]
theorem byt_cons {x : Int} {r : List Int} (h : 0 ≤ x ∧ x < 256) (g : Byt r) : Byt (x :: r) := fun y hy => (List.mem_cons.1 hy).elim (fun e => by rw [e]; exact h) (g y)
theorem out_byt {r : Rc} (h : r.May) : Byt r.out := by
  rcases may_kind h with e | e | e | e | e
  · rw [out1 e]; exact byt_cons (by decide) (((byt_leB _ _).append (byt_leB _ _)).append (byt_leB _ _))
  · rw [out2 (Or.inl e)]; exact byt_cons (by omega) (byt_leB _ _)
  · rw [out2 (Or.inr e)]; exact byt_cons (by omega) (byt_leB _ _)
  · rw [out4 e]; exact byt_cons (by decide) ((byt_leB _ _).append (byt_leB _ _))
  · rw [out5 e]; exact byt_cons (by decide) (byt_leB _ _)
/-- What is answered, by cases. -/
theorem getR_cases (xs : List Int) : ((getR xs).2 = 0 ∧ (getR xs).1 = rcOf xs ∧ (rcOf xs).May ∧ xs.length = sz (xs.headD 0) ∧ sz (xs.headD 0) ≠ 0) ∨ ((getR xs).1 = zRc ∧ (((getR xs).2 = 4 ∧ (xs.length = 0 ∨ xs.length < sz (xs.headD 0))) ∨ ((getR xs).2 = 160 ∧ xs.length ≠ 0 ∧ (sz (xs.headD 0) = 0 ∨ (sz (xs.headD 0) ≤ xs.length ∧ ¬ (rcOf xs).May))) ∨ ((getR xs).2 = 5 ∧ sz (xs.headD 0) ≠ 0 ∧ sz (xs.headD 0) < xs.length ∧ (rcOf xs).May))) := by
  unfold getR
  by_cases h0 : xs.length = 0
  · rw [if_pos h0]; exact Or.inr ⟨rfl, Or.inl ⟨rfl, Or.inl h0⟩⟩
  · rw [if_neg h0]
    by_cases h1 : sz (xs.headD 0) = 0
    · rw [if_pos h1]; exact Or.inr ⟨rfl, Or.inr (Or.inl ⟨rfl, h0, Or.inl h1⟩)⟩
    · rw [if_neg h1]
      by_cases h2 : xs.length < sz (xs.headD 0)
      · rw [if_pos h2]; exact Or.inr ⟨rfl, Or.inl ⟨rfl, Or.inr h2⟩⟩
      · rw [if_neg h2]
        by_cases h3 : (rcOf xs).May
        · rw [if_pos h3]
          by_cases h4 : sz (xs.headD 0) < xs.length
          · rw [if_pos h4]; exact Or.inr ⟨rfl, Or.inr (Or.inr ⟨rfl, h1, h4, h3⟩)⟩
          · rw [if_neg h4]; exact Or.inl ⟨rfl, rfl, h3, by omega, h1⟩
        · rw [if_neg h3]; exact Or.inr ⟨rfl, Or.inr (Or.inl ⟨rfl, h0, Or.inr ⟨by omega, h3⟩⟩)⟩
theorem i64of_range {n : Int} (h0 : 0 ≤ n) (h1 : n < 18446744073709551616) : -9223372036854775808 ≤ i64of n ∧ i64of n ≤ 9223372036854775807 := by
  unfold i64of; split <;> omega
theorem val4 {xs : List Int} (h : Byt xs) (n : Nat) : 0 ≤ leV ((xs.drop n).take 4) ∧ leV ((xs.drop n).take 4) < 4294967296 := by
  obtain ⟨a, b⟩ := leV_bound _ ((h.drop n).take 4)
  refine ⟨a, Int.lt_of_lt_of_le b ?_⟩
  have : ((xs.drop n).take 4).length ≤ 4 := by rw [List.length_take]; omega
  generalize ((xs.drop n).take 4).length = m at *
  have h5 : m = 0 ∨ m = 1 ∨ m = 2 ∨ m = 3 ∨ m = 4 := by omega
  rcases h5 with rfl | rfl | rfl | rfl | rfl <;> decide
theorem val2 {xs : List Int} (h : Byt xs) (n : Nat) : 0 ≤ leV ((xs.drop n).take 2) ∧ leV ((xs.drop n).take 2) < 65536 := by
  obtain ⟨a, b⟩ := leV_bound _ ((h.drop n).take 2)
  refine ⟨a, Int.lt_of_lt_of_le b ?_⟩
  have : ((xs.drop n).take 2).length ≤ 2 := by rw [List.length_take]; omega
  generalize ((xs.drop n).take 2).length = m at *
  have h5 : m = 0 ∨ m = 1 ∨ m = 2 := by omega
  rcases h5 with rfl | rfl | rfl <;> decide
theorem val8 {xs : List Int} (h : Byt xs) (n : Nat) : 0 ≤ leV ((xs.drop n).take 8) ∧ leV ((xs.drop n).take 8) < 18446744073709551616 := by
  obtain ⟨a, b⟩ := leV_bound _ ((h.drop n).take 8)
  refine ⟨a, Int.lt_of_lt_of_le b ?_⟩
  have : ((xs.drop n).take 8).length ≤ 8 := by rw [List.length_take]; omega
  generalize ((xs.drop n).take 8).length = m at *
  have h5 : m = 0 ∨ m = 1 ∨ m = 2 ∨ m = 3 ∨ m = 4 ∨ m = 5 ∨ m = 6 ∨ m = 7 ∨ m = 8 := by omega
  rcases h5 with rfl | rfl | rfl | rfl | rfl | rfl | rfl | rfl | rfl <;> decide
theorem head_byt {xs : List Int} (h : Byt xs) : 0 ≤ xs.headD 0 ∧ xs.headD 0 < 256 := by
  cases xs with
  | nil => exact ⟨by decide, by decide⟩
  | cons x r => exact h x (List.mem_cons_self ..)
theorem rcOf_ok {xs : List Int} (h : Byt xs) : (rcOf xs).Ok := by
  have a := val4 h 1
  have b := val2 h 5
  have c := i64of_range (val8 h 7).1 (val8 h 7).2
  have d := i64of_range (val8 h 1).1 (val8 h 1).2
  have e := head_byt h
  unfold rcOf
  split
  · exact ⟨by dsimp only; omega, by dsimp only; omega, a.1, a.2, by dsimp only; omega, by dsimp only; omega, c.1, c.2, by dsimp only; omega, by dsimp only; omega⟩
  · split
    · exact ⟨by dsimp only; omega, by dsimp only; omega, a.1, a.2, by dsimp only; omega, by dsimp only; omega, by dsimp only; omega, by dsimp only; omega, by dsimp only; omega, by dsimp only; omega⟩
    · split
      · exact ⟨by dsimp only; omega, by dsimp only; omega, by dsimp only; omega, by dsimp only; omega, by dsimp only; omega, by dsimp only; omega, by dsimp only; omega, by dsimp only; omega, d.1, d.2⟩
      · exact ⟨by dsimp only; omega, by dsimp only; omega, a.1, a.2, by dsimp only; omega, by dsimp only; omega, by dsimp only; omega, by dsimp only; omega, by dsimp only; omega, by dsimp only; omega⟩
/-- More behind does not turn what is read. -/
theorem rcOf_append (xs ys : List Int) (hl : sz (xs.headD 0) ≤ xs.length) (h0 : sz (xs.headD 0) ≠ 0) : rcOf (xs ++ ys) = rcOf xs := by
  have hk := sz_kind h0
  have hh : (xs ++ ys).headD 0 = xs.headD 0 := by
    cases xs with
    | nil => exfalso; rw [List.length_nil] at hl; omega
    | cons x r => rfl
  have tk : ∀ n m, n + m ≤ xs.length → ((xs ++ ys).drop n).take m = (xs.drop n).take m := by
    intro n m hnm
    rw [List.drop_append_of_le_length (by omega), List.take_append_of_le_length (by rw [List.length_drop]; omega)]
  unfold rcOf
  rw [hh]
  rcases hk with e | e | e | e | e
  · rw [e] at hl; have hl : 15 ≤ xs.length := hl
    rw [if_pos e, if_pos e, tk 1 4 (by omega), tk 5 2 (by omega), tk 7 8 (by omega)]
  · rw [e] at hl; have hl : 5 ≤ xs.length := hl
    rw [if_neg (by omega), if_neg (by omega), if_neg (by omega), if_neg (by omega), if_neg (by omega), if_neg (by omega), tk 1 4 (by omega)]
  · rw [e] at hl; have hl : 5 ≤ xs.length := hl
    rw [if_neg (by omega), if_neg (by omega), if_neg (by omega), if_neg (by omega), if_neg (by omega), if_neg (by omega), tk 1 4 (by omega)]
  · rw [e] at hl; have hl : 7 ≤ xs.length := hl
    rw [if_neg (by omega), if_pos e, if_neg (by omega), if_pos e, tk 1 4 (by omega), tk 5 2 (by omega)]
  · rw [e] at hl; have hl : 9 ≤ xs.length := hl
    rw [if_neg (by omega), if_neg (by omega), if_pos e, if_neg (by omega), if_neg (by omega), if_pos e, tk 1 8 (by omega)]
end Go.Proofs.YtinkkocleognbaaGreatDoor
/- What a Writer, a Reader and rows of bytes are in memory, and which steps keep them: plain lemmas, without the program. -/
namespace Go.Proofs.YtinkkocleognbaaGreatDoor.Oc
open Go.RowKit

theorem hide {p : Prop} (h : p) : Hid p := h

/-- xs lies, byte by byte, where ao leads. -/
def At (w : World) (ao : Option Addr) (xs : List Int) : Prop := ∀ j u, xs[j]? = some u → ∃ a, ao = some a ∧ w.cell? (a.add j) = some (.int .u8 u)
/-- A slice's address behind '[n:]'. -/
def cutA (ao : Option Addr) (n cap : Nat) : Option Addr := if cap = n then ao else ao.map (fun x => x.add n)
/-- The slice does not lie in block g. -/
def Off (ao : Option Addr) (g : Nat) : Prop := ∀ a, ao = some a → a.block ≠ g

theorem Off.cut {ao : Option Addr} {g : Nat} (h : Off ao g) (n cap : Nat) : Off (cutA ao n cap) g := by
  intro a ha
  unfold cutA at ha
  split at ha
  · exact h a ha
  · cases ao with
    | none => simp at ha
    | some x =>
      simp at ha
      have := h x rfl
      rw [← ha]; unfold Addr.add; split <;> simp_all

theorem At.nil (w : World) (ao : Option Addr) : At w ao [] := fun j u h => by simp at h

theorem addr_add_block (a : Addr) (j : Nat) : (a.add j).block = a.block := by unfold Addr.add; split <;> rfl

theorem At.cut {w : World} {ao : Option Addr} {xs : List Int} (h : At w ao xs) (n cap : Nat) (hc : xs.length ≤ cap) : At w (cutA ao n cap) (xs.drop n) := by
  intro j u hu
  rw [List.getElem?_drop] at hu
  obtain ⟨a, ha, hcell⟩ := h _ _ hu
  unfold cutA
  split
  · rename_i e
    have := (List.getElem?_eq_some_iff.1 hu).1
    omega
  · refine ⟨a.add n, by simp [ha], ?_⟩
    rw [Addr.add_add]; exact hcell

theorem At.take {w : World} {ao : Option Addr} {xs : List Int} (h : At w ao xs) (n : Nat) : At w ao (xs.take n) := by
  intro j u hu
  rw [List.getElem?_take] at hu
  split at hu
  · exact h j u hu
  · cases hu

theorem At.kept {w w' : World} {ao : Option Addr} {xs : List Int} {row : Option Nat} (h : At w ao xs) (hg : w.grownBy w' row) (hr : ∀ a, ao = some a → some a.block ≠ row) : At w' ao xs := by
  intro j u hu
  obtain ⟨a, ha, hcell⟩ := h j u hu
  exact ⟨a, ha, hg.cell hcell (by rw [addr_add_block]; exact hr a ha)⟩

theorem Off.ne {ao : Option Addr} {g : Nat} (h : Off ao g) : ∀ a, ao = some a → some a.block ≠ some g := fun a ha e => h a ha (by simpa using e)

/-- Two steps, one behind the other. -/
theorem grown_then {a b c : World} {row row' : Option Nat} (h : a.grownBy b row) (k : b.grownBy c row') (hr : ∀ j, row' = some j → a.heap.size ≤ j ∨ row = some j) : a.grownBy c row :=
  ⟨k.os.trans h.os, k.tape.trans h.tape, k.output.trans h.output, Nat.le_trans h.size k.size, fun i hi hne =>
    (k.block i (Nat.lt_of_lt_of_le hi h.size) (fun e => by
      rcases hr i e.symm with h1 | h1
      · omega
      · exact hne h1.symm)).trans (h.block i hi hne)⟩
theorem grown_trans {a b c : World} {row : Option Nat} (h : a.grownBy b row) (k : b.grownBy c row) : a.grownBy c row := grown_then h k (fun _ e => Or.inr e)
theorem grown_refl (w : World) (row : Option Nat) : w.grownBy w row := ⟨rfl, rfl, rfl, Nat.le_refl _, fun _ _ _ => rfl⟩
theorem grown_drew (w : World) (row : Option Nat) : w.grownBy w.drew row := ⟨rfl, rfl, rfl, Nat.le_refl _, fun _ _ _ => rfl⟩
theorem grown_none {a b : World} (h : a.grownBy b none) (row : Option Nat) : a.grownBy b row := grown_then (grown_refl a row) h (fun _ e => by cases e)
theorem grown_setCell (w : World) (g j : Nat) (u : Value) : w.grownBy (w.setCell ⟨g, j, none⟩ u) (some g) :=
  ⟨rfl, rfl, rfl, by simp [World.setCell], fun k _ hne => Below.heap_setCell _ _ _ _ (by intro e; exact hne (by simp [e]))⟩
theorem grown_setRow (w : World) (g : Nat) (cs : Array Value) : w.grownBy (w.setRow g cs) (some g) :=
  ⟨rfl, rfl, rfl, by simp [World.setRow], fun k _ hne => setRow_other w g k cs (by intro e; exact hne (by simp [e]))⟩

/-- copy as one step of a region that draws its order: the row behind it, and that no other block has turned. -/
theorem step_copy_grown {P : Program} {ops : Array Oper} {o : Oper} {a : Act} {w : World} {K : Act → World → Prop} {Q : Exit → Act → World → Prop} {E : Prop} (hgd : o.guard = none) (d s : Operand) (dT sT : TypeId)
    (ho : o.op = .call { callee := .builtin .copy, args := #[d, s], argTypes := #[dT, sT] }) (elem : TypeId) (hu : P.underlying dT = some (.slice elem)) (hsz : (P.info? elem).map (·.size) = some 1)
    (dp sp : Option Addr) (dLen dCap sLen sCap : Nat) (hd : a.eval d = .slice dp dLen dCap) (hs : a.eval s = .slice sp sLen sCap)
    (g off : Nat) (cur : List Value) (t : TypeId) (hg : w.heap[g]? = some (.cells cur.toArray t (0, 0))) (cs : List Value) (hn : cs.length = Nat.min sLen dLen)
    (hpos : 0 < cs.length → dp = some ⟨g, off, none⟩ ∧ ∃ ad, sp = some ad ∧ ∀ j v, cs[j]? = some v → w.cell? (ad.add j) = some v)
    (hfit : off + cs.length ≤ cur.length) (h1 : ∀ v ∈ cs, v.oneCell' = true)
    (h : ∀ w', Hid (w'.heap[g]? = some (.cells (splice cur off cs).toArray t (0, 0))) → w.grownBy w' (some g) → K (a.put o.dst (goInt cs.length)) w') :
    if Region.wanted o (yielded ops a.tmps) = true then Oper.wp P o a w K Q else E := by
  have hw : Region.wanted o (yielded ops a.tmps) = true := by simp [Region.wanted, hgd]
  rw [if_pos hw]
  by_cases h0 : cs.length = 0
  · obtain rfl : cs = [] := List.eq_nil_of_length_eq_zero h0
    have hrun := run_copy_none (P := P) w dT sT o.type elem dp sp dLen dCap sLen sCap hu hsz (by simpa using hn.symm)
    unfold Oper.wp
    simp [execOp, ho, resolve, invoke, builtin, hd, hs, hrun, Result.andThen]
    exact h w (show _ = _ by simpa [splice] using hg) (grown_refl w _)
  · obtain ⟨rfl, ad, rfl, hsrc⟩ := hpos (by omega)
    have hrun := run_copy_row (P := P) w dT sT o.type elem g off dLen dCap ad sLen sCap cur.toArray t cs hu hsz hg hn hsrc (by simpa using hfit) h1
    unfold Oper.wp
    simp [execOp, ho, resolve, invoke, builtin, hd, hs, hrun, Result.andThen]
    exact h _ (show _ = _ by simpa [splice] using setRow_heap w g _ _ t _ hg) (grown_setRow w g _)

/-- What lies in n cells from offset o of block b on; that they are there; an address' block and offset. -/
def rangeOf (w : World) (b o n : Nat) : List Value := (List.range n).map fun j => (w.cell? ⟨b, o + j, none⟩).getD undef
def rangeOk (w : World) (b o n : Nat) : Prop := ∀ j, j < n → (w.cell? ⟨b, o + j, none⟩).isSome = true
def blkOf : Value → Nat | .pointer (some a) => a.block | _ => 0
def offOf : Value → Nat | .pointer (some a) => a.off | _ => 0
def isPtr : Value → Bool | .pointer (some ⟨_, _, none⟩) => true | _ => false
theorem blkOf_ptr (b o : Nat) : blkOf (.pointer (some ⟨b, o, none⟩)) = b := rfl
theorem offOf_ptr (b o : Nat) : offOf (.pointer (some ⟨b, o, none⟩)) = o := rfl
theorem isPtr_ptr (b o : Nat) : isPtr (.pointer (some ⟨b, o, none⟩)) = true := rfl
theorem ptr_of {v : Value} (h : isPtr v = true) : v = .pointer (some ⟨blkOf v, offOf v, none⟩) := by
  unfold isPtr at h; split at h
  · rfl
  · cases h
theorem rangeOk.at {w : World} {b o n : Nat} (h : rangeOk w b o n) : w.rangeAt b o (rangeOf w b o n) := by
  intro j v hv
  unfold rangeOf at hv
  rw [List.getElem?_map] at hv
  cases hj : (List.range n)[j]? with
  | none => simp [hj] at hv
  | some k =>
    have hk := List.getElem?_eq_some_iff.1 hj
    obtain ⟨hlt, he⟩ := hk
    simp at he hlt
    subst he
    simp [hj] at hv
    have := h j hlt
    cases hc : w.cell? ⟨b, o + j, none⟩ with
    | none => simp [hc] at this
    | some x => simp [hc] at hv; rw [hv]
theorem rangeOf_length (w : World) (b o n : Nat) : (rangeOf w b o n).length = n := by simp [rangeOf]
theorem rangeOf_eq {w : World} {b o n : Nat} {l : List Value} (h : w.rangeAt b o l) (hl : l.length = n) : rangeOf w b o n = l := by
  apply List.ext_getElem?
  intro j
  unfold rangeOf
  rw [List.getElem?_map]
  by_cases hj : j < n
  · have hjl : j < l.length := by omega
    rw [List.getElem?_eq_getElem hjl, List.getElem?_range hj]
    simp [h j _ (List.getElem?_eq_getElem hjl)]
  · rw [List.getElem?_eq_none (by simp; omega), List.getElem?_eq_none (by omega)]; rfl
theorem rangeOk_of {w : World} {b o n : Nat} {l : List Value} (h : w.rangeAt b o l) (hl : l.length = n) : rangeOk w b o n := by
  intro j hj
  have hjl : j < l.length := by omega
  rw [h j _ (List.getElem?_eq_getElem hjl)]; rfl
/-- A load of a long array, as an equation. -/
theorem wp_load_range {P : Program} {op : Oper} {a : Act} {w : World} {K : Act → World → Prop} {Q : Exit → Act → World → Prop} (ty : TypeId) (x : Operand) (ho : op.op = .load ty x) (d : TypeDesc) (n : Nat)
    (hu : P.underlying ty = some d) (hd : d.isRow = true) (hi : (P.info? ty).map (·.size) = some n) (hx : isPtr (a.eval x) = true) (hr : rangeOk w (blkOf (a.eval x)) (offOf (a.eval x)) n) :
    op.wp P a w K Q = K (a.put op.dst (.agg (rangeOf w (blkOf (a.eval x)) (offOf (a.eval x)) n).toArray)) w := by
  unfold Oper.wp execOp
  rw [ho]
  have hp := ptr_of hx
  have hl := run_loadVar_mid (P := P) w (blkOf (a.eval x)) (offOf (a.eval x)) ty _ d hr.at hu hd (by rw [rangeOf_length]; exact hi)
  simp only [Instr.loadAt]
  rw [hp]
  simp only [Instr.sureAddr, Sem.run_bind, Sem.run_pure, Result.andThen_ok, blkOf_ptr, offOf_ptr, hl]
  rfl

/-- The cells of a Writer: what is sealed, the open bytes, the length. -/
def wrow (v : Value) (op : List Int) (L : Nat) : List Value := v :: (op.map (Value.int .u8) ++ [.int .i64 (L : Int)])
theorem wrow_length (v : Value) (op : List Int) (L : Nat) : (wrow v op L).length = op.length + 2 := by simp [wrow]
theorem wrow_zero (v : Value) (op : List Int) (L : Nat) : (wrow v op L)[0]? = some v := rfl
theorem wrow_last (v : Value) (op : List Int) (L : Nat) (h : op.length = 64) : (wrow v op L)[65]? = some (.int .i64 (L : Int)) := by
  simp [wrow, h]
theorem wrow_open (v : Value) (op : List Int) (L j : Nat) (h : j < op.length) : (wrow v op L)[1 + j]? = some (.int .u8 op[j]) := by
  rw [Nat.add_comm]; simp [wrow, List.getElem?_append, h]
theorem wrow_set_last (v : Value) (op : List Int) (L M : Nat) (h : op.length = 64) : (wrow v op L).set 65 (.int .i64 (M : Int)) = wrow v op M := by
  simp [wrow, h]
theorem wrow_set_zero (v v' : Value) (op : List Int) (L : Nat) : (wrow v op L).set 0 v' = wrow v' op L := rfl
theorem wrow_splice (v : Value) (op xs : List Int) (L r : Nat) (h : r + xs.length ≤ op.length) : splice (wrow v op L) (1 + r) (xs.map (Value.int .u8)) = wrow v (splice op r xs) L := by
  have e0 : 1 + r = r + 1 := by omega
  have e : r + 1 + xs.length = (r + xs.length) + 1 := by omega
  have h2 : r + xs.length - op.length = 0 := by omega
  have h3 : r - op.length = 0 := by omega
  simp only [splice, wrow, List.length_map, e0, e]
  simp [List.take_append, List.drop_append, h2, h3]

theorem cell_row {w : World} {g : Nat} {l : List Value} {t : TypeId} {fr : Nat × Nat} (h : w.heap[g]? = some (.cells l.toArray t fr)) (j : Nat) : w.cell? ⟨g, j, none⟩ = l[j]? := by
  rw [cell_of_row w g j l.toArray t fr h]; simp
theorem free_row {w : World} {g : Nat} {c : Array Value} {t : TypeId} (h : w.heap[g]? = some (.cells c t (0, 0))) (j : Nat) : w.frozen? ⟨g, j, none⟩ = false := by
  simp [World.frozen?, h]
theorem row_setCell {w : World} {g : Nat} {l : List Value} {t : TypeId} {fr : Nat × Nat} (h : w.heap[g]? = some (.cells l.toArray t fr)) (j : Nat) (u : Value) : (w.setCell ⟨g, j, none⟩ u).heap[g]? = some (.cells (l.set j u).toArray t fr) := by
  simp [World.setCell, Array.getElem?_modify, h]
theorem row_lt {w : World} {g : Nat} {o : Obj} (h : w.heap[g]? = some o) : g < w.heap.size := (Array.getElem?_eq_some_iff.1 h).1

theorem fold_set (l : List Value) : ∀ (k : Nat) (A : Array Value), 1 + k + l.length ≤ A.size →
    (List.foldl (fun (cs : Array Value) (x : Value × Nat) => cs.setIfInBounds (1 + x.snd) x.fst) A (l.zipIdx k)).toList = A.toList.take (1 + k) ++ l ++ A.toList.drop (1 + k + l.length) := by
  induction l with
  | nil => intro k A _; simp
  | cons y l ih =>
    intro k A h
    simp only [List.length_cons] at h
    rw [List.zipIdx_cons, List.foldl_cons, ih (k + 1) _ (by simp; omega)]
    have hk : 1 + k < A.toList.length := by simp; omega
    have e1 : (A.setIfInBounds (1 + k) y).toList = A.toList.set (1 + k) y := by simp
    have e2 : 1 + (k + 1) = 1 + k + 1 := by omega
    have e3 : 1 + k + 1 + l.length = 1 + k + (l.length + 1) := by omega
    rw [e1, e2, List.take_succ_eq_append_getElem (by simpa using hk), List.length_cons, e3]
    simp [List.take_set_of_le, List.drop_set]

theorem fold_block (z : Array Value) (p : Value) (l : List Value) (hz : z.size = 65) (hl : l.length = 64) :
    List.foldl (fun (cs : Array Value) (x : Value × Nat) => cs.setIfInBounds (1 + x.snd) x.fst) (z.setIfInBounds 0 p) l.zipIdx = (p :: l).toArray := by
  apply Array.ext'
  rw [show l.zipIdx = l.zipIdx 0 from rfl, fold_set l 0 _ (by simp; omega)]
  have h1 : z.toList.length = 65 := by simpa using hz
  obtain ⟨a, t, ht⟩ : ∃ a t, z.toList = a :: t := by
    cases h : z.toList with
    | nil => rw [h] at h1; cases h1
    | cons a t => exact ⟨a, t, rfl⟩
  have ht2 : t.length = 64 := by rw [ht] at h1; simpa using h1
  have e1 : (z.setIfInBounds 0 p).toList = p :: t := by simp [ht]
  rw [e1, hl]
  simp [ht2]

/-- The sealed blocks, the newest first. -/
def Chain (w : World) : Value → List (List Int) → Prop
  | v, [] => v = .pointer none
  | v, c :: cs => ∃ g v', v = .pointer (some ⟨g, 0, none⟩) ∧ w.heap[g]? = some (.cells (v' :: c.map (Value.int .u8)).toArray 186 (0, 0)) ∧ c.length = 64 ∧ Chain w v' cs

/-- The row that may be written is no sealed block. -/
def NoBlock (w : World) (row : Option Nat) : Prop := ∀ k c fr, row = some k → w.heap[k]? ≠ some (.cells c 186 fr)

theorem Chain.kept {w w' : World} {row : Option Nat} (hg : w.grownBy w' row) (hr : NoBlock w row) : ∀ (cs : List (List Int)) (v : Value), Chain w v cs → Chain w' v cs
  | [], _, h => h
  | _ :: cs, _, ⟨g, v', hv, hb, hl, hc⟩ => ⟨g, v', hv, (hg.block g (row_lt hb) (fun e => hr g _ _ e.symm hb)).trans hb, hl, Chain.kept hg hr cs v' hc⟩

theorem Chain.ptr {w : World} {v : Value} {cs : List (List Int)} (h : Chain w v cs) : ∃ u, v = .pointer u := by
  cases cs with
  | nil => exact ⟨_, h⟩
  | cons c cs => obtain ⟨g, v', hv, _⟩ := h; exact ⟨_, hv⟩

theorem NoBlock.none (w : World) : NoBlock w none := fun _ _ _ e => by cases e
theorem NoBlock.of {w : World} {g : Nat} {c : Array Value} {t : TypeId} {fr : Nat × Nat} (h : w.heap[g]? = some (.cells c t fr)) (ht : t ≠ 186) : NoBlock w (some g) := by
  intro k c' fr' e h'
  cases e
  rw [h] at h'
  simp at h'
  exact ht h'.2.1

/-- The Writer at the head of block g holds the bytes bs. -/
def WrAt (w : World) (g : Nat) (bs : List Int) : Prop :=
  ∃ v cs op, w.heap[g]? = some (.cells (wrow v op bs.length).toArray 143 (0, 0)) ∧ op.length = 64 ∧ Chain w v cs ∧ bs = cs.reverse.flatten ++ op.take (bs.length % 64)

theorem WrAt.kept {w w' : World} {g : Nat} {bs : List Int} {row : Option Nat} (h : WrAt w g bs) (hg : w.grownBy w' row) (hne : row ≠ some g) (hr : NoBlock w row) : WrAt w' g bs := by
  obtain ⟨v, cs, op, hb, hl, hc, he⟩ := h
  exact ⟨v, cs, op, (hg.block g (row_lt hb) (fun e => hne e.symm)).trans hb, hl, Chain.kept hg hr cs v hc, he⟩
theorem WrAt.lt {w : World} {g : Nat} {bs : List Int} (h : WrAt w g bs) : g < w.heap.size := by obtain ⟨v, cs, op, hb, _⟩ := h; exact row_lt hb
theorem take_splice {α : Type} (op X : List α) (r : Nat) (h : r + X.length ≤ op.length) : (splice op r X).take (r + X.length) = op.take r ++ X := by
  have hr : (op.take r).length = r := by simp; omega
  rw [splice, ← List.append_assoc, List.take_append_of_le_length (by simp; omega)]
  exact List.take_of_length_le (by simp; omega)

/-- A round that leaves the open block open. -/
theorem wr_more {w' : World} {g M : Nat} {bs X op : List Int} {v : Value} {cs : List (List Int)} (hl : op.length = 64) (he : bs = cs.reverse.flatten ++ op.take (bs.length % 64)) (hc : Chain w' v cs)
    (hlt : bs.length % 64 + X.length < 64) (hb : w'.heap[g]? = some (.cells (wrow v (splice op (bs.length % 64) X) M).toArray 143 (0, 0))) (hM : M = bs.length + X.length) : WrAt w' g (bs ++ X) := by
  subst hM
  refine ⟨v, cs, splice op (bs.length % 64) X, by simpa using hb, by rw [length_splice _ _ _ (by omega)]; exact hl, hc, ?_⟩
  have e : (bs ++ X).length % 64 = bs.length % 64 + X.length := by simp; omega
  rw [e, take_splice _ _ _ (by omega), ← List.append_assoc, ← he]

/-- A round that seals it. -/
theorem wr_seal {w' : World} {g h M : Nat} {bs X op : List Int} {v : Value} {cs : List (List Int)} (hl : op.length = 64) (he : bs = cs.reverse.flatten ++ op.take (bs.length % 64)) (hc : Chain w' v cs)
    (hlt : bs.length % 64 + X.length = 64) (hb : w'.heap[g]? = some (.cells (wrow (.pointer (some ⟨h, 0, none⟩)) (splice op (bs.length % 64) X) M).toArray 143 (0, 0)))
    (hs : w'.heap[h]? = some (.cells (v :: (splice op (bs.length % 64) X).map (Value.int .u8)).toArray 186 (0, 0))) (hM : M = bs.length + X.length) : WrAt w' g (bs ++ X) := by
  subst hM
  have hl' : (splice op (bs.length % 64) X).length = 64 := by rw [length_splice _ _ _ (by omega)]; exact hl
  refine ⟨_, splice op (bs.length % 64) X :: cs, splice op (bs.length % 64) X, by simpa using hb, hl', ⟨h, v, rfl, hs, hl', hc⟩, ?_⟩
  have e : (bs ++ X).length % 64 = 0 := by simp; omega
  have e2 : splice op (bs.length % 64) X = op.take (bs.length % 64) ++ X := by
    rw [← take_splice _ _ _ (by omega)]
    exact (List.take_of_length_le (by rw [hl']; omega)).symm
  rw [e, e2]
  simp only [List.reverse_cons, List.flatten_append, List.flatten_cons, List.flatten_nil, List.take_zero, List.append_nil]
  rw [← List.append_assoc, ← he]

/-- A round's end: what is still to be put, what has been. -/
theorem round_end {w wr w4 : World} {g n m gk q cap cap' : Nat} {ao' : Option Addr} {xs ys bs bs' X : List Int} (hkm : gk + m = n) (hys : ys = xs.drop m) (hbs' : bs' = bs ++ xs.take m) (hX : X = ys.take q) (hq1 : q ≤ gk)
    (hyl : ys.length = gk) (hkc : gk ≤ cap') (hcc : cap' ≤ cap) (hat : At wr ao' ys) (ho : Off ao' g) (hgr : w.grownBy wr (some g)) (hg4 : wr.grownBy w4 (some g)) (hwr : WrAt w4 g (bs' ++ X)) :
    ∃ m' ao1 cap1, gk - q + m' = n ∧ Value.slice (cutA ao' q cap') (gk - q) (cap' - q) = Value.slice ao1 (gk - q) cap1 ∧ gk - q ≤ cap1 ∧ cap1 ≤ cap ∧ Off ao1 g ∧ At w4 ao1 (xs.drop m') ∧ WrAt w4 g (bs ++ xs.take m') ∧ w.grownBy w4 (some g) := by
  refine ⟨m + q, cutA ao' q cap', cap' - q, by omega, rfl, by omega, by omega, ho.cut q cap', ?_, ?_, grown_trans hgr hg4⟩
  · have h1 := (hat.kept hg4 ho.ne).cut q cap' (by omega)
    rw [hys, List.drop_drop] at h1
    exact h1
  · rw [hbs', hX, hys] at hwr
    rw [List.take_add, ← List.append_assoc]
    exact hwr

/-- The world behind a sealing: the new block lies there, the Writer leads to it. -/
theorem seal_world {w3 : World} {g s : Nat} {u : Option Addr} {op : List Int} {L : Nat} {F : Array Value} (h3 : w3.heap[g]? = some (.cells (wrow (.pointer u) op L).toArray 143 (0, 0))) (hs : w3.heap.size = s)
    (hF : F = (.pointer u :: op.map (Value.int .u8)).toArray) :
    (((w3.alloc (.cells F 186)).setCell ⟨g, 0, none⟩ (.pointer (some ⟨s, 0, none⟩))).drew).heap[g]? = some (.cells (wrow (.pointer (some ⟨s, 0, none⟩)) op L).toArray 143 (0, 0)) ∧
    (((w3.alloc (.cells F 186)).setCell ⟨g, 0, none⟩ (.pointer (some ⟨s, 0, none⟩))).drew).heap[s]? = some (.cells (.pointer u :: op.map (Value.int .u8)).toArray 186 (0, 0)) ∧
    w3.grownBy (((w3.alloc (.cells F 186)).setCell ⟨g, 0, none⟩ (.pointer (some ⟨s, 0, none⟩))).drew) (some g) := by
  have hlt := row_lt h3
  have h4 : (w3.alloc (.cells F 186)).heap[g]? = some (.cells (wrow (.pointer u) op L).toArray 143 (0, 0)) := (Below.heap_alloc _ _ _ hlt).trans h3
  refine ⟨?_, ?_, ?_⟩
  · have := row_setCell h4 0 (.pointer (some ⟨s, 0, none⟩))
    rw [wrow_set_zero] at this
    exact this
  · show ((w3.alloc (.cells F 186)).setCell ⟨g, 0, none⟩ (.pointer (some ⟨s, 0, none⟩))).heap[s]? = _
    rw [Below.heap_setCell _ _ _ _ (by simp; omega), ← hs, ← hF]
    exact heap_alloc_new w3 _
  · exact grown_trans (grown_trans (World.grownBy_alloc w3 _ _) (grown_setCell _ g 0 _)) (grown_drew _ _)

end Go.Proofs.YtinkkocleognbaaGreatDoor.Oc
