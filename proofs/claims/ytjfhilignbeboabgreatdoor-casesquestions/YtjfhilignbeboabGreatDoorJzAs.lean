/- Texts joined: Bo. -/
import Derived.Deep.CutRange
import Derived.Deep.DeepCutAuto
import Derived.Test.YtjfhilignbeboabGreatDoorJzAq
import Derived.Test.YtjfhilignbeboabGreatDoorJzAr
namespace Go.Proofs.YtjfhilignbeboabGreatDoor
/- The two books of a flight. -/
open Go.RowKit
attribute [local go_sem ↓] Go.wp_at_zero Go.wp_at_succ
attribute [local go_sem] Oper.semAt_some
theorem addr_add0 (a : Addr) : a.add 0 = a := by obtain ⟨b, o, m⟩ := a; cases m <;> simp [Addr.add]
theorem slice_to53 (ao : Option Addr) (i n cap : Nat) (hi : i ≤ cap) (w : World) : (Instr.slice 22 (.slice ao n cap) none (some (.int .i64 (i : Int))) none).run Tryz.prog w = .ok (.slice ao i cap) w := by
  simp [Instr.slice, run_underlying Tryz.underlying22, Instr.sliceBounds, Instr.sliceBound, asIntOf]
  rw [if_pos hi]
  cases ao with
  | none => simp
  | some a => simp [addr_add0]
theorem slice_60 (ao : Option Addr) (n cap : Nat) (hi : 60 ≤ cap) (w : World) : (Instr.slice 22 (.slice ao n cap) none (some (.int .i64 60)) none).run Tryz.prog w = .ok (.slice ao 60 cap) w := slice_to53 ao 60 n cap hi w
/-- The books of a flight: the program's at b, the document's at d, both as S says. -/
structure Bks (w W : World) (b d : Nat) (S : Sb) (p : Bp) (lo : Nat) (v : Value) : Prop where
  lk : Lk w W b S 4096 p []
  db : Db W lo d v S
  ok : S.Ok
  lo : w.heap.size ≤ lo
  ap : ∀ i, dbo d v i → ¬ p.own i
  sm : S.a ≤ 12
theorem cell_to {w w' : World} {g o : Nat} {v : Value} (h : w.cell? ⟨g, o, none⟩ = some v) (k : w.grownBy w' none) : w'.cell? ⟨g, o, none⟩ = some v := k.cell h (fun e => by cases e)
def BksP (w w' : World) (e : Ending) : Prop := ∃ b d S p lo v, e = .returned (.tuple #[.pointer (some ⟨b, 0, none⟩), .pointer (some ⟨d, 0, none⟩), .bool true]) ∧ Bks w w' b d S p lo v
theorem sa_le (x : Int) : sa x ≤ 12 := by unfold sa; omega
/-- What the loop holds. -/
structure Ap (w wr : World) (lo d : Nat) (v : Value) (S : Sb) (so : Option Addr) (h : List Rc) (B1 B6 : Nat) (c1 c6 : List Value) : Prop where
  db : Db wr lo d v S
  gr : w.grownBy wr none
  rc : RecsAt wr so h
  b1 : wr.heap[B1]? = some (.cells c1.toArray 25 (0, 0))
  b6 : wr.heap[B6]? = some (.cells c6.toArray 44 (0, 0))
  lo : w.heap.size ≤ lo
  n1 : ¬ dbo d v B1
  n6 : ¬ dbo d v B6
  nr : ∀ a, h.length ≠ 0 → so = some a → ¬ dbo d v a.block
theorem Ap.then {w wr wr' : World} {lo d : Nat} {v : Value} {S : Sb} {so : Option Addr} {h : List Rc} {B1 B6 : Nat} {c1 c6 : List Value} (a : Ap w wr lo d v S so h B1 B6 c1 c6) (g : wr.grownBy wr' none) : Ap w wr' lo d v S so h B1 B6 c1 c6 := ⟨a.db.then g, grown_trans a.gr g, a.rc.grown g, box_to a.b1 g, box_to a.b6 g, a.lo, a.n1, a.n6, a.nr⟩
theorem recs_kept {w w' : World} {X : Nat → Prop} {so : Option Addr} {h : List Rc} (r : RecsAt w so h) (k : Kept w w' X) (hX : ∀ a, h.length ≠ 0 → so = some a → ¬ X a.block) : RecsAt w' so h := by
  intro j r' hj
  obtain ⟨blk, off, he, h0, h1, h2, h3, h4⟩ := r j r' hj
  have hl : h.length ≠ 0 := by have := (List.getElem?_eq_some_iff.1 hj).1; omega
  have hn := hX _ hl he
  exact ⟨blk, off, he, k.cell hn h0, k.cell hn h1, k.cell hn h2, k.cell hn h3, k.cell hn h4⟩
theorem Ap.step {w wr wr' : World} {lo d : Nat} {v v' : Value} {S S' : Sb} {so : Option Addr} {h : List Rc} {B1 B6 : Nat} {c1 c6 : List Value} (a : Ap w wr lo d v S so h B1 B6 c1 c6) (hd : Db wr' lo d v' S') (k : Dst wr wr' d v v') : Ap w wr' lo d v' S' so h B1 B6 c1 c6 := by
  have hlo := a.lo
  have off : ∀ x, x < wr.heap.size → ¬ dbo d v x → ¬ dbo d v' x := fun x hx hn e => by
    rcases e with e | e
    · exact hn (.inl e)
    · rcases k.own x e with e | e
      · exact hn (.inr e)
      · omega
  refine ⟨hd, ?_, recs_kept a.rc k.kept a.nr, k.kept.at a.b1 a.n1, k.kept.at a.b6 a.n6, a.lo, off _ (row_lt a.b1) a.n1, off _ (row_lt a.b6) a.n6, fun x hl hx => off _ ?_ (a.nr x hl hx)⟩
  · exact ((Kept.new a.gr (fun i => w.heap.size ≤ i)).trans k.kept (fun i _ e => by have := a.db.lows i e; omega)).grown (fun i hi e => by omega)
  · obtain ⟨r, hr⟩ : ∃ r, h[0]? = some r := ⟨h[0]'(by omega), List.getElem?_eq_getElem (by omega)⟩
    obtain ⟨blk, off, he, h0, -⟩ := a.rc 0 r hr
    rw [hx] at he
    cases he
    unfold World.cell? at h0
    cases hq : wr.heap[blk]? with
    | none => simp [hq] at h0
    | some o => exact row_lt hq
set_option maxRecDepth 20000 in
set_option maxHeartbeats 8000000 in
theorem books_any {w : World} (x : Int) {ao : Option Addr} {cap : Nat} (l : List Cg) (nx ck : Int) (hcap : l.length ≤ cap) (hC : CgsAt w ao l) (hn0 : 0 ≤ nx) (hn1 : nx < 4294967296) (hc0 : -9223372036854775808 ≤ ck) (hc1 : ck ≤ 9223372036854775807) : Calls Tryz.prog 4 #[.agg #[.int .i64 x, .slice ao l.length cap, .int .u32 nx, .int .i64 ck]] w fun e w' => BksP w w' e := by
  have g0 := grown_alloc w (.cells [Value.int .i64 x, .slice ao l.length cap, .int .u32 nx, .int .i64 ck].toArray 25)
  have HB0 := hide (heap_alloc_new w (.cells [Value.int .i64 x, .slice ao l.length cap, .int .u32 nx, .int .i64 ck].toArray 25))
  have HG0 := hide g0
  have HC0 := hide (hC.grown g0)
  have HSh := hide (fun W => mshape_any x W)
  have HNw := hide (fun W => dnew_any (s_ok x) W)
  have hok : Hid (Gx.OkS (sa x) (sb x) (sc x)) := s_ok x
  have HHi : Hid (∀ W (l' : List Cg), l'.length ≤ 60 → CgsAt W ao l' → Calls Tryz.prog 11 #[limV (sa x) (sb x) (sc x), .slice ao l'.length cap, .bool false] W fun e w' => ∃ so c2, e = .returned (.slice so (hist false (nS (sa x) (sb x) (sc x)) l').length c2) ∧ w'.ownsRow W.heap.size 56 5 (.slice so (hist false (nS (sa x) (sb x) (sc x)) l').length c2) (hist false (nS (sa x) (sb x) (sc x)) l').length (rcs (hist false (nS (sa x) (sb x) (sc x)) l')) ∧ W.grownBy w' none) := fun W l' h1 h2 => hist_any hok.out (by omega) h2 false
  have HNm := hide (And.intro (And.intro hn0 hn1) (And.intro hc0 hc1))
  have HCp := hide hcap
  have hs60 := fun (h : 60 ≤ cap) => slice_60 ao l.length cap h
  have HS60 := hide hs60
  clear g0 hC hn0 hn1 hc0 hc1 hs60
  obtain ⟨c0, c1, c2, c3⟩ := Rk.box4 HB0.out
  unfold limV at *
  obtain ⟨l5, hl5⟩ : ∃ l5, l5 = l.take 60 := ⟨_, rfl⟩
  have HL5 : Hid (l5.length ≤ 60 ∧ CgsAt (w.alloc (.cells [Value.int .i64 x, .slice ao l.length cap, .int .u32 nx, .int .i64 ck].toArray 25)) ao l5) := ⟨by rw [hl5, List.length_take]; omega, by rw [hl5]; exact HC0.out.take 60⟩
  have HN5 : Hid ((60 < l.length → l5.length = 60) ∧ (¬ 60 < l.length → l5.length = l.length)) := ⟨fun h => by rw [hl5, List.length_take]; omega, fun h => by rw [hl5, List.length_take]; omega⟩
  clear hl5 HC0
  go_enter Tryz.func4, Tryz.ntmps4
  go_upto_if 18 with fail
  generalize World.alloc w _ = w1 at *
  go_cut [5] from 19 to 20 (fun s5 wx => s5 = .slice ao l5.length cap ∧ wx = w1)
  case first =>
    by_cases hl : (60 : Int) < (l.length : Int)
    · have h60 : 60 ≤ cap := by have := HCp.out; omega
      have hsl := HS60.out h60
      have HV := hide (HN5.out.1 (by omega))
      have hlN : 60 < l.length := by omega
      have f1 : decide ((60 : Int) < (l.length : Int)) = true := decide_eq_true hl
      have f2 : decide (60 < l.length) = true := decide_eq_true hlN
      clear HN5 HL5 HHi
      go_wp2_with fail
      go_meet
      case rel => exact ⟨by rw [HV.out] <;> rfl, rfl⟩
    · have hl2 : (l.length : Int) ≤ 60 := by omega
      have HV := hide (HN5.out.2 (by omega))
      have hlN : l.length ≤ 60 := by omega
      have f1 : decide ((60 : Int) < (l.length : Int)) = false := decide_eq_false hl
      have f2 : decide (60 < l.length) = false := decide_eq_false (by omega)
      clear hl
      clear HN5 HL5 HHi
      go_wp2_with fail
      go_meet
      case rel => exact ⟨by rw [HV.out] <;> rfl, rfl⟩
  case rest =>
  obtain ⟨rfl, rfl⟩ := hcut
  clear HS60 HN5 HCp hcap
  go_wp2_with fail
  refine (HSh.out _).mono ?_
  rintro e w2 ⟨rfl, hg2⟩
  have G3 := hide (grown_trans hg2 (grown_alloc w2 (.cells [Value.int .i64 ((sa x : Nat) : Int), .int .i64 ((sb x : Nat) : Int), .int .i64 ((sc x : Nat) : Int)].toArray 44)))
  have HB6 := hide (heap_alloc_new w2 (.cells [Value.int .i64 ((sa x : Nat) : Int), .int .i64 ((sb x : Nat) : Int), .int .i64 ((sc x : Nat) : Int)].toArray 44))
  clear hg2 HSh c0 c1 c2 c3
  obtain ⟨s0, s1, s2, -⟩ := box3 HB6.out
  go_wp2_with fail
  generalize hB6 : w2.heap.size = B6 at *
  clear hB6
  generalize World.alloc w2 _ = w3 at *
  refine (HNw.out _).mono ?_
  rintro e w4 ⟨d, rfl, hd4, hg4⟩
  clear s0 s1 s2
  have HB64 := hide (box_to HB6.out hg4)
  have HD4 := hide hd4
  have HL4 : Hid (w3.heap.size ≤ d) := hd4.ge
  have G4 := hide (grown_trans G3.out hg4)
  obtain ⟨s0, s1, s2, -⟩ := box3 HB64.out
  go_wp2_with fail
  refine (HHi.out _ l5 HL5.out.1 (HL5.out.2.grown G4.out)).mono ?_
  rintro e w5 ⟨so, ch, rfl, hR5, hg5⟩
  obtain ⟨S0, hS0⟩ : ∃ S0, S0 = nS (sa x) (sb x) (sc x) := ⟨_, rfl⟩
  have HO0 : Hid S0.Ok := by rw [Hid, hS0]; exact nS_ok hok.out
  have HT0 : Hid (S0.t = 0 ∧ S0.a = sa x ∧ S0.b = sb x ∧ S0.c = sc x) := by rw [Hid, hS0]; exact ⟨rfl, rfl, rfl, rfl⟩
  rw [← hS0] at hR5
  rw [← hS0] at HD4
  rw [← hS0]
  clear hS0 hd4
  obtain ⟨h, hh⟩ : ∃ h, h = hist false S0 l5 := ⟨_, rfl⟩
  have HMm : Hid (∀ r ∈ h, r.May ∧ r.Ok) := by
    rw [Hid, hh]
    exact hist_mem HO0.out (by have h1 := HT0.out.1; have h2 := HL5.out.1; rw [h1]; unfold mxC; omega)
  have HLh : Hid (h.length ≤ 60) := by rw [Hid, hh]; exact Nat.le_trans (hist_le _ _ _) HL5.out.1
  rw [← hh] at hR5
  rw [← hh]
  clear hh
  have hro := recs_own hR5
  have HA5 : Hid (Ap w w5 w3.heap.size d (.slice none 0 0) (fo S0 h 0) so h w.heap.size B6 [Value.int .i64 x, .slice ao l.length cap, .int .u32 nx, .int .i64 ck] [Value.int .i64 ((sa x : Nat) : Int), .int .i64 ((sb x : Nat) : Int), .int .i64 ((sc x : Nat) : Int)]) := by
    have e1 := row_lt HB6.out
    have e2 := row_lt (box_to HB0.out G3.out)
    have e3 := row_lt HD4.out.head
    have e4 := HL4.out
    refine ⟨HD4.out.then hg5, grown_trans HG0.out (grown_trans G4.out hg5), hro.1, box_to HB0.out (grown_trans G4.out hg5), box_to HB64.out hg5, (grown_trans HG0.out G3.out).size, ?_, ?_, fun a h1 h2 => ?_⟩
    · rintro (e | e)
      · omega
      · cases e
    · rintro (e | e)
      · omega
      · cases e
    · have := hro.2 a h1 h2
      rintro (e | e)
      · omega
      · cases e
  have HLo : Hid (w.heap.size ≤ w3.heap.size) := (grown_trans HG0.out G3.out).size
  clear hro hR5 hg5 hg4 G3 G4 HB0 HB6 HB64 HD4 HG0 HHi HNw HL5 s0 s1 s2 hok
  generalize w3.heap.size = lo at *
  generalize hB1 : w.heap.size = B1 at *
  go_wp2_with fail
  go_loopg [10] h.length (fun k q10 wr => ∃ (j : Nat) (v : Value), k + j = h.length ∧ q10 = .int .i64 (j : Int) ∧ Hid (Ap w wr lo d v (fo S0 h j) so h B1 B6 [Value.int .i64 x, .slice ao l.length cap, .int .u32 nx, .int .i64 ck] [Value.int .i64 ((sa x : Nat) : Int), .int .i64 ((sb x : Nat) : Int), .int .i64 ((sc x : Nat) : Int)]))
  case atStart => exact ⟨0, _, by omega, rfl, HA5.out⟩
  case round =>
    obtain ⟨j, v, hkj, rfl, HA⟩ := hrel
    clear HA5
    by_cases hk : 0 < gk
    · have hj : j < h.length := by omega
      have h1 : (j : Int) < (h.length : Int) := by omega
      have h0 : (0 : Int) ≤ (j : Int) := by omega
      obtain ⟨r, hr⟩ : ∃ r, h[j]? = some r := ⟨h[j], List.getElem?_eq_getElem hj⟩
      obtain ⟨blk, off, hso, e0, e1, e2, e3, e4⟩ := HA.out.rc j r hr
      have HAp := hide (dapply_any HA.out.db (fo_ok HO0.out h j) r (HMm.out r (List.mem_of_getElem? hr)).2)
      rw [← fo_succ hr] at HAp
      have hL' := HLh.out
      clear hr
      obtain ⟨rk, ri, rs, ru, rc⟩ := r
      unfold Rk.rcV at HAp
      simp only at *
      subst hso
      go_wp2_with fail
      refine HAp.out.mono ?_
      rintro e w6 ⟨v', rfl, hd6, hk6⟩
      have HN := hide (HA.out.step hd6 hk6)
      clear hd6 hk6 HAp e0 e1 e2 e3 e4 HA
      go_wp2
      go_roundg (gk - 1)
      case measure => omega
      case rel => exact ⟨j + 1, v', by omega, by go_num, HN.out⟩
    · have hjl : j = h.length := by omega
      subst hjl
      obtain ⟨S1, hS1⟩ : ∃ S1, S1 = fo S0 h h.length := ⟨_, rfl⟩
      have HO1 : Hid S1.Ok := by rw [Hid, hS1]; exact fo_ok HO0.out h h.length
      have HE1 : Hid (S1.a = sa x ∧ S1.b = sb x ∧ S1.c = sc x) := by
        have e := fo_abc S0 h h.length
        have t := HT0.out
        rw [Hid, hS1]
        exact ⟨e.1.trans t.2.1, e.2.1.trans t.2.2.1, e.2.2.trans t.2.2.2⟩
      rw [← hS1] at HA
      clear hS1 HO0 HT0 HMm HLh
      obtain ⟨N, hN, hN2⟩ : ∃ N : Nat, IntKind.u32.wrap ((S1.n : Int) + nx) = (N : Int) ∧ N < 4294967296 := ⟨(((S1.n : Int) + nx) % 4294967296).toNat, by rw [IntKind.wrap_u32]; omega, by omega⟩
      obtain ⟨T, hT⟩ : ∃ T, T = IntKind.i64.wrap (S1.t + ck) := ⟨_, rfl⟩
      have hT2 : Hid (T ≤ 9223372036854775807) := by rw [Hid, hT, IntKind.wrap_i64]; omega
      have hT3 := hT.symm
      clear hT
      obtain ⟨vo, vcap, rfl, -⟩ := HA.out.db.bga.ex
      obtain ⟨d0, d1, d2, d3, d4, d5, d6⟩ := bx7 HA.out.db.head
      obtain ⟨q0, q1, q2, q3⟩ := Rk.box4 HA.out.b1
      have AF := hide (HA.out.then (grown_alloc wr (.cells (dbc { S1 with n := N, t := T } (.slice vo S1.L.length vcap)).toArray 59)))
      have HF : Hid (Db (wr.alloc (.cells (dbc { S1 with n := N, t := T } (.slice vo S1.L.length vcap)).toArray 59)) lo wr.heap.size (.slice vo S1.L.length vcap) { S1 with n := N, t := T }) := ⟨heap_alloc_new wr _, AF.out.db.row, Nat.le_trans HA.out.db.ge (Nat.le_of_lt (row_lt HA.out.db.head))⟩
      have HSz : Hid (B1 ≠ wr.heap.size) := fun e => by have := row_lt HA.out.b1; omega
      have q2' := cell_to q2 (grown_alloc wr (.cells (dbc S1 (.slice vo S1.L.length vcap)).toArray 59))
      have q3' := cell_to q3 (grown_alloc wr (.cells (dbc { S1 with n := N } (.slice vo S1.L.length vcap)).toArray 59))
      clear HA
      unfold dbc at *
      go_upto_region 14 with fail
      generalize hF : wr.heap.size = F at *
      clear hF
      generalize World.alloc wr _ = wf at *
      clear d0 d1 d2 d3 d4 d5 d6 q0 q1 q2 q3 q2' q3' hN hT3
      have HSf : Hid (∀ W, wf.grownBy W none → (W.cell? ⟨F, 5, none⟩ = some (.int .u32 (N : Int)) ∧ W.cell? ⟨F, 6, none⟩ = some (.int .i64 T) ∧ W.cell? ⟨d, 5, none⟩ = some (.int .u32 (S1.n : Int)) ∧ W.cell? ⟨d, 6, none⟩ = some (.int .i64 S1.t))) := fun W gW => ⟨(HF.out.then gW).cell (j := 5) rfl, (HF.out.then gW).cell (j := 6) rfl, (AF.out.db.then gW).cell (j := 5) rfl, (AF.out.db.then gW).cell (j := 6) rfl⟩
      go_cut [77] from 59 to 76 (fun s77 wx => ∃ r : Bool, s77 = .bool r ∧ Hid ((r = true → Sb.Ok { S1 with n := N, t := T }) ∧ wf.grownBy wx none))
      case first =>
        by_cases h1 : (S1.n : Int) ≤ (N : Int)
        · by_cases h2 : S1.t ≤ T
          · have HMy := hide (fun W (gW : wf.grownBy W none) => rmay_any (HF.out.then gW) HO1.out (by omega) hN2 h2 hT2.out)
            refine wp_region_held_drew (S := (fun W => W.cell? ⟨F, 5, none⟩ = some (.int .u32 (N : Int)) ∧ W.cell? ⟨F, 6, none⟩ = some (.int .i64 T) ∧ W.cell? ⟨d, 5, none⟩ = some (.int .u32 (S1.n : Int)) ∧ W.cell? ⟨d, 6, none⟩ = some (.int .i64 S1.t))) (by kernel_rfl) ?_ (fun hHeld => ?_)
            · (exact HSf.out _ (grown_drew _ none))
            refine tkH (i := 0) (oi := { dst := some 59, op := Go.Op.fieldAddr 59 (Go.Operand.tmp 11) 3, type := 0, pos := "law.go:39", after := #[], guard := none }) (v := ?_) rfl ?_ ?_
            rotate_left
            · (intro w hSw; (try dsimp only at hSw); (go_simp <;> with_reducible rfl))
            try simp only [Act.put, List.setIfInBounds_toArray, List.set_cons_zero, List.set_cons_succ]
            refine tkH (i := 1) (oi := { dst := some 60, op := Go.Op.load 23 (Go.Operand.tmp 59), type := 23, pos := "law.go:39", after := #[{ on := 0, ground := Go.Ground.data }], guard := none }) (v := ?_) rfl ?_ ?_
            rotate_left
            · (intro w hSw; (try dsimp only at hSw); (go_simp <;> with_reducible rfl))
            try simp only [Act.put, List.setIfInBounds_toArray, List.set_cons_zero, List.set_cons_succ]
            refine tkH (i := 2) (oi := { dst := some 61, op := Go.Op.move (Go.Operand.tmp 7), type := 27, pos := "law.go:39", after := #[], guard := none }) (v := ?_) rfl ?_ ?_
            rotate_left
            · (intro w hSw; (try dsimp only at hSw); (go_simp <;> with_reducible rfl))
            try simp only [Act.put, List.setIfInBounds_toArray, List.set_cons_zero, List.set_cons_succ]
            refine tkH (i := 3) (oi := { dst := some 62, op := Go.Op.nilCheck (Go.Operand.tmp 61), type := 0, pos := "law.go:39", after := #[{ on := 2, ground := Go.Ground.data }], guard := none }) (v := ?_) rfl ?_ ?_
            rotate_left
            · (intro w hSw; (try dsimp only at hSw); (go_simp <;> with_reducible rfl))
            try simp only [Act.put, List.setIfInBounds_toArray, List.set_cons_zero, List.set_cons_succ]
            refine tkH (i := 4) (oi := { dst := some 63, op := Go.Op.fieldAddr 59 (Go.Operand.tmp 62) 3, type := 0, pos := "law.go:39", after := #[{ on := 3, ground := Go.Ground.data }], guard := none }) (v := ?_) rfl ?_ ?_
            rotate_left
            · (intro w hSw; (try dsimp only at hSw); (go_simp <;> with_reducible rfl))
            try simp only [Act.put, List.setIfInBounds_toArray, List.set_cons_zero, List.set_cons_succ]
            refine tkH (i := 5) (oi := { dst := some 64, op := Go.Op.load 23 (Go.Operand.tmp 63), type := 23, pos := "law.go:39", after := #[{ on := 4, ground := Go.Ground.data }], guard := none }) (v := ?_) rfl ?_ ?_
            rotate_left
            · (intro w hSw; (try dsimp only at hSw); (go_simp <;> with_reducible rfl))
            try simp only [Act.put, List.setIfInBounds_toArray, List.set_cons_zero, List.set_cons_succ]
            refine tkH (i := 6) (oi := { dst := some 65, op := Go.Op.binOp Go.BinOp.geq 23 (Go.Operand.tmp 60) (Go.Operand.tmp 64) 23, type := 4, pos := "law.go:39", after := #[{ on := 1, ground := Go.Ground.data }, { on := 5, ground := Go.Ground.data }], guard := none }) (v := ?_) rfl ?_ ?_
            rotate_left
            · (intro w hSw; refine geq_t (t := 23) (k := .u32) (x := .tmp 60) (y := .tmp 64) (p := (N : Int)) (q := (S1.n : Int)) ?_ ?_ ?_ h1 w <;> rfl)
            try simp only [Act.put, List.setIfInBounds_toArray, List.set_cons_zero, List.set_cons_succ]
            refine tkH (i := 7) (oi := { dst := some 66, op := Go.Op.move (Go.Operand.tmp 65), type := 4, pos := "law.go:39", after := #[{ on := 6, ground := Go.Ground.data }], guard := none }) (v := ?_) rfl ?_ ?_
            rotate_left
            · (intro w hSw; (try dsimp only at hSw); (go_simp <;> with_reducible rfl))
            try simp only [Act.put, List.setIfInBounds_toArray, List.set_cons_zero, List.set_cons_succ]
            refine tkH (i := 8) (oi := { dst := some 67, op := Go.Op.fieldAddr 59 (Go.Operand.tmp 11) 4, type := 0, pos := "law.go:39", after := #[{ on := 7, ground := Go.Ground.guard }], guard := some (7, true) }) (v := ?_) rfl ?_ ?_
            rotate_left
            · (intro w hSw; (try dsimp only at hSw); (go_simp <;> with_reducible rfl))
            try simp only [Act.put, List.setIfInBounds_toArray, List.set_cons_zero, List.set_cons_succ]
            refine tkH (i := 9) (oi := { dst := some 68, op := Go.Op.load 2 (Go.Operand.tmp 67), type := 2, pos := "law.go:39", after := #[{ on := 8, ground := Go.Ground.data }, { on := 7, ground := Go.Ground.guard }], guard := some (7, true) }) (v := ?_) rfl ?_ ?_
            rotate_left
            · (intro w hSw; (try dsimp only at hSw); (go_simp <;> with_reducible rfl))
            try simp only [Act.put, List.setIfInBounds_toArray, List.set_cons_zero, List.set_cons_succ]
            refine tkH (i := 10) (oi := { dst := some 69, op := Go.Op.move (Go.Operand.tmp 7), type := 27, pos := "law.go:39", after := #[{ on := 7, ground := Go.Ground.guard }], guard := some (7, true) }) (v := ?_) rfl ?_ ?_
            rotate_left
            · (intro w hSw; (try dsimp only at hSw); (go_simp <;> with_reducible rfl))
            try simp only [Act.put, List.setIfInBounds_toArray, List.set_cons_zero, List.set_cons_succ]
            refine tkH (i := 11) (oi := { dst := some 70, op := Go.Op.nilCheck (Go.Operand.tmp 69), type := 0, pos := "law.go:39", after := #[{ on := 10, ground := Go.Ground.data }, { on := 7, ground := Go.Ground.guard }], guard := some (7, true) }) (v := ?_) rfl ?_ ?_
            rotate_left
            · (intro w hSw; (try dsimp only at hSw); (go_simp <;> with_reducible rfl))
            try simp only [Act.put, List.setIfInBounds_toArray, List.set_cons_zero, List.set_cons_succ]
            refine tkH (i := 12) (oi := { dst := some 71, op := Go.Op.fieldAddr 59 (Go.Operand.tmp 70) 4, type := 0, pos := "law.go:39", after := #[{ on := 11, ground := Go.Ground.data }, { on := 7, ground := Go.Ground.guard }], guard := some (7, true) }) (v := ?_) rfl ?_ ?_
            rotate_left
            · (intro w hSw; (try dsimp only at hSw); (go_simp <;> with_reducible rfl))
            try simp only [Act.put, List.setIfInBounds_toArray, List.set_cons_zero, List.set_cons_succ]
            refine tkH (i := 13) (oi := { dst := some 72, op := Go.Op.load 2 (Go.Operand.tmp 71), type := 2, pos := "law.go:39", after := #[{ on := 12, ground := Go.Ground.data }, { on := 7, ground := Go.Ground.guard }], guard := some (7, true) }) (v := ?_) rfl ?_ ?_
            rotate_left
            · (intro w hSw; (try dsimp only at hSw); (go_simp <;> with_reducible rfl))
            try simp only [Act.put, List.setIfInBounds_toArray, List.set_cons_zero, List.set_cons_succ]
            refine tkH (i := 14) (oi := { dst := some 73, op := Go.Op.binOp Go.BinOp.geq 2 (Go.Operand.tmp 68) (Go.Operand.tmp 72) 2, type := 4, pos := "law.go:39", after := #[{ on := 9, ground := Go.Ground.data }, { on := 13, ground := Go.Ground.data }, { on := 7, ground := Go.Ground.guard }], guard := some (7, true) }) (v := ?_) rfl ?_ ?_
            rotate_left
            · (intro w hSw; refine geq_t (t := 2) (k := .i64) (x := .tmp 68) (y := .tmp 72) (p := T) (q := S1.t) ?_ ?_ ?_ h2 w <;> rfl)
            try simp only [Act.put, List.setIfInBounds_toArray, List.set_cons_zero, List.set_cons_succ]
            refine tkH (i := 15) (oi := { dst := some 74, op := Go.Op.pick (Go.Operand.tmp 66) (Go.Operand.tmp 73) (Go.Operand.const (Go.Value.bool false)), type := 4, pos := "law.go:39", after := #[{ on := 7, ground := Go.Ground.data }, { on := 14, ground := Go.Ground.data }], guard := none }) (v := ?_) rfl ?_ ?_
            rotate_left
            · (intro w hSw; (try dsimp only at hSw); (go_simp <;> with_reducible rfl))
            try simp only [Act.put, List.setIfInBounds_toArray, List.set_cons_zero, List.set_cons_succ]
            refine tkH (i := 16) (oi := { dst := some 75, op := Go.Op.move (Go.Operand.tmp 74), type := 4, pos := "law.go:39", after := #[{ on := 15, ground := Go.Ground.data }, { on := 7, ground := Go.Ground.chain }], guard := none }) (v := ?_) rfl ?_ ?_
            rotate_left
            · (intro w hSw; (try dsimp only at hSw); (go_simp <;> with_reducible rfl))
            try simp only [Act.put, List.setIfInBounds_toArray, List.set_cons_zero, List.set_cons_succ]
            refine rdH (i := 17) (o := { dst := some 76, op := Go.Op.call { callee := Go.Callee.value (Go.Operand.func 13), args := #[Go.Operand.tmp 11], argTypes := #[59] }, type := 4, pos := "law.go:39", after := #[{ on := 16, ground := Go.Ground.chain }, { on := 16, ground := Go.Ground.guard }], guard := some (16, true) }) rfl (fun K hK => ?_)
            go_simp
            refine (HMy.out _ (grown_drew _ none)).mono ?_; rintro e wm ⟨r, rfl, hr1, hr2⟩; have HRr : Hid ((r = true → Sb.Ok { S1 with n := N, t := T }) ∧ wf.grownBy wm none) := ⟨hr1, grown_trans (grown_drew _ none) hr2⟩; have hJ := HSf.out _ HRr.out.2; clear hr1 hr2
            go_wp2_with fail
            refine hK.out _ _ ?_ (fun hHeld => ?_)
            · ((try dsimp only); assumption)
            clear hK K
            try simp only [Act.put, List.setIfInBounds_toArray, List.set_cons_zero, List.set_cons_succ]
            refine tkH (i := 18) (oi := { dst := some 77, op := Go.Op.pick (Go.Operand.tmp 75) (Go.Operand.tmp 76) (Go.Operand.const (Go.Value.bool false)), type := 4, pos := "law.go:39", after := #[{ on := 16, ground := Go.Ground.data }, { on := 17, ground := Go.Ground.data }], guard := none }) (v := ?_) rfl ?_ ?_
            rotate_left
            · (intro w hSw; (try dsimp only at hSw); (go_simp <;> with_reducible rfl))
            try simp only [Act.put, List.setIfInBounds_toArray, List.set_cons_zero, List.set_cons_succ]
            refine wpAnyH_done (by kernel_rfl) ?_ _
            go_wp2
            go_meet
            case rel => exact ⟨_, rfl, HRr.out⟩
          · have h2 : T < S1.t := by omega
            refine wp_region_held_drew (S := (fun W => W.cell? ⟨F, 5, none⟩ = some (.int .u32 (N : Int)) ∧ W.cell? ⟨F, 6, none⟩ = some (.int .i64 T) ∧ W.cell? ⟨d, 5, none⟩ = some (.int .u32 (S1.n : Int)) ∧ W.cell? ⟨d, 6, none⟩ = some (.int .i64 S1.t))) (by kernel_rfl) ?_ (fun hHeld => ?_)
            · (exact HSf.out _ (grown_drew _ none))
            refine tkH (i := 0) (oi := { dst := some 59, op := Go.Op.fieldAddr 59 (Go.Operand.tmp 11) 3, type := 0, pos := "law.go:39", after := #[], guard := none }) (v := ?_) rfl ?_ ?_
            rotate_left
            · (intro w hSw; (try dsimp only at hSw); (go_simp <;> with_reducible rfl))
            try simp only [Act.put, List.setIfInBounds_toArray, List.set_cons_zero, List.set_cons_succ]
            refine tkH (i := 1) (oi := { dst := some 60, op := Go.Op.load 23 (Go.Operand.tmp 59), type := 23, pos := "law.go:39", after := #[{ on := 0, ground := Go.Ground.data }], guard := none }) (v := ?_) rfl ?_ ?_
            rotate_left
            · (intro w hSw; (try dsimp only at hSw); (go_simp <;> with_reducible rfl))
            try simp only [Act.put, List.setIfInBounds_toArray, List.set_cons_zero, List.set_cons_succ]
            refine tkH (i := 2) (oi := { dst := some 61, op := Go.Op.move (Go.Operand.tmp 7), type := 27, pos := "law.go:39", after := #[], guard := none }) (v := ?_) rfl ?_ ?_
            rotate_left
            · (intro w hSw; (try dsimp only at hSw); (go_simp <;> with_reducible rfl))
            try simp only [Act.put, List.setIfInBounds_toArray, List.set_cons_zero, List.set_cons_succ]
            refine tkH (i := 3) (oi := { dst := some 62, op := Go.Op.nilCheck (Go.Operand.tmp 61), type := 0, pos := "law.go:39", after := #[{ on := 2, ground := Go.Ground.data }], guard := none }) (v := ?_) rfl ?_ ?_
            rotate_left
            · (intro w hSw; (try dsimp only at hSw); (go_simp <;> with_reducible rfl))
            try simp only [Act.put, List.setIfInBounds_toArray, List.set_cons_zero, List.set_cons_succ]
            refine tkH (i := 4) (oi := { dst := some 63, op := Go.Op.fieldAddr 59 (Go.Operand.tmp 62) 3, type := 0, pos := "law.go:39", after := #[{ on := 3, ground := Go.Ground.data }], guard := none }) (v := ?_) rfl ?_ ?_
            rotate_left
            · (intro w hSw; (try dsimp only at hSw); (go_simp <;> with_reducible rfl))
            try simp only [Act.put, List.setIfInBounds_toArray, List.set_cons_zero, List.set_cons_succ]
            refine tkH (i := 5) (oi := { dst := some 64, op := Go.Op.load 23 (Go.Operand.tmp 63), type := 23, pos := "law.go:39", after := #[{ on := 4, ground := Go.Ground.data }], guard := none }) (v := ?_) rfl ?_ ?_
            rotate_left
            · (intro w hSw; (try dsimp only at hSw); (go_simp <;> with_reducible rfl))
            try simp only [Act.put, List.setIfInBounds_toArray, List.set_cons_zero, List.set_cons_succ]
            refine tkH (i := 6) (oi := { dst := some 65, op := Go.Op.binOp Go.BinOp.geq 23 (Go.Operand.tmp 60) (Go.Operand.tmp 64) 23, type := 4, pos := "law.go:39", after := #[{ on := 1, ground := Go.Ground.data }, { on := 5, ground := Go.Ground.data }], guard := none }) (v := ?_) rfl ?_ ?_
            rotate_left
            · (intro w hSw; refine geq_t (t := 23) (k := .u32) (x := .tmp 60) (y := .tmp 64) (p := (N : Int)) (q := (S1.n : Int)) ?_ ?_ ?_ h1 w <;> rfl)
            try simp only [Act.put, List.setIfInBounds_toArray, List.set_cons_zero, List.set_cons_succ]
            refine tkH (i := 7) (oi := { dst := some 66, op := Go.Op.move (Go.Operand.tmp 65), type := 4, pos := "law.go:39", after := #[{ on := 6, ground := Go.Ground.data }], guard := none }) (v := ?_) rfl ?_ ?_
            rotate_left
            · (intro w hSw; (try dsimp only at hSw); (go_simp <;> with_reducible rfl))
            try simp only [Act.put, List.setIfInBounds_toArray, List.set_cons_zero, List.set_cons_succ]
            refine tkH (i := 8) (oi := { dst := some 67, op := Go.Op.fieldAddr 59 (Go.Operand.tmp 11) 4, type := 0, pos := "law.go:39", after := #[{ on := 7, ground := Go.Ground.guard }], guard := some (7, true) }) (v := ?_) rfl ?_ ?_
            rotate_left
            · (intro w hSw; (try dsimp only at hSw); (go_simp <;> with_reducible rfl))
            try simp only [Act.put, List.setIfInBounds_toArray, List.set_cons_zero, List.set_cons_succ]
            refine tkH (i := 9) (oi := { dst := some 68, op := Go.Op.load 2 (Go.Operand.tmp 67), type := 2, pos := "law.go:39", after := #[{ on := 8, ground := Go.Ground.data }, { on := 7, ground := Go.Ground.guard }], guard := some (7, true) }) (v := ?_) rfl ?_ ?_
            rotate_left
            · (intro w hSw; (try dsimp only at hSw); (go_simp <;> with_reducible rfl))
            try simp only [Act.put, List.setIfInBounds_toArray, List.set_cons_zero, List.set_cons_succ]
            refine tkH (i := 10) (oi := { dst := some 69, op := Go.Op.move (Go.Operand.tmp 7), type := 27, pos := "law.go:39", after := #[{ on := 7, ground := Go.Ground.guard }], guard := some (7, true) }) (v := ?_) rfl ?_ ?_
            rotate_left
            · (intro w hSw; (try dsimp only at hSw); (go_simp <;> with_reducible rfl))
            try simp only [Act.put, List.setIfInBounds_toArray, List.set_cons_zero, List.set_cons_succ]
            refine tkH (i := 11) (oi := { dst := some 70, op := Go.Op.nilCheck (Go.Operand.tmp 69), type := 0, pos := "law.go:39", after := #[{ on := 10, ground := Go.Ground.data }, { on := 7, ground := Go.Ground.guard }], guard := some (7, true) }) (v := ?_) rfl ?_ ?_
            rotate_left
            · (intro w hSw; (try dsimp only at hSw); (go_simp <;> with_reducible rfl))
            try simp only [Act.put, List.setIfInBounds_toArray, List.set_cons_zero, List.set_cons_succ]
            refine tkH (i := 12) (oi := { dst := some 71, op := Go.Op.fieldAddr 59 (Go.Operand.tmp 70) 4, type := 0, pos := "law.go:39", after := #[{ on := 11, ground := Go.Ground.data }, { on := 7, ground := Go.Ground.guard }], guard := some (7, true) }) (v := ?_) rfl ?_ ?_
            rotate_left
            · (intro w hSw; (try dsimp only at hSw); (go_simp <;> with_reducible rfl))
            try simp only [Act.put, List.setIfInBounds_toArray, List.set_cons_zero, List.set_cons_succ]
            refine tkH (i := 13) (oi := { dst := some 72, op := Go.Op.load 2 (Go.Operand.tmp 71), type := 2, pos := "law.go:39", after := #[{ on := 12, ground := Go.Ground.data }, { on := 7, ground := Go.Ground.guard }], guard := some (7, true) }) (v := ?_) rfl ?_ ?_
            rotate_left
            · (intro w hSw; (try dsimp only at hSw); (go_simp <;> with_reducible rfl))
            try simp only [Act.put, List.setIfInBounds_toArray, List.set_cons_zero, List.set_cons_succ]
            refine tkH (i := 14) (oi := { dst := some 73, op := Go.Op.binOp Go.BinOp.geq 2 (Go.Operand.tmp 68) (Go.Operand.tmp 72) 2, type := 4, pos := "law.go:39", after := #[{ on := 9, ground := Go.Ground.data }, { on := 13, ground := Go.Ground.data }, { on := 7, ground := Go.Ground.guard }], guard := some (7, true) }) (v := ?_) rfl ?_ ?_
            rotate_left
            · (intro w hSw; refine geq_f (t := 2) (k := .i64) (x := .tmp 68) (y := .tmp 72) (p := T) (q := S1.t) ?_ ?_ ?_ h2 w <;> rfl)
            try simp only [Act.put, List.setIfInBounds_toArray, List.set_cons_zero, List.set_cons_succ]
            refine tkH (i := 15) (oi := { dst := some 74, op := Go.Op.pick (Go.Operand.tmp 66) (Go.Operand.tmp 73) (Go.Operand.const (Go.Value.bool false)), type := 4, pos := "law.go:39", after := #[{ on := 7, ground := Go.Ground.data }, { on := 14, ground := Go.Ground.data }], guard := none }) (v := ?_) rfl ?_ ?_
            rotate_left
            · (intro w hSw; (try dsimp only at hSw); (go_simp <;> with_reducible rfl))
            try simp only [Act.put, List.setIfInBounds_toArray, List.set_cons_zero, List.set_cons_succ]
            refine tkH (i := 16) (oi := { dst := some 75, op := Go.Op.move (Go.Operand.tmp 74), type := 4, pos := "law.go:39", after := #[{ on := 15, ground := Go.Ground.data }, { on := 7, ground := Go.Ground.chain }], guard := none }) (v := ?_) rfl ?_ ?_
            rotate_left
            · (intro w hSw; (try dsimp only at hSw); (go_simp <;> with_reducible rfl))
            try simp only [Act.put, List.setIfInBounds_toArray, List.set_cons_zero, List.set_cons_succ]
            refine wpAnyH_take (i := 17) (oi := { dst := some 76, op := Go.Op.call { callee := Go.Callee.value (Go.Operand.func 13), args := #[Go.Operand.tmp 11], argTypes := #[59] }, type := 4, pos := "law.go:39", after := #[{ on := 16, ground := Go.Ground.chain }, { on := 16, ground := Go.Ground.guard }], guard := some (16, true) }) (v := undef) rfl (by kernel_rfl) (by kernel_rfl) (by kernel_rfl) (fun _ _ _ h => h) (Or.inr ⟨by rfl, rfl⟩) (by assumption) ?_
            try simp only [Act.put, List.setIfInBounds_toArray, List.set_cons_zero, List.set_cons_succ]
            refine tkH (i := 18) (oi := { dst := some 77, op := Go.Op.pick (Go.Operand.tmp 75) (Go.Operand.tmp 76) (Go.Operand.const (Go.Value.bool false)), type := 4, pos := "law.go:39", after := #[{ on := 16, ground := Go.Ground.data }, { on := 17, ground := Go.Ground.data }], guard := none }) (v := ?_) rfl ?_ ?_
            rotate_left
            · (intro w hSw; (try dsimp only at hSw); (go_simp <;> with_reducible rfl))
            try simp only [Act.put, List.setIfInBounds_toArray, List.set_cons_zero, List.set_cons_succ]
            refine wpAnyH_done (by kernel_rfl) ?_ _
            go_wp2
            go_meet
            case rel => exact ⟨_, rfl, (fun e => by cases e), grown_drew _ none⟩
        · have h1 : (N : Int) < (S1.n : Int) := by omega
          refine wp_region_held_drew (S := (fun W => W.cell? ⟨F, 5, none⟩ = some (.int .u32 (N : Int)) ∧ W.cell? ⟨F, 6, none⟩ = some (.int .i64 T) ∧ W.cell? ⟨d, 5, none⟩ = some (.int .u32 (S1.n : Int)) ∧ W.cell? ⟨d, 6, none⟩ = some (.int .i64 S1.t))) (by kernel_rfl) ?_ (fun hHeld => ?_)
          · (exact HSf.out _ (grown_drew _ none))
          refine tkH (i := 0) (oi := { dst := some 59, op := Go.Op.fieldAddr 59 (Go.Operand.tmp 11) 3, type := 0, pos := "law.go:39", after := #[], guard := none }) (v := ?_) rfl ?_ ?_
          rotate_left
          · (intro w hSw; (try dsimp only at hSw); (go_simp <;> with_reducible rfl))
          try simp only [Act.put, List.setIfInBounds_toArray, List.set_cons_zero, List.set_cons_succ]
          refine tkH (i := 1) (oi := { dst := some 60, op := Go.Op.load 23 (Go.Operand.tmp 59), type := 23, pos := "law.go:39", after := #[{ on := 0, ground := Go.Ground.data }], guard := none }) (v := ?_) rfl ?_ ?_
          rotate_left
          · (intro w hSw; (try dsimp only at hSw); (go_simp <;> with_reducible rfl))
          try simp only [Act.put, List.setIfInBounds_toArray, List.set_cons_zero, List.set_cons_succ]
          refine tkH (i := 2) (oi := { dst := some 61, op := Go.Op.move (Go.Operand.tmp 7), type := 27, pos := "law.go:39", after := #[], guard := none }) (v := ?_) rfl ?_ ?_
          rotate_left
          · (intro w hSw; (try dsimp only at hSw); (go_simp <;> with_reducible rfl))
          try simp only [Act.put, List.setIfInBounds_toArray, List.set_cons_zero, List.set_cons_succ]
          refine tkH (i := 3) (oi := { dst := some 62, op := Go.Op.nilCheck (Go.Operand.tmp 61), type := 0, pos := "law.go:39", after := #[{ on := 2, ground := Go.Ground.data }], guard := none }) (v := ?_) rfl ?_ ?_
          rotate_left
          · (intro w hSw; (try dsimp only at hSw); (go_simp <;> with_reducible rfl))
          try simp only [Act.put, List.setIfInBounds_toArray, List.set_cons_zero, List.set_cons_succ]
          refine tkH (i := 4) (oi := { dst := some 63, op := Go.Op.fieldAddr 59 (Go.Operand.tmp 62) 3, type := 0, pos := "law.go:39", after := #[{ on := 3, ground := Go.Ground.data }], guard := none }) (v := ?_) rfl ?_ ?_
          rotate_left
          · (intro w hSw; (try dsimp only at hSw); (go_simp <;> with_reducible rfl))
          try simp only [Act.put, List.setIfInBounds_toArray, List.set_cons_zero, List.set_cons_succ]
          refine tkH (i := 5) (oi := { dst := some 64, op := Go.Op.load 23 (Go.Operand.tmp 63), type := 23, pos := "law.go:39", after := #[{ on := 4, ground := Go.Ground.data }], guard := none }) (v := ?_) rfl ?_ ?_
          rotate_left
          · (intro w hSw; (try dsimp only at hSw); (go_simp <;> with_reducible rfl))
          try simp only [Act.put, List.setIfInBounds_toArray, List.set_cons_zero, List.set_cons_succ]
          refine tkH (i := 6) (oi := { dst := some 65, op := Go.Op.binOp Go.BinOp.geq 23 (Go.Operand.tmp 60) (Go.Operand.tmp 64) 23, type := 4, pos := "law.go:39", after := #[{ on := 1, ground := Go.Ground.data }, { on := 5, ground := Go.Ground.data }], guard := none }) (v := ?_) rfl ?_ ?_
          rotate_left
          · (intro w hSw; refine geq_f (t := 23) (k := .u32) (x := .tmp 60) (y := .tmp 64) (p := (N : Int)) (q := (S1.n : Int)) ?_ ?_ ?_ h1 w <;> rfl)
          try simp only [Act.put, List.setIfInBounds_toArray, List.set_cons_zero, List.set_cons_succ]
          refine tkH (i := 7) (oi := { dst := some 66, op := Go.Op.move (Go.Operand.tmp 65), type := 4, pos := "law.go:39", after := #[{ on := 6, ground := Go.Ground.data }], guard := none }) (v := ?_) rfl ?_ ?_
          rotate_left
          · (intro w hSw; (try dsimp only at hSw); (go_simp <;> with_reducible rfl))
          try simp only [Act.put, List.setIfInBounds_toArray, List.set_cons_zero, List.set_cons_succ]
          refine wpAnyH_take (i := 8) (oi := { dst := some 67, op := Go.Op.fieldAddr 59 (Go.Operand.tmp 11) 4, type := 0, pos := "law.go:39", after := #[{ on := 7, ground := Go.Ground.guard }], guard := some (7, true) }) (v := undef) rfl (by kernel_rfl) (by kernel_rfl) (by kernel_rfl) (fun _ _ _ h => h) (Or.inr ⟨by rfl, rfl⟩) (by assumption) ?_
          try simp only [Act.put, List.setIfInBounds_toArray, List.set_cons_zero, List.set_cons_succ]
          refine wpAnyH_take (i := 9) (oi := { dst := some 68, op := Go.Op.load 2 (Go.Operand.tmp 67), type := 2, pos := "law.go:39", after := #[{ on := 8, ground := Go.Ground.data }, { on := 7, ground := Go.Ground.guard }], guard := some (7, true) }) (v := undef) rfl (by kernel_rfl) (by kernel_rfl) (by kernel_rfl) (fun _ _ _ h => h) (Or.inr ⟨by rfl, rfl⟩) (by assumption) ?_
          try simp only [Act.put, List.setIfInBounds_toArray, List.set_cons_zero, List.set_cons_succ]
          refine wpAnyH_take (i := 10) (oi := { dst := some 69, op := Go.Op.move (Go.Operand.tmp 7), type := 27, pos := "law.go:39", after := #[{ on := 7, ground := Go.Ground.guard }], guard := some (7, true) }) (v := undef) rfl (by kernel_rfl) (by kernel_rfl) (by kernel_rfl) (fun _ _ _ h => h) (Or.inr ⟨by rfl, rfl⟩) (by assumption) ?_
          try simp only [Act.put, List.setIfInBounds_toArray, List.set_cons_zero, List.set_cons_succ]
          refine wpAnyH_take (i := 11) (oi := { dst := some 70, op := Go.Op.nilCheck (Go.Operand.tmp 69), type := 0, pos := "law.go:39", after := #[{ on := 10, ground := Go.Ground.data }, { on := 7, ground := Go.Ground.guard }], guard := some (7, true) }) (v := undef) rfl (by kernel_rfl) (by kernel_rfl) (by kernel_rfl) (fun _ _ _ h => h) (Or.inr ⟨by rfl, rfl⟩) (by assumption) ?_
          try simp only [Act.put, List.setIfInBounds_toArray, List.set_cons_zero, List.set_cons_succ]
          refine wpAnyH_take (i := 12) (oi := { dst := some 71, op := Go.Op.fieldAddr 59 (Go.Operand.tmp 70) 4, type := 0, pos := "law.go:39", after := #[{ on := 11, ground := Go.Ground.data }, { on := 7, ground := Go.Ground.guard }], guard := some (7, true) }) (v := undef) rfl (by kernel_rfl) (by kernel_rfl) (by kernel_rfl) (fun _ _ _ h => h) (Or.inr ⟨by rfl, rfl⟩) (by assumption) ?_
          try simp only [Act.put, List.setIfInBounds_toArray, List.set_cons_zero, List.set_cons_succ]
          refine wpAnyH_take (i := 13) (oi := { dst := some 72, op := Go.Op.load 2 (Go.Operand.tmp 71), type := 2, pos := "law.go:39", after := #[{ on := 12, ground := Go.Ground.data }, { on := 7, ground := Go.Ground.guard }], guard := some (7, true) }) (v := undef) rfl (by kernel_rfl) (by kernel_rfl) (by kernel_rfl) (fun _ _ _ h => h) (Or.inr ⟨by rfl, rfl⟩) (by assumption) ?_
          try simp only [Act.put, List.setIfInBounds_toArray, List.set_cons_zero, List.set_cons_succ]
          refine wpAnyH_take (i := 14) (oi := { dst := some 73, op := Go.Op.binOp Go.BinOp.geq 2 (Go.Operand.tmp 68) (Go.Operand.tmp 72) 2, type := 4, pos := "law.go:39", after := #[{ on := 9, ground := Go.Ground.data }, { on := 13, ground := Go.Ground.data }, { on := 7, ground := Go.Ground.guard }], guard := some (7, true) }) (v := undef) rfl (by kernel_rfl) (by kernel_rfl) (by kernel_rfl) (fun _ _ _ h => h) (Or.inr ⟨by rfl, rfl⟩) (by assumption) ?_
          try simp only [Act.put, List.setIfInBounds_toArray, List.set_cons_zero, List.set_cons_succ]
          refine tkH (i := 15) (oi := { dst := some 74, op := Go.Op.pick (Go.Operand.tmp 66) (Go.Operand.tmp 73) (Go.Operand.const (Go.Value.bool false)), type := 4, pos := "law.go:39", after := #[{ on := 7, ground := Go.Ground.data }, { on := 14, ground := Go.Ground.data }], guard := none }) (v := ?_) rfl ?_ ?_
          rotate_left
          · (intro w hSw; (try dsimp only at hSw); (go_simp <;> with_reducible rfl))
          try simp only [Act.put, List.setIfInBounds_toArray, List.set_cons_zero, List.set_cons_succ]
          refine tkH (i := 16) (oi := { dst := some 75, op := Go.Op.move (Go.Operand.tmp 74), type := 4, pos := "law.go:39", after := #[{ on := 15, ground := Go.Ground.data }, { on := 7, ground := Go.Ground.chain }], guard := none }) (v := ?_) rfl ?_ ?_
          rotate_left
          · (intro w hSw; (try dsimp only at hSw); (go_simp <;> with_reducible rfl))
          try simp only [Act.put, List.setIfInBounds_toArray, List.set_cons_zero, List.set_cons_succ]
          refine wpAnyH_take (i := 17) (oi := { dst := some 76, op := Go.Op.call { callee := Go.Callee.value (Go.Operand.func 13), args := #[Go.Operand.tmp 11], argTypes := #[59] }, type := 4, pos := "law.go:39", after := #[{ on := 16, ground := Go.Ground.chain }, { on := 16, ground := Go.Ground.guard }], guard := some (16, true) }) (v := undef) rfl (by kernel_rfl) (by kernel_rfl) (by kernel_rfl) (fun _ _ _ h => h) (Or.inr ⟨by rfl, rfl⟩) (by assumption) ?_
          try simp only [Act.put, List.setIfInBounds_toArray, List.set_cons_zero, List.set_cons_succ]
          refine tkH (i := 18) (oi := { dst := some 77, op := Go.Op.pick (Go.Operand.tmp 75) (Go.Operand.tmp 76) (Go.Operand.const (Go.Value.bool false)), type := 4, pos := "law.go:39", after := #[{ on := 16, ground := Go.Ground.data }, { on := 17, ground := Go.Ground.data }], guard := none }) (v := ?_) rfl ?_ ?_
          rotate_left
          · (intro w hSw; (try dsimp only at hSw); (go_simp <;> with_reducible rfl))
          try simp only [Act.put, List.setIfInBounds_toArray, List.set_cons_zero, List.set_cons_succ]
          refine wpAnyH_done (by kernel_rfl) ?_ _
          go_wp2
          go_meet
          case rel => exact ⟨_, rfl, (fun e => by cases e), grown_drew _ none⟩
      case rest =>
      obtain ⟨r, rfl, HR⟩ := hcut
      have HAc := hide (AF.out.then HR.out.2)
      have HFc := hide (HF.out.then HR.out.2)
      have HOf : Hid (∀ W D S2, wc.grownBy W none → Db wc lo D (.slice vo S1.L.length vcap) S2 → S2.Ok → S2.a = sa x → S2.b = sb x → S2.c = sc x → S2.L = S1.L → Calls Tryz.prog 14 #[.agg #[.int .i64 ((sa x : Nat) : Int), .int .i64 ((sb x : Nat) : Int), .int .i64 ((sc x : Nat) : Int)], .int .u32 (S2.n : Int), .int .i64 S2.t, .slice vo S1.L.length vcap] W fun e w' => ∃ b p, e = .returned (.tuple #[.pointer (some ⟨b, 0, none⟩), .int .i64 0]) ∧ Lk W w' b S2 4096 p []) := fun W D S2 gW hD hO ha hb hc _ => by
        have e : (.agg #[.int .i64 ((sa x : Nat) : Int), .int .i64 ((sb x : Nat) : Int), .int .i64 ((sc x : Nat) : Int)] : Value) = limV S2.a S2.b S2.c := by rw [ha, hb, hc]; rfl
        rw [e]
        exact of_ok (w := W) (v := .slice vo S1.L.length vcap) (a := S2.a) (b := S2.b) (c := S2.c) (n := S2.n) (t := S2.t) (L := S2.L) hO (hD.then gW).bga (Nat.lt_of_le_of_lt (Nat.zero_le _) (row_lt (hD.then gW).head))
      have HSo : Hid (∀ W D S2, wc.grownBy W none → Db wc lo D (.slice vo S1.L.length vcap) S2 → (W.cell? ⟨B6, 0, none⟩ = some (.int .i64 ((sa x : Nat) : Int)) ∧ W.cell? ⟨B6, 1, none⟩ = some (.int .i64 ((sb x : Nat) : Int)) ∧ W.cell? ⟨B6, 2, none⟩ = some (.int .i64 ((sc x : Nat) : Int))) ∧ W.cell? ⟨D, 4, none⟩ = some (.slice vo S1.L.length vcap) ∧ W.cell? ⟨D, 5, none⟩ = some (.int .u32 (S2.n : Int)) ∧ W.cell? ⟨D, 6, none⟩ = some (.int .i64 S2.t)) := fun W D S2 gW hD => ⟨by obtain ⟨a0, a1, a2, -⟩ := box3 (box_to HAc.out.b6 gW); exact ⟨a0, a1, a2⟩, (hD.then gW).cell (j := 4) rfl, (hD.then gW).cell (j := 5) rfl, (hD.then gW).cell (j := 6) rfl⟩
      have HEn : Hid (∀ W w' D S2 b p, wc.grownBy W none → Db wc lo D (.slice vo S1.L.length vcap) S2 → S2.Ok → S2.a = sa x → Lk W w' b S2 4096 p [] → BksP w w' (.returned (.tuple #[.pointer (some ⟨b, 0, none⟩), .pointer (some ⟨D, 0, none⟩), .bool true]))) := fun W w' D S2 b p gW hD hO ha hK => ⟨b, D, S2, p, lo, _, rfl, hK.base (grown_trans HAc.out.gr gW), (hD.then gW).then hK.gr, hO, HAc.out.lo, fun i hi e => by
        have h1 := (hD.then gW).lt i hi
        have h2 := hK.own i e
        omega, by rw [ha]; exact sa_le x⟩
      cases r with
      | true =>
        have HDb : Hid (Db wc lo F (.slice vo S1.L.length vcap) { S1 with n := N, t := T }) := HFc.out
        have HO2 : Hid (Sb.Ok { S1 with n := N, t := T }) := HR.out.1 rfl
        have HSd := hide (fun W gW => HSo.out W F { S1 with n := N, t := T } gW HDb.out)
        have HOd := hide (fun W gW => HOf.out W F { S1 with n := N, t := T } gW HDb.out HO2.out HE1.out.1 HE1.out.2.1 HE1.out.2.2 rfl)
        have HEd := hide (fun W w' b p gW hK => HEn.out W w' F { S1 with n := N, t := T } b p gW HDb.out HO2.out HE1.out.1 hK)
        clear HSo HOf HEn HSf HAc HFc AF HF
        try simp only at HSd HOd HEd
        go_wp2
        refine wp_region_held_drew (S := (fun W => (W.cell? ⟨B6, 0, none⟩ = some (.int .i64 ((sa x : Nat) : Int)) ∧ W.cell? ⟨B6, 1, none⟩ = some (.int .i64 ((sb x : Nat) : Int)) ∧ W.cell? ⟨B6, 2, none⟩ = some (.int .i64 ((sc x : Nat) : Int))) ∧ W.cell? ⟨F, 4, none⟩ = some (.slice vo S1.L.length vcap) ∧ W.cell? ⟨F, 5, none⟩ = some (.int .u32 (N : Int)) ∧ W.cell? ⟨F, 6, none⟩ = some (.int .i64 T))) (by kernel_rfl) ?_ (fun hHeld => ?_)
        · (exact HSd.out _ (grown_drew _ none))
        refine tkH (i := 0) (oi := { dst := some 79, op := Go.Op.load 44 (Go.Operand.tmp 6), type := 44, pos := "law.go:42", after := #[], guard := none }) (v := ?_) rfl ?_ ?_
        rotate_left
        · (intro w hSw; (try dsimp only at hSw); (go_simp <;> with_reducible rfl))
        try simp only [Act.put, List.setIfInBounds_toArray, List.set_cons_zero, List.set_cons_succ]
        refine tkH (i := 1) (oi := { dst := some 80, op := Go.Op.move (Go.Operand.tmp 7), type := 27, pos := "law.go:42", after := #[], guard := none }) (v := ?_) rfl ?_ ?_
        rotate_left
        · (intro w hSw; (try dsimp only at hSw); (go_simp <;> with_reducible rfl))
        try simp only [Act.put, List.setIfInBounds_toArray, List.set_cons_zero, List.set_cons_succ]
        refine tkH (i := 2) (oi := { dst := some 81, op := Go.Op.nilCheck (Go.Operand.tmp 80), type := 0, pos := "law.go:42", after := #[{ on := 1, ground := Go.Ground.data }], guard := none }) (v := ?_) rfl ?_ ?_
        rotate_left
        · (intro w hSw; (try dsimp only at hSw); (go_simp <;> with_reducible rfl))
        try simp only [Act.put, List.setIfInBounds_toArray, List.set_cons_zero, List.set_cons_succ]
        refine tkH (i := 3) (oi := { dst := some 82, op := Go.Op.fieldAddr 59 (Go.Operand.tmp 81) 3, type := 0, pos := "law.go:42", after := #[{ on := 2, ground := Go.Ground.data }], guard := none }) (v := ?_) rfl ?_ ?_
        rotate_left
        · (intro w hSw; (try dsimp only at hSw); (go_simp <;> with_reducible rfl))
        try simp only [Act.put, List.setIfInBounds_toArray, List.set_cons_zero, List.set_cons_succ]
        refine tkH (i := 4) (oi := { dst := some 83, op := Go.Op.load 23 (Go.Operand.tmp 82), type := 23, pos := "law.go:42", after := #[{ on := 3, ground := Go.Ground.data }], guard := none }) (v := ?_) rfl ?_ ?_
        rotate_left
        · (intro w hSw; (try dsimp only at hSw); (go_simp <;> with_reducible rfl))
        try simp only [Act.put, List.setIfInBounds_toArray, List.set_cons_zero, List.set_cons_succ]
        refine tkH (i := 5) (oi := { dst := some 84, op := Go.Op.move (Go.Operand.tmp 7), type := 27, pos := "law.go:42", after := #[], guard := none }) (v := ?_) rfl ?_ ?_
        rotate_left
        · (intro w hSw; (try dsimp only at hSw); (go_simp <;> with_reducible rfl))
        try simp only [Act.put, List.setIfInBounds_toArray, List.set_cons_zero, List.set_cons_succ]
        refine tkH (i := 6) (oi := { dst := some 85, op := Go.Op.nilCheck (Go.Operand.tmp 84), type := 0, pos := "law.go:42", after := #[{ on := 5, ground := Go.Ground.data }], guard := none }) (v := ?_) rfl ?_ ?_
        rotate_left
        · (intro w hSw; (try dsimp only at hSw); (go_simp <;> with_reducible rfl))
        try simp only [Act.put, List.setIfInBounds_toArray, List.set_cons_zero, List.set_cons_succ]
        refine tkH (i := 7) (oi := { dst := some 86, op := Go.Op.fieldAddr 59 (Go.Operand.tmp 85) 4, type := 0, pos := "law.go:42", after := #[{ on := 6, ground := Go.Ground.data }], guard := none }) (v := ?_) rfl ?_ ?_
        rotate_left
        · (intro w hSw; (try dsimp only at hSw); (go_simp <;> with_reducible rfl))
        try simp only [Act.put, List.setIfInBounds_toArray, List.set_cons_zero, List.set_cons_succ]
        refine tkH (i := 8) (oi := { dst := some 87, op := Go.Op.load 2 (Go.Operand.tmp 86), type := 2, pos := "law.go:42", after := #[{ on := 7, ground := Go.Ground.data }], guard := none }) (v := ?_) rfl ?_ ?_
        rotate_left
        · (intro w hSw; (try dsimp only at hSw); (go_simp <;> with_reducible rfl))
        try simp only [Act.put, List.setIfInBounds_toArray, List.set_cons_zero, List.set_cons_succ]
        refine tkH (i := 9) (oi := { dst := some 88, op := Go.Op.move (Go.Operand.tmp 7), type := 27, pos := "law.go:42", after := #[], guard := none }) (v := ?_) rfl ?_ ?_
        rotate_left
        · (intro w hSw; (try dsimp only at hSw); (go_simp <;> with_reducible rfl))
        try simp only [Act.put, List.setIfInBounds_toArray, List.set_cons_zero, List.set_cons_succ]
        refine tkH (i := 10) (oi := { dst := some 89, op := Go.Op.nilCheck (Go.Operand.tmp 88), type := 0, pos := "law.go:42", after := #[{ on := 9, ground := Go.Ground.data }], guard := none }) (v := ?_) rfl ?_ ?_
        rotate_left
        · (intro w hSw; (try dsimp only at hSw); (go_simp <;> with_reducible rfl))
        try simp only [Act.put, List.setIfInBounds_toArray, List.set_cons_zero, List.set_cons_succ]
        refine tkH (i := 11) (oi := { dst := some 90, op := Go.Op.fieldAddr 59 (Go.Operand.tmp 89) 2, type := 0, pos := "law.go:42", after := #[{ on := 10, ground := Go.Ground.data }], guard := none }) (v := ?_) rfl ?_ ?_
        rotate_left
        · (intro w hSw; (try dsimp only at hSw); (go_simp <;> with_reducible rfl))
        try simp only [Act.put, List.setIfInBounds_toArray, List.set_cons_zero, List.set_cons_succ]
        refine tkH (i := 12) (oi := { dst := some 91, op := Go.Op.load 57 (Go.Operand.tmp 90), type := 57, pos := "law.go:42", after := #[{ on := 11, ground := Go.Ground.data }], guard := none }) (v := ?_) rfl ?_ ?_
        rotate_left
        · (intro w hSw; (try dsimp only at hSw); (go_simp <;> with_reducible rfl))
        try simp only [Act.put, List.setIfInBounds_toArray, List.set_cons_zero, List.set_cons_succ]
        refine rdH (i := 13) (o := { dst := some 92, op := Go.Op.call { callee := Go.Callee.value (Go.Operand.func 14), args := #[Go.Operand.tmp 79, Go.Operand.tmp 83, Go.Operand.tmp 87, Go.Operand.tmp 91], argTypes := #[44, 23, 2, 57] }, type := 60, pos := "law.go:42", after := #[{ on := 0, ground := Go.Ground.data }, { on := 4, ground := Go.Ground.data }, { on := 8, ground := Go.Ground.data }, { on := 12, ground := Go.Ground.data }], guard := none }) rfl (fun K hK => ?_)
        go_simp
        refine (HOd.out _ (grown_drew _ none)).mono ?_; rintro e wz ⟨bz, pz, rfl, hKz⟩; have HEz := hide (HEd.out _ _ _ _ (grown_drew _ none) hKz); have hJ := HSd.out _ (grown_trans (grown_drew _ none) hKz.gr); clear hKz
        go_wp2_with fail
        refine hK.out _ _ ?_ (fun hHeld => ?_)
        · ((try dsimp only); assumption)
        clear hK K
        try simp only [Act.put, List.setIfInBounds_toArray, List.set_cons_zero, List.set_cons_succ]
        refine tkH (i := 14) (oi := { dst := some 78, op := Go.Op.move (Go.Operand.tmp 92), type := 60, pos := "law.go:42", after := #[{ on := 13, ground := Go.Ground.data }], guard := none }) (v := ?_) rfl ?_ ?_
        rotate_left
        · (intro w hSw; (try dsimp only at hSw); (go_simp <;> with_reducible rfl))
        try simp only [Act.put, List.setIfInBounds_toArray, List.set_cons_zero, List.set_cons_succ]
        refine tkH (i := 15) (oi := { dst := some 93, op := Go.Op.extract (Go.Operand.tmp 78) 0, type := 26, pos := "law.go:42", after := #[{ on := 14, ground := Go.Ground.data }], guard := none }) (v := ?_) rfl ?_ ?_
        rotate_left
        · (intro w hSw; (try dsimp only at hSw); (go_simp <;> with_reducible rfl))
        try simp only [Act.put, List.setIfInBounds_toArray, List.set_cons_zero, List.set_cons_succ]
        refine tkH (i := 16) (oi := { dst := some 94, op := Go.Op.extract (Go.Operand.tmp 78) 1, type := 36, pos := "law.go:42", after := #[{ on := 14, ground := Go.Ground.data }, { on := 17, ground := Go.Ground.gcOnly Go.Departure.lateStores }], guard := none }) (v := ?_) rfl ?_ ?_
        rotate_left
        · (intro w hSw; (try dsimp only at hSw); (go_simp <;> with_reducible rfl))
        try simp only [Act.put, List.setIfInBounds_toArray, List.set_cons_zero, List.set_cons_succ]
        refine tkH (i := 17) (oi := { dst := some 12, op := Go.Op.assign (Go.Operand.tmp 93), type := 26, pos := "law.go:42", after := #[{ on := 15, ground := Go.Ground.data }, { on := 13, ground := Go.Ground.chain }, { on := 0, ground := Go.Ground.phase }, { on := 1, ground := Go.Ground.phase }, { on := 2, ground := Go.Ground.phase }, { on := 3, ground := Go.Ground.phase }, { on := 4, ground := Go.Ground.phase }, { on := 5, ground := Go.Ground.phase }, { on := 6, ground := Go.Ground.phase }, { on := 7, ground := Go.Ground.phase }, { on := 8, ground := Go.Ground.phase }, { on := 9, ground := Go.Ground.phase }, { on := 10, ground := Go.Ground.phase }, { on := 11, ground := Go.Ground.phase }, { on := 12, ground := Go.Ground.phase }, { on := 13, ground := Go.Ground.phase }, { on := 14, ground := Go.Ground.phase }, { on := 15, ground := Go.Ground.phase }, { on := 16, ground := Go.Ground.textOnly Go.Departure.lateStores }], guard := none }) (v := ?_) rfl ?_ ?_
        rotate_left
        · (intro w hSw; (try dsimp only at hSw); (go_simp <;> with_reducible rfl))
        try simp only [Act.put, List.setIfInBounds_toArray, List.set_cons_zero, List.set_cons_succ]
        refine tkH (i := 18) (oi := { dst := some 13, op := Go.Op.assign (Go.Operand.tmp 94), type := 36, pos := "law.go:42", after := #[{ on := 16, ground := Go.Ground.data }, { on := 17, ground := Go.Ground.chain }, { on := 0, ground := Go.Ground.phase }, { on := 1, ground := Go.Ground.phase }, { on := 2, ground := Go.Ground.phase }, { on := 3, ground := Go.Ground.phase }, { on := 4, ground := Go.Ground.phase }, { on := 5, ground := Go.Ground.phase }, { on := 6, ground := Go.Ground.phase }, { on := 7, ground := Go.Ground.phase }, { on := 8, ground := Go.Ground.phase }, { on := 9, ground := Go.Ground.phase }, { on := 10, ground := Go.Ground.phase }, { on := 11, ground := Go.Ground.phase }, { on := 12, ground := Go.Ground.phase }, { on := 13, ground := Go.Ground.phase }, { on := 14, ground := Go.Ground.phase }, { on := 15, ground := Go.Ground.phase }, { on := 16, ground := Go.Ground.phase }, { on := 17, ground := Go.Ground.phase }], guard := none }) (v := ?_) rfl ?_ ?_
        rotate_left
        · (intro w hSw; (try dsimp only at hSw); (go_simp <;> with_reducible rfl))
        try simp only [Act.put, List.setIfInBounds_toArray, List.set_cons_zero, List.set_cons_succ]
        refine wpAnyH_done (by kernel_rfl) ?_ _
        go_wp2
        go_ret3
        exact HEz.out
      | false =>
        have HDb : Hid (Db wc lo d (.slice vo S1.L.length vcap) S1) := HAc.out.db
        have HO2 : Hid (Sb.Ok S1) := HO1.out
        have HSd := hide (fun W gW => HSo.out W d S1 gW HDb.out)
        have HOd := hide (fun W gW => HOf.out W d S1 gW HDb.out HO2.out HE1.out.1 HE1.out.2.1 HE1.out.2.2 rfl)
        have HEd := hide (fun W w' b p gW hK => HEn.out W w' d S1 b p gW HDb.out HO2.out HE1.out.1 hK)
        clear HSo HOf HEn HSf HAc HFc AF HF
        try simp only at HSd HOd HEd
        go_wp2
        refine wp_region_held_drew (S := (fun W => (W.cell? ⟨B6, 0, none⟩ = some (.int .i64 ((sa x : Nat) : Int)) ∧ W.cell? ⟨B6, 1, none⟩ = some (.int .i64 ((sb x : Nat) : Int)) ∧ W.cell? ⟨B6, 2, none⟩ = some (.int .i64 ((sc x : Nat) : Int))) ∧ W.cell? ⟨d, 4, none⟩ = some (.slice vo S1.L.length vcap) ∧ W.cell? ⟨d, 5, none⟩ = some (.int .u32 (S1.n : Int)) ∧ W.cell? ⟨d, 6, none⟩ = some (.int .i64 S1.t))) (by kernel_rfl) ?_ (fun hHeld => ?_)
        · (exact HSd.out _ (grown_drew _ none))
        refine tkH (i := 0) (oi := { dst := some 79, op := Go.Op.load 44 (Go.Operand.tmp 6), type := 44, pos := "law.go:42", after := #[], guard := none }) (v := ?_) rfl ?_ ?_
        rotate_left
        · (intro w hSw; (try dsimp only at hSw); (go_simp <;> with_reducible rfl))
        try simp only [Act.put, List.setIfInBounds_toArray, List.set_cons_zero, List.set_cons_succ]
        refine tkH (i := 1) (oi := { dst := some 80, op := Go.Op.move (Go.Operand.tmp 7), type := 27, pos := "law.go:42", after := #[], guard := none }) (v := ?_) rfl ?_ ?_
        rotate_left
        · (intro w hSw; (try dsimp only at hSw); (go_simp <;> with_reducible rfl))
        try simp only [Act.put, List.setIfInBounds_toArray, List.set_cons_zero, List.set_cons_succ]
        refine tkH (i := 2) (oi := { dst := some 81, op := Go.Op.nilCheck (Go.Operand.tmp 80), type := 0, pos := "law.go:42", after := #[{ on := 1, ground := Go.Ground.data }], guard := none }) (v := ?_) rfl ?_ ?_
        rotate_left
        · (intro w hSw; (try dsimp only at hSw); (go_simp <;> with_reducible rfl))
        try simp only [Act.put, List.setIfInBounds_toArray, List.set_cons_zero, List.set_cons_succ]
        refine tkH (i := 3) (oi := { dst := some 82, op := Go.Op.fieldAddr 59 (Go.Operand.tmp 81) 3, type := 0, pos := "law.go:42", after := #[{ on := 2, ground := Go.Ground.data }], guard := none }) (v := ?_) rfl ?_ ?_
        rotate_left
        · (intro w hSw; (try dsimp only at hSw); (go_simp <;> with_reducible rfl))
        try simp only [Act.put, List.setIfInBounds_toArray, List.set_cons_zero, List.set_cons_succ]
        refine tkH (i := 4) (oi := { dst := some 83, op := Go.Op.load 23 (Go.Operand.tmp 82), type := 23, pos := "law.go:42", after := #[{ on := 3, ground := Go.Ground.data }], guard := none }) (v := ?_) rfl ?_ ?_
        rotate_left
        · (intro w hSw; (try dsimp only at hSw); (go_simp <;> with_reducible rfl))
        try simp only [Act.put, List.setIfInBounds_toArray, List.set_cons_zero, List.set_cons_succ]
        refine tkH (i := 5) (oi := { dst := some 84, op := Go.Op.move (Go.Operand.tmp 7), type := 27, pos := "law.go:42", after := #[], guard := none }) (v := ?_) rfl ?_ ?_
        rotate_left
        · (intro w hSw; (try dsimp only at hSw); (go_simp <;> with_reducible rfl))
        try simp only [Act.put, List.setIfInBounds_toArray, List.set_cons_zero, List.set_cons_succ]
        refine tkH (i := 6) (oi := { dst := some 85, op := Go.Op.nilCheck (Go.Operand.tmp 84), type := 0, pos := "law.go:42", after := #[{ on := 5, ground := Go.Ground.data }], guard := none }) (v := ?_) rfl ?_ ?_
        rotate_left
        · (intro w hSw; (try dsimp only at hSw); (go_simp <;> with_reducible rfl))
        try simp only [Act.put, List.setIfInBounds_toArray, List.set_cons_zero, List.set_cons_succ]
        refine tkH (i := 7) (oi := { dst := some 86, op := Go.Op.fieldAddr 59 (Go.Operand.tmp 85) 4, type := 0, pos := "law.go:42", after := #[{ on := 6, ground := Go.Ground.data }], guard := none }) (v := ?_) rfl ?_ ?_
        rotate_left
        · (intro w hSw; (try dsimp only at hSw); (go_simp <;> with_reducible rfl))
        try simp only [Act.put, List.setIfInBounds_toArray, List.set_cons_zero, List.set_cons_succ]
        refine tkH (i := 8) (oi := { dst := some 87, op := Go.Op.load 2 (Go.Operand.tmp 86), type := 2, pos := "law.go:42", after := #[{ on := 7, ground := Go.Ground.data }], guard := none }) (v := ?_) rfl ?_ ?_
        rotate_left
        · (intro w hSw; (try dsimp only at hSw); (go_simp <;> with_reducible rfl))
        try simp only [Act.put, List.setIfInBounds_toArray, List.set_cons_zero, List.set_cons_succ]
        refine tkH (i := 9) (oi := { dst := some 88, op := Go.Op.move (Go.Operand.tmp 7), type := 27, pos := "law.go:42", after := #[], guard := none }) (v := ?_) rfl ?_ ?_
        rotate_left
        · (intro w hSw; (try dsimp only at hSw); (go_simp <;> with_reducible rfl))
        try simp only [Act.put, List.setIfInBounds_toArray, List.set_cons_zero, List.set_cons_succ]
        refine tkH (i := 10) (oi := { dst := some 89, op := Go.Op.nilCheck (Go.Operand.tmp 88), type := 0, pos := "law.go:42", after := #[{ on := 9, ground := Go.Ground.data }], guard := none }) (v := ?_) rfl ?_ ?_
        rotate_left
        · (intro w hSw; (try dsimp only at hSw); (go_simp <;> with_reducible rfl))
        try simp only [Act.put, List.setIfInBounds_toArray, List.set_cons_zero, List.set_cons_succ]
        refine tkH (i := 11) (oi := { dst := some 90, op := Go.Op.fieldAddr 59 (Go.Operand.tmp 89) 2, type := 0, pos := "law.go:42", after := #[{ on := 10, ground := Go.Ground.data }], guard := none }) (v := ?_) rfl ?_ ?_
        rotate_left
        · (intro w hSw; (try dsimp only at hSw); (go_simp <;> with_reducible rfl))
        try simp only [Act.put, List.setIfInBounds_toArray, List.set_cons_zero, List.set_cons_succ]
        refine tkH (i := 12) (oi := { dst := some 91, op := Go.Op.load 57 (Go.Operand.tmp 90), type := 57, pos := "law.go:42", after := #[{ on := 11, ground := Go.Ground.data }], guard := none }) (v := ?_) rfl ?_ ?_
        rotate_left
        · (intro w hSw; (try dsimp only at hSw); (go_simp <;> with_reducible rfl))
        try simp only [Act.put, List.setIfInBounds_toArray, List.set_cons_zero, List.set_cons_succ]
        refine rdH (i := 13) (o := { dst := some 92, op := Go.Op.call { callee := Go.Callee.value (Go.Operand.func 14), args := #[Go.Operand.tmp 79, Go.Operand.tmp 83, Go.Operand.tmp 87, Go.Operand.tmp 91], argTypes := #[44, 23, 2, 57] }, type := 60, pos := "law.go:42", after := #[{ on := 0, ground := Go.Ground.data }, { on := 4, ground := Go.Ground.data }, { on := 8, ground := Go.Ground.data }, { on := 12, ground := Go.Ground.data }], guard := none }) rfl (fun K hK => ?_)
        go_simp
        refine (HOd.out _ (grown_drew _ none)).mono ?_; rintro e wz ⟨bz, pz, rfl, hKz⟩; have HEz := hide (HEd.out _ _ _ _ (grown_drew _ none) hKz); have hJ := HSd.out _ (grown_trans (grown_drew _ none) hKz.gr); clear hKz
        go_wp2_with fail
        refine hK.out _ _ ?_ (fun hHeld => ?_)
        · ((try dsimp only); assumption)
        clear hK K
        try simp only [Act.put, List.setIfInBounds_toArray, List.set_cons_zero, List.set_cons_succ]
        refine tkH (i := 14) (oi := { dst := some 78, op := Go.Op.move (Go.Operand.tmp 92), type := 60, pos := "law.go:42", after := #[{ on := 13, ground := Go.Ground.data }], guard := none }) (v := ?_) rfl ?_ ?_
        rotate_left
        · (intro w hSw; (try dsimp only at hSw); (go_simp <;> with_reducible rfl))
        try simp only [Act.put, List.setIfInBounds_toArray, List.set_cons_zero, List.set_cons_succ]
        refine tkH (i := 15) (oi := { dst := some 93, op := Go.Op.extract (Go.Operand.tmp 78) 0, type := 26, pos := "law.go:42", after := #[{ on := 14, ground := Go.Ground.data }], guard := none }) (v := ?_) rfl ?_ ?_
        rotate_left
        · (intro w hSw; (try dsimp only at hSw); (go_simp <;> with_reducible rfl))
        try simp only [Act.put, List.setIfInBounds_toArray, List.set_cons_zero, List.set_cons_succ]
        refine tkH (i := 16) (oi := { dst := some 94, op := Go.Op.extract (Go.Operand.tmp 78) 1, type := 36, pos := "law.go:42", after := #[{ on := 14, ground := Go.Ground.data }, { on := 17, ground := Go.Ground.gcOnly Go.Departure.lateStores }], guard := none }) (v := ?_) rfl ?_ ?_
        rotate_left
        · (intro w hSw; (try dsimp only at hSw); (go_simp <;> with_reducible rfl))
        try simp only [Act.put, List.setIfInBounds_toArray, List.set_cons_zero, List.set_cons_succ]
        refine tkH (i := 17) (oi := { dst := some 12, op := Go.Op.assign (Go.Operand.tmp 93), type := 26, pos := "law.go:42", after := #[{ on := 15, ground := Go.Ground.data }, { on := 13, ground := Go.Ground.chain }, { on := 0, ground := Go.Ground.phase }, { on := 1, ground := Go.Ground.phase }, { on := 2, ground := Go.Ground.phase }, { on := 3, ground := Go.Ground.phase }, { on := 4, ground := Go.Ground.phase }, { on := 5, ground := Go.Ground.phase }, { on := 6, ground := Go.Ground.phase }, { on := 7, ground := Go.Ground.phase }, { on := 8, ground := Go.Ground.phase }, { on := 9, ground := Go.Ground.phase }, { on := 10, ground := Go.Ground.phase }, { on := 11, ground := Go.Ground.phase }, { on := 12, ground := Go.Ground.phase }, { on := 13, ground := Go.Ground.phase }, { on := 14, ground := Go.Ground.phase }, { on := 15, ground := Go.Ground.phase }, { on := 16, ground := Go.Ground.textOnly Go.Departure.lateStores }], guard := none }) (v := ?_) rfl ?_ ?_
        rotate_left
        · (intro w hSw; (try dsimp only at hSw); (go_simp <;> with_reducible rfl))
        try simp only [Act.put, List.setIfInBounds_toArray, List.set_cons_zero, List.set_cons_succ]
        refine tkH (i := 18) (oi := { dst := some 13, op := Go.Op.assign (Go.Operand.tmp 94), type := 36, pos := "law.go:42", after := #[{ on := 16, ground := Go.Ground.data }, { on := 17, ground := Go.Ground.chain }, { on := 0, ground := Go.Ground.phase }, { on := 1, ground := Go.Ground.phase }, { on := 2, ground := Go.Ground.phase }, { on := 3, ground := Go.Ground.phase }, { on := 4, ground := Go.Ground.phase }, { on := 5, ground := Go.Ground.phase }, { on := 6, ground := Go.Ground.phase }, { on := 7, ground := Go.Ground.phase }, { on := 8, ground := Go.Ground.phase }, { on := 9, ground := Go.Ground.phase }, { on := 10, ground := Go.Ground.phase }, { on := 11, ground := Go.Ground.phase }, { on := 12, ground := Go.Ground.phase }, { on := 13, ground := Go.Ground.phase }, { on := 14, ground := Go.Ground.phase }, { on := 15, ground := Go.Ground.phase }, { on := 16, ground := Go.Ground.phase }, { on := 17, ground := Go.Ground.phase }], guard := none }) (v := ?_) rfl ?_ ?_
        rotate_left
        · (intro w hSw; (try dsimp only at hSw); (go_simp <;> with_reducible rfl))
        try simp only [Act.put, List.setIfInBounds_toArray, List.set_cons_zero, List.set_cons_succ]
        refine wpAnyH_done (by kernel_rfl) ?_ _
        go_wp2
        go_ret3
        exact HEz.out
end Go.Proofs.YtjfhilignbeboabGreatDoor
