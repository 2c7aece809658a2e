/- The walk of IndexPlays. -/
import Derived.Test.YtoocaioilpgmeaaRe
import Derived.Test.YtoocaioilpgmeaaRq
import Derived.Deep.CutRange
import Derived.Deep.DeepCutAuto
namespace Go.Proofs.Ytoocaioilpgmeaa
open Go.RowKit Ix Go.Shelf
attribute [local go_sem ↓] Go.wp_at_zero Go.wp_at_succ
set_option maxRecDepth 100000 in
set_option maxHeartbeats 8000000 in
theorem indexPlays_any (k : Int) (ao : Option Addr) (len cap : Nat) (os : List OpD) (w : World) (hS : Scr w ao len cap os) :
    Calls Try.prog 4 #[.int .i64 k, .slice ao len cap] w fun e w' => e = .returned (.bool true) ∧ w.grownBy w' none := by
  by_cases hk : k < 1 ∨ 4096 < k
  · have h1 := new_bad k hk w
    have h2 := rnew_bad k hk w
    clear hk hS
    go_enter Try.func4, Try.ntmps4
    go_wp2_with fail
    refine h1.mono ?_
    clear h1
    rintro e wx ⟨rfl, hwx⟩
    obtain rfl := hwx.symm
    go_wp2_with fail
    refine h2.mono ?_
    clear h2
    rintro e wx ⟨rfl, hwx⟩
    obtain rfl := hwx.symm
    go_wp2_with fail
    refine (awake_any _).mono ?_
    rintro e w1 ⟨rfl, g1⟩
    have G := hide g1
    clear g1
    go_wp2
    go_ret
    exact ⟨rfl, G.out⟩
  · obtain ⟨m, rfl⟩ : ∃ m : Nat, k = (m : Int) := ⟨k.toNat, by omega⟩
    have hm1 : 1 ≤ m ∧ m ≤ 4096 := by omega
    have h1 := new_io m hm1.1 hm1.2 w
    have HS := hide (And.intro hS hm1)
    clear hk hS
    go_enter Try.func4, Try.ntmps4
    go_wp2_with fail
    refine h1.mono ?_
    clear h1
    rintro e w1 ⟨p, rfl, hpm, hio, g1, hown⟩
    have h2 := rnew_any m hm1.1 hm1.2 w1
    have H1 := hide (And.intro hpm (And.intro hio (And.intro g1 hown)))
    clear hpm hio g1 hown hm1
    go_wp2_with fail
    refine h2.mono ?_
    clear h2
    rintro e w2 ⟨r, rfl, hrf, g2⟩
    have T2 : Hid (Tw w w2 p r (.slice none 0 0) [] [] false) := by
      refine ⟨H1.out.2.1.then g2, ⟨by rw [H1.out.1]; exact hrf.head, World.ownsRow_nil _ _ _ _, Nat.le_trans H1.out.2.2.1.size hrf.base⟩, grown_trans H1.out.2.2.1 g2, H1.out.2.2.2, fun i hi => ⟨fun e => ?_, fun e => by cases e⟩⟩
      · have := H1.out.2.1.lt i hi
        have := hrf.base
        omega
    clear hrf g2
    go_wp2
    go_loopg [9, 10] len (fun q v9 v10 wr => ∃ (i : Nat) (lo : Bool), v10 = .int .i64 (i : Int) ∧ v9 = .bool lo ∧ Hid (q = len - i ∧ i ≤ len ∧ i ≤ 3000 ∧ ∃ vl M, Tw w wr p r vl M M lo))
    case atStart => exact ⟨0, false, rfl, rfl, by simp, Nat.zero_le _, Nat.zero_le _, _, _, T2.out⟩
    case round =>
      obtain ⟨i, lo, rfl, rfl, HR⟩ := hrel
      obtain ⟨vl, M, t⟩ := HR.out.2.2.2
      by_cases hlt : i < len ∧ i < 3000
      · obtain ⟨hl1, hl2⟩ := hlt
        obtain ⟨o, hoi⟩ : ∃ o, os[i]? = some o := ⟨os[i]'(by rw [HS.out.1.len]; exact hl1), by simp⟩
        obtain ⟨blk, off, rfl, s1, s2, s3⟩ := HS.out.1.at_.grown t.gr i o hoi
        obtain ⟨_, _, e0, c1, c2, c3⟩ := HS.out.1.at_ i o hoi
        cases e0
        have hok := HS.out.1.ok o (List.mem_of_getElem? hoi)
        have hblk : blk < w.heap.size := by
          unfold World.cell? at c1
          cases hq : w.heap[blk]? with
          | none => simp [hq] at c1
          | some ob => exact row_lt hq
        have HAns : Hid (∀ W, wr.grownBy W none → Calls Try.prog 20 #[.pointer (some ⟨p.x, 0, none⟩), .pointer (some ⟨r, 0, none⟩), .agg #[.int .i64 o.K, .int .u32 (o.I : Int), .int .i64 o.V]] W fun e w' => e = .returned (.bool true) ∧ ∃ vl', Tw w w' p r vl' (stM M p.m o) (stM M p.m o) (stL lo o) ∧ w'.heap[blk]? = wr.heap[blk]?) := by
          intro W hW
          refine (answers_tw (t.then hW) o hok).mono ?_
          rintro e w' ⟨rfl, vl', t', hk'⟩
          exact ⟨rfl, vl', t', (hk' blk hblk).trans (hW.block blk (Nat.lt_of_lt_of_le hblk t.gr.size) (by simp))⟩
        have b1 : ((i : Int) < (len : Int)) = True := by simp; omega
        have b2 : ((i : Int) < 3000) = True := by simp; omega
        have b3 : IntKind.i64.wrap ((i : Int) + 1) = (i : Int) + 1 := by rw [IntKind.wrap_i64]; omega
        have HL := hide (And.intro hl1 hl2)
        obtain ⟨lo2, hlo2⟩ : ∃ lo2, lo2 = stL lo o := ⟨_, rfl⟩
        rw [← hlo2] at HAns
        generalize stM M p.m o = M' at *
        obtain ⟨K, I, V⟩ := o
        simp only at s1 s2 s3 HAns
        have HCx : Hid (∀ W : World, W.heap[blk]? = wr.heap[blk]? → W.cell? ⟨blk, off + i * 3, none⟩ = some (.int .i64 K) ∧ W.cell? ⟨blk, off + i * 3 + 1, none⟩ = some (.int .u32 (I : Int)) ∧ W.cell? ⟨blk, off + i * 3 + 2, none⟩ = some (.int .i64 V)) := by
          intro W hW
          refine ⟨?_, ?_, ?_⟩
          · unfold World.cell? at s1 ⊢; simp only [hW]; exact s1
          · unfold World.cell? at s2 ⊢; simp only [hW]; exact s2
          · unfold World.cell? at s3 ⊢; simp only [hW]; exact s3
        clear c1 c2 c3 hoi hok hblk t hl1 hl2
        have HLO := hide hlo2
        clear hlo2
        go_upto_region 11 with fail
        go_cut [9] from 44 to 60 (fun s9 wx => s9 = .bool lo2 ∧ wx = wr)
        case first =>
          cases lo with
          | true =>
            go_wp2
            go_meet
            case rel => exact ⟨by rw [HLO.out]; simp [stL], rfl⟩
          | false =>
            by_cases hk1 : 1 ≤ K
            · by_cases hk2 : K ≤ 4
              · have d1 : decide (1 ≤ K) = true := by simpa using hk1
                have d2 : decide (K ≤ 4) = true := by simpa using hk2
                have HK := hide (And.intro hk1 hk2)
                clear hk1 hk2
                go_wp2
                go_meet
                case rel => exact ⟨by rw [HLO.out]; simp [stL, HK.out.1, HK.out.2], rfl⟩
              · have d1 : decide (1 ≤ K) = true := by simpa using hk1
                have d2 : decide (K ≤ 4) = false := by simpa using hk2
                have HK := hide (And.intro hk1 hk2)
                clear hk1 hk2
                go_wp2
                go_meet
                case rel => exact ⟨by rw [HLO.out]; simp [stL, HK.out.2], rfl⟩
            · have d1 : decide (1 ≤ K) = false := by simpa using hk1
              have HK := hide hk1
              clear hk1
              go_wp2
              go_meet
              case rel => exact ⟨by rw [HLO.out, show stL false ⟨K, I, V⟩ = false by unfold stL; simp only; rw [decide_eq_false (show ¬ (1 ≤ K) by have := HK.out; omega)]; rfl], rfl⟩
        case rest =>
        obtain ⟨rfl, hwc⟩ := hcut
        subst hwc
        go_upto_region 12 with fail
        refine wp_region_held_drew (S := (fun W => W.cell? ⟨blk, off + i * 3, none⟩ = some (.int .i64 K) ∧ W.cell? ⟨blk, off + i * 3 + 1, none⟩ = some (.int .u32 (I : Int)) ∧ W.cell? ⟨blk, off + i * 3 + 2, none⟩ = some (.int .i64 V))) (by kernel_rfl) ?_ (fun hHeld => ?_)
        · (exact ⟨s1, s2, s3⟩)
        refine wpAnyH_take (i := 0) (oi := { dst := some 61, op := Go.Op.move (Go.Operand.tmp 5), type := 22, pos := "law.go:127", after := #[], guard := none }) (v := ?_) rfl (by kernel_rfl) (by kernel_rfl) (by kernel_rfl) (fun _ _ _ h => h) (Or.inl ⟨by rfl, ?_⟩) (by assumption) ?_
        rotate_left
        · (intro w hSw; (try dsimp only at hSw); (go_simp <;> with_reducible rfl))
        try simp only [Act.put, List.setIfInBounds_toArray, List.set_cons_zero, List.set_cons_succ]
        refine wpAnyH_take (i := 1) (oi := { dst := some 62, op := Go.Op.move (Go.Operand.tmp 7), type := 43, pos := "law.go:127", after := #[], guard := none }) (v := ?_) rfl (by kernel_rfl) (by kernel_rfl) (by kernel_rfl) (fun _ _ _ h => h) (Or.inl ⟨by rfl, ?_⟩) (by assumption) ?_
        rotate_left
        · (intro w hSw; (try dsimp only at hSw); (go_simp <;> with_reducible rfl))
        try simp only [Act.put, List.setIfInBounds_toArray, List.set_cons_zero, List.set_cons_succ]
        refine wpAnyH_take (i := 2) (oi := { dst := some 63, op := Go.Op.move (Go.Operand.tmp 1), type := 42, pos := "law.go:127", after := #[], guard := none }) (v := ?_) rfl (by kernel_rfl) (by kernel_rfl) (by kernel_rfl) (fun _ _ _ h => h) (Or.inl ⟨by rfl, ?_⟩) (by assumption) ?_
        rotate_left
        · (intro w hSw; (try dsimp only at hSw); (go_simp <;> with_reducible rfl))
        try simp only [Act.put, List.setIfInBounds_toArray, List.set_cons_zero, List.set_cons_succ]
        refine wpAnyH_take (i := 3) (oi := { dst := some 64, op := Go.Op.move (Go.Operand.tmp 10), type := 3, pos := "law.go:127", after := #[], guard := none }) (v := ?_) rfl (by kernel_rfl) (by kernel_rfl) (by kernel_rfl) (fun _ _ _ h => h) (Or.inl ⟨by rfl, ?_⟩) (by assumption) ?_
        rotate_left
        · (intro w hSw; (try dsimp only at hSw); (go_simp <;> with_reducible rfl))
        try simp only [Act.put, List.setIfInBounds_toArray, List.set_cons_zero, List.set_cons_succ]
        refine wpAnyH_take (i := 4) (oi := { dst := some 65, op := Go.Op.indexAddr 42 (Go.Operand.tmp 63) (Go.Operand.tmp 64), type := 0, pos := "law.go:127", after := #[{ on := 2, ground := Go.Ground.data }, { on := 3, ground := Go.Ground.data }], guard := none }) (v := ?_) rfl (by kernel_rfl) (by kernel_rfl) (by kernel_rfl) (fun _ _ _ h => h) (Or.inl ⟨by rfl, ?_⟩) (by assumption) ?_
        rotate_left
        · (intro w hSw; (try dsimp only at hSw); (go_simp <;> with_reducible rfl))
        try simp only [Act.put, List.setIfInBounds_toArray, List.set_cons_zero, List.set_cons_succ]
        refine wpAnyH_take (i := 5) (oi := { dst := some 66, op := Go.Op.load 47 (Go.Operand.tmp 65), type := 47, pos := "law.go:127", after := #[{ on := 4, ground := Go.Ground.data }], guard := none }) (v := ?_) rfl (by kernel_rfl) (by kernel_rfl) (by kernel_rfl) (fun _ _ _ h => h) (Or.inl ⟨by rfl, ?_⟩) (by assumption) ?_
        rotate_left
        · (intro w hSw; (try dsimp only at hSw); (go_simp <;> with_reducible rfl))
        try simp only [Act.put, List.setIfInBounds_toArray, List.set_cons_zero, List.set_cons_succ]
        refine wpAnyH_ready (rs := [6]) (by kernel_rfl) (by simp) ?_
        refine AllReadyH.cons (o := { dst := some 67, op := Go.Op.call { callee := Go.Callee.value (Go.Operand.func 20), args := #[Go.Operand.tmp 61, Go.Operand.tmp 62, Go.Operand.tmp 66], argTypes := #[22, 43, 47] }, type := 4, pos := "law.go:127", after := #[{ on := 0, ground := Go.Ground.data }, { on := 1, ground := Go.Ground.data }, { on := 5, ground := Go.Ground.data }], guard := none }) rfl (fun K hK => ?_) ?_
        rotate_left
        · exact AllReadyH.nil
        go_simp
        refine (HAns.out _ (grown_drew _ _)).mono ?_
        rintro r4 w4 ⟨rfl, vl', t4, hk4⟩
        have hc4 := HCx.out w4 hk4
        go_wp2_with fail
        refine hK.out _ _ ?_ (fun hHeld => ?_)
        · ((try dsimp only); exact hc4)
        clear hK K
        try simp only [Act.put, List.setIfInBounds_toArray, List.set_cons_zero, List.set_cons_succ]
        have hfew := t4.io.few
        have q1 : ∀ n, Calls Try.prog 14 #[.pointer (some ⟨p.x, 0, none⟩)] (w4.drewN n) fun e w' => e = .returned (.int .i64 (M'.length : Int)) ∧ w' = w4.drewN n := fun n => (t4.io.then (grown_drewN _ _ _)).len
        have q2 : ∀ n, Calls Try.prog 13 #[.pointer (some ⟨p.x, 0, none⟩)] (w4.drewN n) fun e w' => e = .returned (.int .i64 (m : Int)) ∧ w' = w4.drewN n := fun n => by have := (t4.io.then (grown_drewN w4 n none)).most; rw [H1.out.1] at this; exact this
        have q3 : ∀ n, Calls Try.prog 16 #[.pointer (some ⟨p.x, 0, none⟩)] (w4.drewN n) fun e w' => e = .returned (.int .i64 (p.n : Int)) ∧ w' = w4.drewN n := fun n => (t4.io.then (grown_drewN _ _ _)).slots
        have q4 : ∀ n, Calls Try.prog 21 #[.pointer (some ⟨r, 0, none⟩)] (w4.drewN n) fun e w' => e = .returned (.int .i64 (p.n : Int)) ∧ w' = w4.drewN n := fun n => by
          refine (rslots_any (t4.rf.grown (grown_drewN w4 n none)) hfew.2.2.1 hfew.2.1).mono ?_
          rintro e w' ⟨nn, rfl, hsz, rfl⟩
          rw [hsz.unique hfew.2.2.2]
          exact ⟨rfl, rfl⟩
        obtain ⟨st, hst1, hst2, hst3⟩ := t4.io.steps
        have q5 : ∀ n, Calls Try.prog 15 #[.pointer (some ⟨p.x, 0, none⟩)] (w4.drewN n) fun e w' => e = .returned (.int .i64 (st : Int)) ∧ w' = w4.drewN n := fun n => hst3 _ (fun _ _ => rfl)
        obtain ⟨-, x1⟩ := t4.rf.cells
        obtain ⟨vo4, vc4, rfl, -⟩ := own_form t4.rf.row
        have HQ := hide (And.intro q1 (And.intro q2 (And.intro q3 (And.intro q4 q5))))
        have H4 := hide t4
        have hnst : decide (p.n < st) = false := by simp; omega
        have hsl : decide (1 ≤ st) = lo2 := by
          cases lo2 with
          | true => simpa using hst2.1 rfl
          | false =>
            have hno : ¬ 1 ≤ st := fun h => by have := hst2.2 h; cases this
            simpa using hno
        have hsl2 : decide ((1 : Int) ≤ (st : Int)) = lo2 := by rw [← hsl]; congr 1; apply propext; omega
        clear q1 q2 q3 q4 q5 hst1 hst2 hst3 t4 hfew s1 s2 s3 hHeld
        have hS4 : ∀ n, (fun W : World => W.cell? ⟨blk, off + i * 3, none⟩ = some (.int .i64 K) ∧ W.cell? ⟨blk, off + i * 3 + 1, none⟩ = some (.int .u32 (I : Int)) ∧ W.cell? ⟨blk, off + i * 3 + 2, none⟩ = some (.int .i64 V)) (w4.drewN n) := fun n => hc4
        generalize p.n = pn at *
        generalize M'.length = LM at *
        refine wpAnyH_rest 7 [
          { dst := some 68, op := Go.Op.unOp Go.UnOp.not 4 (Go.Operand.tmp 67), type := 4, pos := "law.go:127", after := #[{ on := 6, ground := Go.Ground.data }], guard := none },
          { dst := some 69, op := Go.Op.move (Go.Operand.tmp 68), type := 4, pos := "law.go:127", after := #[{ on := 7, ground := Go.Ground.data }, { on := 6, ground := Go.Ground.chain }], guard := none },
          { dst := some 70, op := Go.Op.move (Go.Operand.tmp 5), type := 22, pos := "law.go:127", after := #[{ on := 8, ground := Go.Ground.guard }], guard := some (8, false) },
          { dst := some 71, op := Go.Op.call { callee := Go.Callee.value (Go.Operand.func 14), args := #[Go.Operand.tmp 70], argTypes := #[22] }, type := 3, pos := "law.go:127", after := #[{ on := 9, ground := Go.Ground.data }, { on := 8, ground := Go.Ground.chain }, { on := 8, ground := Go.Ground.guard }], guard := some (8, false) },
          { dst := some 72, op := Go.Op.move (Go.Operand.tmp 7), type := 43, pos := "law.go:127", after := #[{ on := 8, ground := Go.Ground.guard }], guard := some (8, false) },
          { dst := some 73, op := Go.Op.nilCheck (Go.Operand.tmp 72), type := 0, pos := "law.go:127", after := #[{ on := 11, ground := Go.Ground.data }, { on := 8, ground := Go.Ground.guard }], guard := some (8, false) },
          { dst := some 74, op := Go.Op.fieldAddr 51 (Go.Operand.tmp 73) 1, type := 0, pos := "law.go:127", after := #[{ on := 12, ground := Go.Ground.data }, { on := 8, ground := Go.Ground.guard }], guard := some (8, false) },
          { dst := some 75, op := Go.Op.load 49 (Go.Operand.tmp 74), type := 49, pos := "law.go:127", after := #[{ on := 13, ground := Go.Ground.data }, { on := 8, ground := Go.Ground.guard }], guard := some (8, false) },
          { dst := some 76, op := Go.Op.call { callee := Go.Callee.builtin Go.Builtin.len, args := #[Go.Operand.tmp 75], argTypes := #[49] }, type := 3, pos := "law.go:127", after := #[{ on := 14, ground := Go.Ground.data }, { on := 8, ground := Go.Ground.guard }], guard := some (8, false) },
          { dst := some 77, op := Go.Op.binOp Go.BinOp.neq 3 (Go.Operand.tmp 71) (Go.Operand.tmp 76) 3, type := 4, pos := "law.go:127", after := #[{ on := 10, ground := Go.Ground.data }, { on := 15, ground := Go.Ground.data }, { on := 8, ground := Go.Ground.guard }], guard := some (8, false) },
          { dst := some 78, op := Go.Op.pick (Go.Operand.tmp 69) (Go.Operand.const (Go.Value.bool true)) (Go.Operand.tmp 77), type := 4, pos := "law.go:127", after := #[{ on := 8, ground := Go.Ground.data }, { on := 16, ground := Go.Ground.data }], guard := none },
          { dst := some 79, op := Go.Op.move (Go.Operand.tmp 78), type := 4, pos := "law.go:127", after := #[{ on := 17, ground := Go.Ground.data }, { on := 10, ground := Go.Ground.chain }], guard := none },
          { dst := some 80, op := Go.Op.move (Go.Operand.tmp 5), type := 22, pos := "law.go:127", after := #[{ on := 18, ground := Go.Ground.guard }], guard := some (18, false) },
          { dst := some 81, op := Go.Op.call { callee := Go.Callee.value (Go.Operand.func 13), args := #[Go.Operand.tmp 80], argTypes := #[22] }, type := 3, pos := "law.go:127", after := #[{ on := 19, ground := Go.Ground.data }, { on := 18, ground := Go.Ground.chain }, { on := 18, ground := Go.Ground.guard }], guard := some (18, false) },
          { dst := some 82, op := Go.Op.move (Go.Operand.tmp 0), type := 3, pos := "law.go:127", after := #[{ on := 18, ground := Go.Ground.guard }], guard := some (18, false) },
          { dst := some 83, op := Go.Op.binOp Go.BinOp.neq 3 (Go.Operand.tmp 81) (Go.Operand.tmp 82) 3, type := 4, pos := "law.go:127", after := #[{ on := 20, ground := Go.Ground.data }, { on := 21, ground := Go.Ground.data }, { on := 18, ground := Go.Ground.guard }], guard := some (18, false) },
          { dst := some 84, op := Go.Op.pick (Go.Operand.tmp 79) (Go.Operand.const (Go.Value.bool true)) (Go.Operand.tmp 83), type := 4, pos := "law.go:127", after := #[{ on := 18, ground := Go.Ground.data }, { on := 22, ground := Go.Ground.data }], guard := none },
          { dst := some 85, op := Go.Op.move (Go.Operand.tmp 84), type := 4, pos := "law.go:127", after := #[{ on := 23, ground := Go.Ground.data }, { on := 20, ground := Go.Ground.chain }], guard := none },
          { dst := some 86, op := Go.Op.move (Go.Operand.tmp 5), type := 22, pos := "law.go:127", after := #[{ on := 24, ground := Go.Ground.guard }], guard := some (24, false) },
          { dst := some 87, op := Go.Op.call { callee := Go.Callee.value (Go.Operand.func 16), args := #[Go.Operand.tmp 86], argTypes := #[22] }, type := 3, pos := "law.go:127", after := #[{ on := 25, ground := Go.Ground.data }, { on := 24, ground := Go.Ground.chain }, { on := 24, ground := Go.Ground.guard }], guard := some (24, false) },
          { dst := some 88, op := Go.Op.move (Go.Operand.tmp 7), type := 43, pos := "law.go:127", after := #[{ on := 24, ground := Go.Ground.guard }], guard := some (24, false) },
          { dst := some 89, op := Go.Op.call { callee := Go.Callee.value (Go.Operand.func 21), args := #[Go.Operand.tmp 88], argTypes := #[43] }, type := 3, pos := "law.go:127", after := #[{ on := 27, ground := Go.Ground.data }, { on := 26, ground := Go.Ground.chain }, { on := 24, ground := Go.Ground.guard }], guard := some (24, false) },
          { dst := some 90, op := Go.Op.binOp Go.BinOp.neq 3 (Go.Operand.tmp 87) (Go.Operand.tmp 89) 3, type := 4, pos := "law.go:127", after := #[{ on := 26, ground := Go.Ground.data }, { on := 28, ground := Go.Ground.data }, { on := 24, ground := Go.Ground.guard }], guard := some (24, false) },
          { dst := some 91, op := Go.Op.pick (Go.Operand.tmp 85) (Go.Operand.const (Go.Value.bool true)) (Go.Operand.tmp 90), type := 4, pos := "law.go:127", after := #[{ on := 24, ground := Go.Ground.data }, { on := 29, ground := Go.Ground.data }], guard := none },
          { dst := some 92, op := Go.Op.move (Go.Operand.tmp 91), type := 4, pos := "law.go:127", after := #[{ on := 30, ground := Go.Ground.data }, { on := 28, ground := Go.Ground.chain }], guard := none },
          { dst := some 93, op := Go.Op.move (Go.Operand.tmp 5), type := 22, pos := "law.go:127", after := #[{ on := 31, ground := Go.Ground.guard }], guard := some (31, false) },
          { dst := some 94, op := Go.Op.call { callee := Go.Callee.value (Go.Operand.func 15), args := #[Go.Operand.tmp 93], argTypes := #[22] }, type := 3, pos := "law.go:127", after := #[{ on := 32, ground := Go.Ground.data }, { on := 31, ground := Go.Ground.chain }, { on := 31, ground := Go.Ground.guard }], guard := some (31, false) },
          { dst := some 95, op := Go.Op.move (Go.Operand.tmp 5), type := 22, pos := "law.go:127", after := #[{ on := 31, ground := Go.Ground.guard }], guard := some (31, false) },
          { dst := some 96, op := Go.Op.call { callee := Go.Callee.value (Go.Operand.func 16), args := #[Go.Operand.tmp 95], argTypes := #[22] }, type := 3, pos := "law.go:127", after := #[{ on := 34, ground := Go.Ground.data }, { on := 33, ground := Go.Ground.chain }, { on := 31, ground := Go.Ground.guard }], guard := some (31, false) },
          { dst := some 97, op := Go.Op.binOp Go.BinOp.gtr 3 (Go.Operand.tmp 94) (Go.Operand.tmp 96) 3, type := 4, pos := "law.go:127", after := #[{ on := 33, ground := Go.Ground.data }, { on := 35, ground := Go.Ground.data }, { on := 31, ground := Go.Ground.guard }], guard := some (31, false) },
          { dst := some 98, op := Go.Op.pick (Go.Operand.tmp 92) (Go.Operand.const (Go.Value.bool true)) (Go.Operand.tmp 97), type := 4, pos := "law.go:127", after := #[{ on := 31, ground := Go.Ground.data }, { on := 36, ground := Go.Ground.data }], guard := none },
          { dst := some 99, op := Go.Op.move (Go.Operand.tmp 98), type := 4, pos := "law.go:127", after := #[{ on := 37, ground := Go.Ground.data }, { on := 35, ground := Go.Ground.chain }], guard := none },
          { dst := some 100, op := Go.Op.move (Go.Operand.tmp 5), type := 22, pos := "law.go:127", after := #[{ on := 38, ground := Go.Ground.guard }], guard := some (38, false) },
          { dst := some 101, op := Go.Op.call { callee := Go.Callee.value (Go.Operand.func 15), args := #[Go.Operand.tmp 100], argTypes := #[22] }, type := 3, pos := "law.go:127", after := #[{ on := 39, ground := Go.Ground.data }, { on := 38, ground := Go.Ground.chain }, { on := 38, ground := Go.Ground.guard }], guard := some (38, false) },
          { dst := some 102, op := Go.Op.binOp Go.BinOp.geq 3 (Go.Operand.tmp 101) (Go.Operand.const (Go.Value.int Go.IntKind.i64 1)) 3, type := 4, pos := "law.go:127", after := #[{ on := 40, ground := Go.Ground.data }, { on := 38, ground := Go.Ground.guard }], guard := some (38, false) },
          { dst := some 103, op := Go.Op.move (Go.Operand.tmp 9), type := 4, pos := "law.go:127", after := #[{ on := 38, ground := Go.Ground.guard }], guard := some (38, false) },
          { dst := some 104, op := Go.Op.binOp Go.BinOp.neq 4 (Go.Operand.tmp 102) (Go.Operand.tmp 103) 4, type := 4, pos := "law.go:127", after := #[{ on := 41, ground := Go.Ground.data }, { on := 42, ground := Go.Ground.data }, { on := 38, ground := Go.Ground.guard }], guard := some (38, false) },
          { dst := some 105, op := Go.Op.pick (Go.Operand.tmp 99) (Go.Operand.const (Go.Value.bool true)) (Go.Operand.tmp 104), type := 4, pos := "law.go:127", after := #[{ on := 38, ground := Go.Ground.data }, { on := 43, ground := Go.Ground.data }], guard := none }] (by kernel_rfl) (by kernel_rfl) (by kernel_rfl) (by kernel_rfl) hS4 ?_
        clear hS4 hc4
        repeat (quiet_step ((first
          | (go_at_call 14; exact Calls.quiet_of_same (HQ.out.1 _))
          | (go_at_call 13; exact Calls.quiet_of_same (HQ.out.2.1 _))
          | (go_at_call 16; exact Calls.quiet_of_same (HQ.out.2.2.1 _))
          | (go_at_call 21; exact Calls.quiet_of_same (HQ.out.2.2.2.1 _))
          | (go_at_call 15; exact Calls.quiet_of_same (HQ.out.2.2.2.2 _)))))
        refine wpQuiet_nil ?_
        intro _ hw'
        obtain ⟨nq, hw''⟩ := hw'
        subst hw''
        go_wp2
        go_roundg (gk - 1)
        case rel => exact ⟨i + 1, lo2, by simp, rfl, by have := HR.out.1; omega, by have := HL.out.1; omega, by have := HL.out.2; omega, _, _, H4.out.then (grown_drewN _ _ _)⟩
        case measure => have := HR.out.1; have := HL.out.1; omega
      · obtain ⟨-, x1⟩ := t.rf.cells
        have his := is_at t.io t.rf.row
        have HG := hide t.gr
        clear t
        by_cases hl1 : i < len
        · have b1 : ((i : Int) < (len : Int)) = True := by simp; omega
          have b2 : ((i : Int) < 3000) = False := by simp; omega
          clear hlt hl1
          go_wp2_with fail
          refine his.mono ?_
          clear his
          rintro e w3 ⟨rfl, g3⟩
          have G3 := hide (grown_trans HG.out g3)
          clear g3
          go_wp2_with fail
          refine (awake_any _).mono ?_
          rintro e w4 ⟨rfl, g4⟩
          have G4 := hide (grown_trans G3.out g4)
          clear g4
          go_wp2
          go_ret
          exact ⟨rfl, G4.out⟩
        · have b1 : ((i : Int) < (len : Int)) = False := by simp; omega
          clear hlt hl1
          go_wp2_with fail
          refine his.mono ?_
          clear his
          rintro e w3 ⟨rfl, g3⟩
          have G3 := hide (grown_trans HG.out g3)
          clear g3
          go_wp2_with fail
          refine (awake_any _).mono ?_
          rintro e w4 ⟨rfl, g4⟩
          have G4 := hide (grown_trans G3.out g4)
          clear g4
          go_wp2
          go_ret
          exact ⟨rfl, G4.out⟩
end Go.Proofs.Ytoocaioilpgmeaa
