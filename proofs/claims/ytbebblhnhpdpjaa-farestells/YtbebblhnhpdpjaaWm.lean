/- Fares that are lent: all of them. -/
import Derived.Test.YtbebblhnhpdpjaaWk
namespace Go.Proofs.Ytbebblhnhpdpjaa
open Go.RowKit
attribute [local go_sem ↓] Go.wp_at_zero Go.wp_at_succ
attribute [local go_sem] run_store_float

def Sz2 (l : List Fa) : Prop := ∀ (j : Nat) (c : Fa), l[j]? = some c → c.2.length ≤ 17592186043904
/-- The marks behind the fares. -/
def mf (j : Nat) : List (Fa × Value) := (List.range j).map fun (i : Nat) => ((Al.mkN 1 i, []), Value.slice none 0 0)
theorem mf_succ (j : Nat) : mf (j + 1) = mf j ++ [((Al.mkN 1 j, []), Value.slice none 0 0)] := by simp [mf, List.range_succ]
theorem mf_length (j : Nat) : (mf j).length = j := by simp [mf]
theorem mf_get (j i : Nat) (h : i < j) : (mf j)[i]? = some ((Al.mkN 1 i, []), Value.slice none 0 0) := by simp [mf, h]
/-- Fares lent so far, marks behind them. -/
structure LeS (B : Nat) (w : World) (o : Value) (pre : List (Fa × Value)) (t : Nat) : Prop where
  row : w.ownsRow B 48 2 o (pre.length + t) (fc (pre ++ mf t))
  el : ∀ e ∈ pre, e.1.2.length ≤ 17592186043904 ∧ LeR w B e.2 e.1.2
theorem LeR.keep {w w' : World} {B : Nat} {v : Value} {xs : List Nat} {row : Option Nat} (h : LeR w B v xs) (hg : w.grownBy w' row) (hr : ∀ b, row = some b → ∃ c fr, w.heap[b]? = some (.cells c 48 fr)) : LeR w' B v xs := by
  obtain ⟨g, cap, e, ho⟩ := h
  exact ⟨g, cap, e, own_kept ho hg hr (by decide)⟩
theorem LeS.grown {B : Nat} {w w' : World} {o : Value} {pre : List (Fa × Value)} {t : Nat} (h : LeS B w o pre t) (hg : w.grownBy w' none) : LeS B w' o pre t :=
  ⟨own_grownT h.row hg, fun e he => ⟨(h.el e he).1, (h.el e he).2.keep hg (fun b e => by cases e)⟩⟩
theorem LeS.row0 {B : Nat} {w : World} {o : Value} {pre : List (Fa × Value)} (h : LeS B w o pre 0) : w.ownsRow B 48 2 o pre.length (fc pre) := by
  have := h.row
  simpa [mf] using this
theorem LeS.push {B : Nat} {w w' : World} {o o' x : Value} {pre : List (Fa × Value)} {c : Fa} (h : LeS B w o pre 0) (hx : c.2.length ≤ 17592186043904 ∧ LeR w B x c.2) (ho : w'.ownsRow B 48 2 o' (pre.length + 1) (fc pre ++ [.float .f64 c.1, x])) (hg : w.grownBy w' o.ownBlock) : LeS B w' o' (pre ++ [(c, x)]) 0 := by
  have hr := fun b e => (own_rowblock h.row b e).2
  refine ⟨?_, fun e he => ?_⟩
  · have e1 : pre ++ [(c, x)] ++ mf 0 = pre ++ [(c, x)] := by simp [mf]
    rw [e1, fc_append, List.length_append]; exact ho
  · rcases List.mem_append.1 he with he | he
    · exact ⟨(h.el e he).1, (h.el e he).2.keep hg hr⟩
    · simp at he; subst he
      exact ⟨hx.1, hx.2.keep hg hr⟩
theorem LeS.mark {B : Nat} {w w' : World} {o o' : Value} {pre : List (Fa × Value)} {t : Nat} (h : LeS B w o pre t) (ho : w'.ownsRow B 48 2 o' (pre.length + t + 1) (fc (pre ++ mf t) ++ [.float .f64 (Al.mkN 1 t), .slice none 0 0])) (hg : w.grownBy w' o.ownBlock) : LeS B w' o' pre (t + 1) := by
  have hr := fun b e => (own_rowblock h.row b e).2
  refine ⟨?_, fun e he => ⟨(h.el e he).1, (h.el e he).2.keep hg hr⟩⟩
  rw [mf_succ, ← List.append_assoc, fc_append]; exact ho
theorem slice_to22 (ao : Option Addr) (len cap n : Nat) (h : n ≤ cap) (w : World) : (Instr.slice 22 (.slice ao len cap) none (some (.int .i64 (n : Int))) none).run Try.prog w = .ok (.slice ao n cap) w := by
  simp [Instr.slice, run_underlying Try.underlying22, Instr.sliceBounds, Instr.sliceBound, asIntOf, h]
  intro _; cases ao <;> simp [Addr.add]

set_option maxRecDepth 100000 in
set_option maxHeartbeats 4000000 in
theorem lentFares_any (ao : Option Addr) (cap n : Nat) (l : List Fa) (w : World) (hn : n = l.length) (hb : FasAt w ao l) (hs : n ≤ 4398046510976) (hz : Sz2 l) :
    Calls Try.prog 10 #[.slice ao n cap] w fun r w' => ∃ g c pre, r = .returned (.slice (some ⟨g, 0, none⟩) n c) ∧ pre.map Prod.fst = l ∧ LeS w.heap.size w' (.slice (some ⟨g, 0, none⟩) (n + 12) c) pre 12 ∧ w.grownBy w' none := by
  obtain ⟨i0, hi, hz0, hz1, hz2⟩ := info_parts Try.info48
  obtain ⟨w0, hmk, hown0, hg0⟩ := run_make_own (P := Try.prog) w w.heap.size 22 48 i0 (.agg #[.float .f64 0, .slice none 0 0]) 2 Try.underlying22 hi hz0 hz1 .i64 .i64 (n + 12) (by rw [hz2]; omega) (by unfold maxLen; omega) (Nat.le_refl _)
  have e12 : ((n + 12 : Nat) : Int) = (n : Int) + 12 := by omega
  rw [e12] at hmk
  have hw1 : IntKind.i64.wrap ((n : Int) + 12) = (n : Int) + 12 := by rw [IntKind.wrap_i64]; omega
  have HI := hide (And.intro hi (And.intro hz0 (And.intro hz1 hz2)))
  have HB := hide hb
  have HN := hide hn
  have HZ := hide hz
  have HO0 := hide (And.intro hown0 hg0)
  clear hi hz0 hz1 hz2 hn hb hz hown0 hg0 e12
  go_enter Try.func10, Try.ntmps10
  go_wp2
  clear hmk
  go_loopg [3, 4] n (fun q o i wr => ∃ (j : Nat) (pre : List (Fa × Value)), q + j = n ∧ i = .int .i64 j ∧ Hid (pre.length = j ∧ pre.map Prod.fst = l.take j ∧ LeS w.heap.size wr o pre 0 ∧ w.grownBy wr none))
  case atStart => exact ⟨0, [], by omega, rfl, hide ⟨rfl, rfl, ⟨by simpa [mf, fc] using HO0.out.1, fun e he => by simp at he⟩, HO0.out.2⟩⟩
  case round =>
    obtain ⟨j, pre, hqj, rfl, HR⟩ := hrel
    obtain ⟨po, pc, hpv⟩ := own_form HR.out.2.2.1.row0
    by_cases hk : 0 < gk
    · have hj : (j : Int) < (n : Int) := by omega
      obtain ⟨c, hc⟩ : ∃ c, l[j]? = some c := ⟨_, List.getElem?_eq_getElem (by have := HN.out; omega)⟩
      obtain ⟨p, cs⟩ := c
      obtain ⟨b, off, bo, bc, rfl, hfa⟩ := (HB.out.grown HR.out.2.2.2) j (p, cs) hc
      have c0 := hfa.c0
      have c1 := hfa.c1
      dsimp only at c0 c1
      have hzc : cs.length ≤ 17592186043904 := HZ.out j _ hc
      have HP := hide (lentFare_any p bo cs.length bc cs wr rfl hfa.sin.at_ hfa.sin.nil hzc)
      have HT : Hid (l.take (j + 1) = l.take j ++ [(p, cs)]) := hide (take_snoc hc)
      obtain ⟨m, hm⟩ : ∃ m, m = cs.length := ⟨_, rfl⟩
      rw [← hm] at c1 HP hzc
      have HM := hide hm
      have HZc := hide hzc
      have hss : w.heap.size ≤ wr.heap.size := HR.out.2.2.2.size
      clear hfa hc hm hzc
      subst hpv
      go_wp2_with fail
      refine HP.out.mono ?_
      rintro r w2 ⟨ng, nc, rfl, ho, hg⟩
      have HQ := hide (And.intro ho hg)
      clear ho hg HP c0 c1
      have ga := World.grownBy_alloc w2 (.cells #[.float .f64 p, .slice (some ⟨ng, 0, none⟩) m nc] 48) none
      have gb := World.grownBy_alloc (w2.alloc (.cells #[.float .f64 p, .slice (some ⟨ng, 0, none⟩) m nc] 48)) (.cells #[.float .f64 p, .slice (some ⟨ng, 0, none⟩) m nc] 48) none
      have HG := hide (grown_trans ga gb)
      have hss2 : w.heap.size ≤ w2.heap.size := Nat.le_trans hss HQ.out.2.size
      clear ga gb
      have hpl : Hid (pre.length = j) := HR.out.1
      go_wp2_with (at_builtin; refine wpList_append_own _ rfl (.tmp 22) (.tmp 24) 22 rfl w.heap.size 48 i0 (.agg #[.float .f64 0, .slice none 0 0]) 2 32 Try.underlying22 HI.out.1 HI.out.2.1 HI.out.2.2.1 HI.out.2.2.2 rfl (by decide) (.slice po pre.length pc) pre.length (fc pre) rfl (own_grownT HR.out.2.2.1.row0 (grown_trans HQ.out.2 HG.out)) ⟨w2.heap.size + 1, 0, none⟩ 1 1 [.float .f64 p, .slice (some ⟨ng, 0, none⟩) m nc] rfl rfl ?_ (by simp [Value.oneCell']) (by unfold maxLen; have := hpl.out; omega) (by have := hpl.out; omega) ?_ ?_)
      · have h := cell2_new (w2.alloc (.cells #[.float .f64 p, .slice (some ⟨ng, 0, none⟩) m nc] 48)) (.float .f64 p) (.slice (some ⟨ng, 0, none⟩) m nc) 48
        rw [World.size_alloc] at h
        exact h
      · simp; omega
      · intro v' w3 ho3 hg3 _
        have hF := (HR.out.2.2.1.grown HQ.out.2).grown HG.out
        have hx2 : (p, cs).2.length ≤ 17592186043904 := by rw [← HM.out]; exact HZc.out
        have hx := own_grownT (own_lowT HQ.out.1 hss) HG.out
        have hmm : (p, cs).2.length = m := HM.out.symm
        have hle : LeR _ w.heap.size (.slice (some ⟨ng, 0, none⟩) m nc) (p, cs).2 := ⟨ng, nc, by rw [hmm], by rw [hmm]; exact hx⟩
        have hp := hF.push (c := (p, cs)) (x := .slice (some ⟨ng, 0, none⟩) m nc) ⟨hx2, hle⟩ (by exact ho3) hg3
        have hgw : w.grownBy w3 none := grown_then (grown_trans (grown_trans HR.out.2.2.2 HQ.out.2) HG.out) hg3 (fun k e => Or.inl (own_rowblock HR.out.2.2.1.row k e).1)
        have H3 := hide (And.intro hp hgw)
        obtain ⟨ao3, c3, hv3⟩ := own_form ho3
        subst hv3
        clear hF hx hx2 hmm hle hp hgw ho3 hg3
        go_wp2
        go_roundg (gk - 1)
        case measure => omega
        case rel => exact ⟨j + 1, _, by omega, by go_num, hide ⟨by rw [List.length_append]; simp [hpl.out], by rw [List.map_append, HR.out.2.1, HT.out]; rfl, H3.out.1, H3.out.2⟩⟩
    · obtain rfl : j = n := by omega
      have hj : ¬ (j : Int) < (j : Int) := by omega
      subst hpv
      have HE : Hid (l.take j = l) := List.take_of_length_le (Nat.le_of_eq HN.out.symm)
      have HP0 : Hid (pre.length = j ∧ pre.map Prod.fst = l ∧ LeS w.heap.size wr (.slice po pre.length pc) pre 0 ∧ w.grownBy wr none) := hide ⟨HR.out.1, HR.out.2.1.trans HE.out, by have h := HR.out.2.2.1; exact h, HR.out.2.2.2⟩
      clear HR HE
      go_wp2
      go_loopg [3, 6] 12 (fun k o i wr => ∃ t : Nat, k + t = 12 ∧ i = .int .i64 t ∧ Hid (LeS w.heap.size wr o pre t ∧ w.grownBy wr none))
      case atStart => exact ⟨0, rfl, rfl, hide ⟨HP0.out.2.2.1, HP0.out.2.2.2⟩⟩
      case round =>
        obtain ⟨t, hkt, rfl, HR⟩ := hrel
        obtain ⟨po, pc, hpv⟩ := own_form HR.out.1.row
        have hlen : pre.length + t = j + t := by rw [HP0.out.1]
        by_cases hk : 0 < gk
        · have ht : (t : Int) < 12 := by omega
          have hss : w.heap.size ≤ wr.heap.size := HR.out.2.size
          rw [hlen] at hpv
          subst hpv
          have hrow := HR.out.1.row
          rw [hlen] at hrow
          obtain ⟨-, hrw⟩ := hrow
          have hcap : j + t ≤ pc := by
            rcases hrw with ⟨hx, h0⟩ | ⟨g, c2, cur, hv, -, -, h1, -⟩
            · simp only [Value.slice.injEq] at hx; omega
            · simp only [Value.slice.injEq] at hv; omega
          clear hrw
          go_wp2_with fail
          refine (markFare_any t _ (by omega)).mono ?_
          rintro e w2 ⟨rfl, hg2⟩
          have HG2 := hide hg2
          have hss2 : w.heap.size ≤ w2.heap.size := Nat.le_trans hss hg2.size
          have HG3 := hide (grown_trans hg2 (World.grownBy_alloc w2 (.cells #[.float .f64 (Al.mkN 1 t), .slice none 0 0] 48) none))
          have hrow3 := own_grownT HR.out.1.row HG3.out
          rw [hlen] at hrow3
          have HRow := hide hrow3
          clear hg2 hrow3
          go_wp2_with (at_builtin; refine wpList_append_own _ rfl (.tmp 30) (.tmp 33) 22 rfl w.heap.size 48 i0 (.agg #[.float .f64 0, .slice none 0 0]) 2 32 Try.underlying22 HI.out.1 HI.out.2.1 HI.out.2.2.1 HI.out.2.2.2 rfl (by decide) _ _ _ rfl HRow.out ⟨w2.heap.size, 0, none⟩ 1 1 [.float .f64 (Al.mkN 1 t), .slice none 0 0] rfl rfl (cell2_new _ _ _ _) (by simp [Value.oneCell']) (by unfold maxLen; omega) (by omega) (by simp; omega) ?_)
          intro v' w3 ho3 hg3 _
          have hF := HR.out.1.grown HG3.out
          have hp := hF.mark (by rw [hlen]; exact ho3) hg3
          have hgw : w.grownBy w3 none := grown_then (grown_trans HR.out.2 HG3.out) hg3 (fun k e => Or.inl (own_rowblock HR.out.1.row k e).1)
          have H3 := hide (And.intro hp hgw)
          clear hF hp hgw ho3 hg3 HRow HG2 HG3 HR
          go_wp2
          go_roundg (gk - 1)
          case measure => omega
          case rel => exact ⟨t + 1, by omega, by go_num, H3⟩
        · have ht : t = 12 := by omega
          subst ht
          rw [hlen] at hpv
          subst hpv
          have hrow := HR.out.1.row
          rw [hlen] at hrow
          obtain ⟨g, hpo, hcap⟩ : ∃ g, po = some ⟨g, 0, none⟩ ∧ j + 12 ≤ pc := by
            rcases hrow.2 with ⟨hx, h0⟩ | ⟨g, c2, cur, hv, -, -, h1, -⟩
            · omega
            · simp only [Value.slice.injEq] at hv; exact ⟨g, hv.1, by omega⟩
          subst hpo
          have hst := slice_to22 (some ⟨g, 0, none⟩) (j + 12) pc j (by omega)
          clear hrow
          go_wp2
          go_ret
          exact ⟨g, pc, pre, rfl, HP0.out.2.1, HR.out.1, HR.out.2⟩
end Go.Proofs.Ytbebblhnhpdpjaa
