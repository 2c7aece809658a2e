/- The walk of HeapAll. -/
import Derived.Test.YtkbhjdjdjfdikaaSa
import Derived.Test.YtkbhjdjdjfdikaaSe
import Derived.Test.YtkbhjdjdjfdikaaRq
import Derived.Deep.CutRange
import Derived.Deep.DeepCutAuto
namespace Go.Proofs.Ytkbhjdjdjfdikaa
open Go.RowKit Ap Go.Shelf
attribute [local go_sem ↓] Go.wp_at_zero Go.wp_at_succ
attribute [local go_sem] Oper.semAt_some
set_option maxRecDepth 100000 in
set_option maxHeartbeats 8000000 in
theorem heapAll_any (kd at_ : Int) (ao : Option Addr) (len cap : Nat) (os : List OpD) (w : World) (hlen : os.length = len) (hO : OpsAt w ao os) (hok : ∀ o ∈ os, o.Ok) (hc : len ≤ cap) (hat : I64 at_) :
    Calls Try.prog 4 #[.int .i64 kd, .slice ao len cap, .int .i64 at_] w fun e w' => e = .returned (.bool true) ∧ w.grownBy w' none := by
  obtain ⟨k, hk⟩ : ∃ k, k = kd % 7 := ⟨_, rfl⟩
  have HK := hide (show 0 ≤ k by omega)
  have hf1 := fun w1 => fresh_any kd w1 w1 (grown_refl _ _)
  rw [← hk] at hf1
  obtain ⟨o1, ho1⟩ : ∃ o1, o1 = decide (k < 4) := ⟨_, rfl⟩
  rw [← ho1] at hf1
  have HOO := hide ho1
  have HF1 := hide hf1
  have hfw := few_any ao len cap hc
  obtain ⟨L, hL⟩ : ∃ L, L = min len 300 := ⟨_, rfl⟩
  rw [← hL] at hfw
  have HFW := hide hfw
  have HO := hide (And.intro hlen (And.intro hO (And.intro hok (And.intro (show L ≤ len ∧ L ≤ 300 by omega) hat))))
  clear hlen hO hok hc hL hk ho1 hf1 hfw hat
  obtain ⟨w1, hw1⟩ : ∃ w1, w1 = (w.alloc (.cells #[.int .i64 at_] 3)).alloc (.cells #[.bool false] 4) := ⟨_, rfl⟩
  have g1 : w.grownBy w1 none := by rw [hw1]; exact grown_trans (World.grownBy_alloc w _ none) (World.grownBy_alloc _ _ none)
  have b5 : w1.heap[w.heap.size]? = some (.cells [Value.int .i64 at_].toArray 3 (0, 0)) := by rw [hw1]; exact ((World.grownBy_alloc (w.alloc (.cells #[.int .i64 at_] 3)) (.cells #[.bool false] 4) none).block _ (row_lt (heap_alloc_new w _)) (by simp)).trans (heap_alloc_new w _)
  have b6 : w1.heap[w.heap.size + 1]? = some (.cells [Value.bool false].toArray 4 (0, 0)) := by
    rw [hw1]
    have := heap_alloc_new (w.alloc (.cells #[.int .i64 at_] 3)) (.cells #[.bool false] 4)
    rw [World.size_alloc] at this
    exact this
  have H1 := hide (And.intro hw1 (And.intro g1 (And.intro b5 b6)))
  clear g1 b5 b6 hw1
  refine (callsIn_wide (n := 6)).1 (callsIn_of_wp_marks Try.func4 rfl trivial ?_ rfl)
  simp only [Try.ntmps4, List.size_toArray, List.length_cons, List.length_nil, Nat.reduceAdd, Nat.reduceSub, Array.replicate_succ, Array.replicate_zero, List.push_toArray, List.append_toArray, List.nil_append, List.cons_append]
  refine wpIn_wide.2 ?_
  go_wp2_with fail
  rw [← H1.out.1]
  refine (HF1.out w1).mono ?_
  clear HF1
  rintro e w2 ⟨b, p, r, rfl, t2, hl2⟩
  have P2 : Pa w1 w2 k p.h r b 0 (fun j => TwO p r (.slice none 0 0) j ∨ j = b) := ⟨p, _, [], [], 0, 0, rfl, t2, ⟨List.Perm.refl _, List.Pairwise.nil, t2.hds⟩, by simp, by simp, by simp, fun _ => Iff.rfl⟩
  have HP2 : Hid (∃ S, Pa w1 w2 k p.h r b 0 S ∧ (∀ j, S j → w1.heap.size ≤ j)) := ⟨_, P2, hl2⟩
  generalize p.h = h at *
  obtain ⟨A7, hA7⟩ : ∃ A7, A7 = w2.heap.size := ⟨_, rfl⟩
  obtain ⟨w3, hw3⟩ : ∃ w3, w3 = w2.alloc (.cells #[.pointer (some ⟨h, 0, none⟩), .pointer (some ⟨r, 0, none⟩), .bool o1] 26) := ⟨_, rfl⟩
  have g3 : w2.grownBy w3 none := by rw [hw3]; exact World.grownBy_alloc w2 _ none
  have b7 : w3.heap[A7]? = some (.cells [Value.pointer (some ⟨h, 0, none⟩), .pointer (some ⟨r, 0, none⟩), .bool o1].toArray 26 (0, 0)) := by rw [hw3, hA7]; exact heap_alloc_new w2 _
  have HI0 : Hid (∃ S, Pa w1 w3 k h r b 0 S ∧ (∀ j, S j → j ≠ A7) ∧ w3.heap[A7]? = some (.cells [Value.pointer (some ⟨h, 0, none⟩), .pointer (some ⟨r, 0, none⟩), .bool o1].toArray 26 (0, 0))) := by
    obtain ⟨S, hP, hS⟩ := HP2.out
    exact ⟨S, hP.then g3, fun j e => by have := hP.lt j e; omega, b7⟩
  have q0 := cell_row b7 0
  simp at q0
  have HW3 := hide (And.intro hw3 hA7)
  clear g3 b7 HP2 P2 hl2 t2 hw3 hA7
  rw [HW3.out.1, HW3.out.2] at q0
  go_wp2_with fail
  rw [← HW3.out.1, ← HW3.out.2]
  refine (HFW.out w3).mono ?_
  clear HFW q0
  rintro e wx ⟨rfl, hwx⟩
  obtain rfl := hwx.symm
  go_wp2
  go_loopg [8] L (fun gq v wr => ∃ i : Nat, v = .int .i64 (i : Int) ∧ Hid (gq = L - i ∧ i ≤ L ∧ ∃ S, Pa w1 wr k h r b i S ∧ (∀ j, S j → j ≠ A7) ∧ wr.heap[A7]? = some (.cells [Value.pointer (some ⟨h, 0, none⟩), .pointer (some ⟨r, 0, none⟩), .bool o1].toArray 26 (0, 0))))
  case atStart => exact ⟨0, rfl, by simp, Nat.zero_le _, HI0.out⟩
  case round =>
    clear HI0 HW3
    obtain ⟨i, rfl, HR⟩ := hrel
    obtain ⟨S, PS, hS7, b7⟩ := HR.out.2.2
    have a0 := cell_row b7 0
    have a1 := cell_row b7 1
    have a2 := cell_row b7 2
    simp at a0 a1 a2
    by_cases hlt : i < L
    · obtain ⟨o, hoi⟩ : ∃ o, os[i]? = some o := ⟨os[i]'(by rw [HO.out.1]; have := HO.out.2.2.2.1.1; omega), by simp⟩
      obtain ⟨blk, off, rfl, c1, c2, c3, c4⟩ := HO.out.2.1 i o hoi
      have hoo := HO.out.2.2.1 o (List.mem_of_getElem? hoi)
      have hgr := grown_trans H1.out.2.1 PS.grown
      have d1 := hgr.cell c1 (by simp)
      have d2 := hgr.cell c2 (by simp)
      have d3 := hgr.cell c3 (by simp)
      have d4 := hgr.cell c4 (by simp)
      have hi300 : i < 300 := by have := HO.out.2.2.2.1.2; omega
      have b1' : ((i : Int) < (L : Int)) = True := by simp; omega
      have b3 : IntKind.i64.wrap ((i : Int) + 1) = (i : Int) + 1 := by rw [IntKind.wrap_i64]; omega
      have hL3 : (L : Int) ≤ 300 := by have := HO.out.2.2.2.1.2; omega
      have HP := hide (And.intro PS (And.intro hS7 (And.intro b7 (And.intro hoo hlt))))
      have HStep : Hid (∀ W, wr.grownBy W none → Calls Try.prog 11 #[.agg #[.pointer (some ⟨h, 0, none⟩), .pointer (some ⟨r, 0, none⟩), .bool o1], .agg #[.int .i64 o.K, .int .i64 o.O, .int .i64 o.N, .int .i64 o.V]] W fun e w4 => e = .returned (.bool true) ∧ Hid (∃ S, Pa w1 w4 k h r b (i + 1) S ∧ (∀ j, S j → j ≠ A7) ∧ w4.heap[A7]? = some (.cells [Value.pointer (some ⟨h, 0, none⟩), .pointer (some ⟨r, 0, none⟩), .bool o1].toArray 26 (0, 0)))) := by
        intro W hW
        obtain ⟨PS, hS7, b7, hoo, hlt⟩ := HP.out
        have hst := (PS.then hW).step HK.out (by omega) o hoo
        have e0 : (paV h r k).toArray = #[.pointer (some ⟨h, 0, none⟩), .pointer (some ⟨r, 0, none⟩), .bool o1] := by rw [HOO.out]; rfl
        rw [e0] at hst
        refine hst.mono ?_
        rintro e w4 ⟨rfl, S', Pn, hk4, hS'⟩
        have b7W := (hW.block _ (row_lt b7) (by simp)).trans b7
        refine ⟨rfl, S', Pn, fun j e => ?_, hk4.at b7W (fun e => hS7 _ e rfl)⟩
        rcases hS' j e with e | e
        · exact hS7 j e
        · have := row_lt b7W; omega
      have HLT := hide hlt
      have HCs := hide (And.intro c1 (And.intro c2 (And.intro c3 c4)))
      clear PS hS7 b7 hoo hlt hgr c1 c2 c3 c4 hoi
      have hS7c := And.intro a0 (And.intro a1 (And.intro a2 (And.intro d1 (And.intro d2 (And.intro d3 d4)))))
      have HC7 : Hid (∀ w4, (∃ S, Pa w1 w4 k h r b (i + 1) S ∧ (∀ j, S j → j ≠ A7) ∧ w4.heap[A7]? = some (.cells [Value.pointer (some ⟨h, 0, none⟩), .pointer (some ⟨r, 0, none⟩), .bool o1].toArray 26 (0, 0))) → w4.cell? ⟨A7, 0, none⟩ = some (.pointer (some ⟨h, 0, none⟩)) ∧ w4.cell? ⟨A7, 1, none⟩ = some (.pointer (some ⟨r, 0, none⟩)) ∧ w4.cell? ⟨A7, 2, none⟩ = some (.bool o1) ∧ w4.cell? ⟨blk, off + i * 4, none⟩ = some (.int .i64 o.K) ∧ w4.cell? ⟨blk, off + i * 4 + 1, none⟩ = some (.int .i64 o.O) ∧ w4.cell? ⟨blk, off + i * 4 + 2, none⟩ = some (.int .i64 o.N) ∧ w4.cell? ⟨blk, off + i * 4 + 3, none⟩ = some (.int .i64 o.V)) := by
        rintro w4 ⟨S, P4, -, b4⟩
        obtain ⟨c1, c2, c3, c4⟩ := HCs.out
        have hg4 := grown_trans H1.out.2.1 P4.grown
        exact ⟨cell_row b4 0, cell_row b4 1, cell_row b4 2, hg4.cell c1 (by simp), hg4.cell c2 (by simp), hg4.cell c3 (by simp), hg4.cell c4 (by simp)⟩
      go_wp2_with fail
      go_region_held3 (fun w' => w'.cell? ⟨A7, 0, none⟩ = some (.pointer (some ⟨h, 0, none⟩)) ∧ w'.cell? ⟨A7, 1, none⟩ = some (.pointer (some ⟨r, 0, none⟩)) ∧ w'.cell? ⟨A7, 2, none⟩ = some (.bool o1) ∧ w'.cell? ⟨blk, off + i * 4, none⟩ = some (.int .i64 o.K) ∧ w'.cell? ⟨blk, off + i * 4 + 1, none⟩ = some (.int .i64 o.O) ∧ w'.cell? ⟨blk, off + i * 4 + 2, none⟩ = some (.int .i64 o.N) ∧ w'.cell? ⟨blk, off + i * 4 + 3, none⟩ = some (.int .i64 o.V)) (first | exact hS7c | assumption | go_keep) (first
        | (go_at_call 11; refine (HStep.out _ (grown_drew wr none)).mono ?_; rintro e w4 ⟨rfl, HN⟩; have hS4 := HC7.out w4 HN.out))
      rename_i hHeld
      clear hHeld hS4 hS7c a0 a1 a2 d1 d2 d3 d4 HStep HC7 HCs HP
      go_wp2
      go_roundg (L - (i + 1))
      case measure => have := HR.out.1; have := HLT.out; omega
      case rel => exact ⟨i + 1, by go_num, rfl, HLT.out, HN.out⟩
    · have hiL : i = L := by have := HR.out.2.1; omega
      have b1' : ((i : Int) < (L : Int)) = False := by simp; omega
      have b2' : ¬ (i : Int) < (L : Int) := by simp; omega
      obtain ⟨q, vl, E, X, N, B, hqh, tq, hsm, hE1, hN1, hB1, hSS⟩ := PS
      have ga := World.grownBy_alloc wr (.cells #[] 50) none
      obtain ⟨wa, hwa⟩ : ∃ wa, wa = wr.alloc (.cells #[] 50) := ⟨_, rfl⟩
      rw [← hwa] at ga
      have ta := tq.then ga
      have ba := (ga.block _ (row_lt b7) (by simp)).trans b7
      have x0 := cell_row ba 0
      have x1 := cell_row ba 1
      have x2 := cell_row ba 2
      simp at x0 x1 x2
      obtain ⟨-, y1, -⟩ := ta.rf.cells
      have hXl : X.length = E.length := hsm.length
      have hi300 : i ≤ 300 := by have := HO.out.2.2.2.1.2; omega
      have hr0 : wa.ownsRow wr.heap.size 50 2 (.slice (some ⟨wr.heap.size, 0, none⟩) 0 0) 0 [] := by rw [hwa]; exact ⟨rfl, Or.inr ⟨wr.heap.size, 0, #[], rfl, Nat.le_refl _, heap_alloc_new wr _, Nat.le_refl _, by unfold maxLen; omega, rfl, rfl⟩⟩
      have HQr := hide (And.intro tq b7)
      have HA := hide (And.intro hwa (And.intro ga (And.intro ta (And.intro ba (And.intro hr0 (And.intro hsm (And.intro hSS (And.intro hqh (And.intro hS7 (And.intro (show E.length ≤ 300 ∧ N ≤ 300 ∧ B ≤ 300 ∧ X.length ≤ 300 by omega) (ta.rf.row)))))))))))
      obtain ⟨vo, vcap, rfl, -⟩ := own_formA ta.rf.row
      obtain ⟨m, hm⟩ : ∃ m, m = X.length := ⟨_, rfl⟩
      rw [← hm] at y1
      have HM := hide hm
      clear b7 hlt hiL ga ta ba hXl hr0 tq hsm hSS hqh hS7 hE1 hN1 hB1 hm
      rw [hwa] at x0 x1 x2 y1
      clear hwa
      go_wp2_with (at_builtin; refine append_items rfl (.tmp 36) (.tmp 41) rfl wr.heap.size (.slice (some ⟨wr.heap.size, 0, none⟩) 0 0) rfl (by rw [← HA.out.1]; exact HA.out.2.2.2.2.1) (.slice vo m vcap) w1.heap.size X rfl (by rw [← HA.out.1, HM.out]; exact HA.out.2.2.2.2.2.2.2.2.2.2) (by have := HA.out.2.2.2.2.2.2.2.2.2.1; omega) (by simp) ?_)
      intro wo wcap wb hwrow hgb
      rw [← HA.out.1] at hgb
      have hgb0 : wr.grownBy wb none := grown_then HA.out.2.1 hgb (fun j e => Or.inl (by cases e; exact Nat.le_refl _))
      rw [← HM.out] at hwrow ⊢
      obtain ⟨A9, hA9⟩ : ∃ A9, A9 = wb.heap.size := ⟨_, rfl⟩
      obtain ⟨wc, hwc⟩ : ∃ wc, wc = wb.alloc (.cells #[.slice wo m wcap] 35) := ⟨_, rfl⟩
      have gc : wb.grownBy wc none := by rw [hwc]; exact World.grownBy_alloc wb _ none
      have b9 : wc.heap[A9]? = some (.cells [Value.slice wo m wcap].toArray 35 (0, 0)) := by rw [hwc, hA9]; exact heap_alloc_new wb _
      have grc := grown_trans hgb0 gc
      obtain ⟨-, -, -, -, -, hsm, hSS, hqh, hS7, hbd, -⟩ := HA.out
      obtain ⟨tq, b7⟩ := HQr.out
      have tc := tq.then grc
      have bc := (grc.block _ (row_lt b7) (by simp)).trans b7
      have z0 := cell_row bc 0
      simp at z0
      obtain ⟨T, hsc⟩ := tc.hs
      have hall := all_at (lsK_ok k b) hsc (by omega) hsm.perm hsm.asc
      rw [hqh] at hall
      have HALL := hide hall
      have hwc9 : wc.ownsRow wr.heap.size 50 2 (.slice wo m wcap) m (ecells X) := hwrow.kept gc (by cases (Value.slice wo m wcap).ownBlock <;> simp)
      have HC := hide (And.intro hwc (And.intro grc (And.intro tc (And.intro bc (And.intro b9 (And.intro hwc9 (And.intro hA9 (And.intro hgb0 (And.intro hsm (And.intro hSS (And.intro hqh (And.intro hS7 (And.intro hbd (And.intro (row_lt b7) (And.intro tq.ltb hsc)))))))))))))))
      rw [hwc] at z0
      clear hall hwc hwc9 hgb0 hgb gc b9 grc bc tc tq b7 hsm hSS hqh hS7 hbd hwrow hsc HA HQr x0 x1 x2 y1
      rw [hA9] at *
      go_wp2_with fail
      rw [← HC.out.1]
      refine HALL.out.mono ?_
      clear HALL z0
      rintro e w9 ⟨so, cp, rfl, hit, hso, g9⟩
      have HE : Hid (∃ S9 : Nat → Prop, Al w9 w9 w9.heap.size k h b 300 S9 [] ∧ (∀ j, S9 j → w1.heap.size ≤ j ∧ j < wr.heap.size ∧ j ≠ A7) ∧ w1.grownBy w9 none ∧ w9.heap[A7]? = some (.cells [Value.pointer (some ⟨h, 0, none⟩), .pointer (some ⟨r, 0, none⟩), .bool o1].toArray 26 (0, 0)) ∧ w9.heap[wb.heap.size]? = some (.cells [Value.slice wo m wcap].toArray 35 (0, 0)) ∧ w9.ownsRow wr.heap.size 50 2 (.slice wo m wcap) m (ecells X) ∧ ItE w9 wc.heap.size so cp X ∧ (∀ a, so = some a → wc.heap.size ≤ a.block) ∧ X.length ≤ 300 ∧ wr.heap.size ≤ wb.heap.size ∧ wb.heap.size < wc.heap.size ∧ (∀ e ∈ X, I64 e.2) ∧ (∀ e ∈ X, e.1 < 300)) := by
        obtain ⟨hwc, grc, tc, bc, b9, hwc9, -, hgb0, hsm, hSS, hqh, hS7, hbd, hA7r, hlb, hsc⟩ := HC.out
        have hs9 := hsc.then (lsK_ok k b) g9
        have hq9 : Hq w9 k h b 300 (fun j => q.own j ∨ j = b) := ⟨q, E, T, N, B, hqh, hs9, hbd.1, hbd.2.1, hbd.2.2.1, fun _ => Iff.rfl⟩
        refine ⟨fun j => q.own j ∨ j = b, ⟨Kept.refl _ _, Nat.le_refl _, Nat.le_refl _, _, hq9, fun j e => ⟨.inl e, hq9.lt j e⟩, fun x hx => by cases hx⟩, fun j e => ⟨?_, hlb j (e.imp .inl id), hS7 j ((hSS j).1 (e.imp .inl id))⟩, grown_trans tc.grown g9, (g9.block _ (row_lt bc) (by simp)).trans bc, (g9.block _ (row_lt b9) (by simp)).trans b9, hwc9.kept g9 (by cases (Value.slice wo m wcap).ownBlock <;> simp), hit, hso, hbd.2.2.2, hgb0.size, by rw [hwc]; simp, fun e he => tc.ok e (hsm.perm.subset he), fun e he => ?_⟩
        · rcases e with e | rfl
          · exact tc.hown j e
          · exact tc.bx
        · obtain ⟨j, hj, rfl⟩ := List.getElem_of_mem (hsm.perm.subset he)
          have h1 := hsm.hds.below j hj
          have h2 : en E j = E[j] := by unfold en; simp [hj]
          rw [h2] at h1
          omega
      clear HC hit hso g9 HR b1' b2'
      obtain ⟨S9, hE⟩ := HE.out
      have HE := hide hE
      clear hE
      generalize wb.heap.size = A9 at *
      generalize wc.heap.size = BB at *
      generalize wr.heap.size = cR at *
      go_wp2_with fail
      refine (wpIn_wide (n := 6)).1 (wpIn_rangeFunc_brkE (w := w9) 2 rfl (by decide) (gf := 46) (lb := #[.pointer (some ⟨BB, 0, none⟩)]) rfl trivial (enters_of Try.func46 (by kernel_rfl) rfl)
        (it_stops (KpE BB so X.length) (fun W => ItE W BB so cp X) 5 (by decide) BB so cp X (by have := HE.out.2.2.2.2.2.2.2.2.1; omega) w9 (fun _ h => h) (fun W W' k h => h.keep k) (fun W W' g h => h.grown g) (fun W hW => HE.out.2.2.2.2.2.2.1.grown (below_grown hW)))
        (fun h k => h.trans k) (KpE.refl BB so X.length) ?put (Below.refl _ _) (fun _ => rfl)
        (fun pre W => Al w9 W w9.heap.size k h b 300 S9 []) (fun W => Al w9 W w9.heap.size k h b 300 S9 [])
        (fun s W W' row hs hg hr => Al.own () W W' row hs hg hr) Al.own HE.out.1 (fun pre W _ h => h) ?a1 ?assign ?body ?hend)
      case put =>
        intro W l o o' hl ho _ _
        have hl9 := HE.out.2.2.2.2.2.2.1.lt
        refine ⟨World.putObj_heap_other (by omega), fun a e hn => World.putObj_heap_other (by have := hl9.2 a e hn; omega)⟩
      case assign =>
        intro l x W K hK
        simp only [encE]
        gi_wp2
        exact hK
      case body =>
        intro l pre x W hl hr hA hlt
        gi_wp2
        exact ⟨KeepsFrom.refl _ _, .inl ⟨rfl, hA⟩⟩
      case hend =>
        intro D1 W hD hA hd
        have hJ := hA.join hD hd
        have HN7 : Hid (¬ S9 A7) := fun e => (HE.out.2.1 _ e).2.2 rfl
        have b7 := hJ.at HE.out.2.2.2.1 HN7.out
        have c70 := cell_row b7 0
        simp at c70
        have hpop := hJ.pop (by omega)
        clear hJ hA hd hD b7
        go_wp2_with fail
        refine hpop.mono ?_
        clear hpop c70
        rintro e wp ⟨v1, rfl, hJ⟩
        have c70 := cell_row (hJ.at HE.out.2.2.2.1 HN7.out) 0
        simp at c70
        have hpush := hJ.push (by omega) 77 (by unfold I64; omega)
        clear hJ
        go_wp2_with fail
        refine hpush.mono ?_
        clear hpush c70
        rintro e wq ⟨v2, rfl, hJ⟩
        have HN9 : Hid (¬ S9 A9) := fun e => by have := HE.out.2.1 _ e; have := HE.out.2.2.2.2.2.2.2.2.2.1; omega
        have HB56 : Hid (∀ W U n Ks, Al w9 W U k h b n S9 Ks → W.heap[w.heap.size]? = some (.cells [Value.int .i64 at_].toArray 3 (0, 0)) ∧ W.heap[w.heap.size + 1]? = some (.cells [Value.bool false].toArray 4 (0, 0))) := by
          intro W U n Ks hAl
          have hg := hAl.grownW HE.out.2.2.1 (fun j e => (HE.out.2.1 j e).1)
          exact ⟨(hg.block _ (row_lt H1.out.2.2.1) (by simp)).trans H1.out.2.2.1, (hg.block _ (row_lt H1.out.2.2.2) (by simp)).trans H1.out.2.2.2⟩
        have HKP : Hid (BB < w9.heap.size ∧ ¬ S9 BB ∧ ∀ a, so = some a → X.length ≠ 0 → a.block < w9.heap.size ∧ ¬ S9 a.block) := by
          have hl9 := HE.out.2.2.2.2.2.2.1.lt
          have h1 := HE.out.2.2.2.2.2.2.2.2.2.1
          have h2 := HE.out.2.2.2.2.2.2.2.2.2.2.1
          refine ⟨hl9.1, fun e => by have := HE.out.2.1 _ e; omega, fun a e hn => ⟨hl9.2 a e hn, fun e2 => ?_⟩⟩
          have := HE.out.2.1 _ e2
          have := HE.out.2.2.2.2.2.2.2.1 a e
          omega
        have HIE : Hid (∀ W U n Ks, Al w9 W U k h b n S9 Ks → ItE W BB so cp X) := fun W U n Ks hAl => HE.out.2.2.2.2.2.2.1.keep (HE.out.1.kpE hAl HKP.out.1 HKP.out.2.1 HKP.out.2.2)
        have HW : Hid (0 < m → ∃ gw, wo = some ⟨gw, 0, none⟩ ∧ m ≤ wcap ∧ ∀ W U n Ks, Al w9 W U k h b n S9 Ks → W.cell? ⟨A7, 0, none⟩ = some (.pointer (some ⟨h, 0, none⟩)) ∧ W.cell? ⟨A9, 0, none⟩ = some (.slice (some ⟨gw, 0, none⟩) m wcap) ∧ ∀ j, j < m → W.cell? ⟨gw, j * 2, none⟩ = some (.int .i64 ((en X j).1 : Int)) ∧ W.cell? ⟨gw, j * 2 + 1, none⟩ = some (.int .i64 (en X j).2)) := by
          intro hm0
          obtain ⟨gw, c2, cur, hv, hgb, hg, hn, ht⟩ := own_rowC HE.out.2.2.2.2.2.1 hm0
          cases hv
          refine ⟨gw, rfl, hn, fun W U n Ks hAl => ?_⟩
          have hgn : ¬ S9 gw := fun e => by have := HE.out.2.1 _ e; omega
          have c7 := cell_row (hAl.at HE.out.2.2.2.1 HN7.out) 0
          have c9 := cell_row (hAl.at HE.out.2.2.2.2.1 HN9.out) 0
          simp at c7 c9
          refine ⟨c7, c9, fun j hj => ?_⟩
          have hjX : j < X.length := by rw [← HM.out]; exact hj
          exact ⟨own_cell (hAl.at hg hgn) ht (ecells_get hjX).1, own_cell (hAl.at hg hgn) ht (ecells_get hjX).2⟩
        have HJ := hide hJ
        clear hJ
        go_wp2
        go_loopg [11] m (fun gq v wr => ∃ j : Nat, v = .int .i64 (j : Int) ∧ gq + j = m ∧ Hid (Al w9 wr wr.heap.size k h b 302 S9 [(D1, .deferred (some []))]))
        case atStart => exact ⟨0, rfl, by omega, HJ.out⟩
        case round =>
          clear HJ
          obtain ⟨j, rfl, hgj, HJ⟩ := hrel
          have b9 := HJ.out.at HE.out.2.2.2.2.1 HN9.out
          have c90 := cell_row b9 0
          simp at c90
          by_cases hlt : 0 < gk
          · obtain ⟨gw, rfl, hwc, hcell⟩ := HW.out (by omega)
            obtain ⟨c7, c9, cj⟩ := hcell _ _ _ _ HJ.out
            have cj0 := (cj j (by omega)).1
            have hm3 : m ≤ 300 := by have := HE.out.2.2.2.2.2.2.2.2.1; have := HM.out; omega
            have hmem : en X j ∈ X := en_mem (by have := HM.out; omega)
            have hX1 := HE.out.2.2.2.2.2.2.2.2.2.2.2.2 _ hmem
            have HSet : Hid (∀ W, wr.grownBy W none → Calls Try.prog 18 #[.pointer (some ⟨h, 0, none⟩), .int .i64 ((en X j).1 : Int), .int .i64 (-5)] W fun e w' => ∃ v, e = .returned v ∧ Hid (Al w9 w' w'.heap.size k h b 302 S9 [(D1, .deferred (some []))])) := fun W hW => ((HJ.out.grown hW).set (by omega) _ (-5) (by unfold I64; omega) (by unfold I64; omega)).mono fun e w' ⟨v, he, ha⟩ => ⟨v, he, ha⟩
            have HCl := hide hcell
            have hS3 := And.intro c7 (And.intro c9 cj0)
            have b1' : ((j : Int) < (m : Int)) = True := by simp; omega
            have b3' : IntKind.i64.wrap ((j : Int) + 1) = (j : Int) + 1 := by rw [IntKind.wrap_i64]; omega
            have hjm : j < m := by omega
            obtain ⟨xk, hxk⟩ : ∃ xk, xk = ((en X j).1 : Int) := ⟨_, rfl⟩
            rw [← hxk] at HSet hS3 cj0
            have HXK := hide hxk
            clear hcell cj hmem hX1 c90 b9 hxk
            go_wp2_with fail
            go_region_held3 (fun w' => w'.cell? ⟨A7, 0, none⟩ = some (.pointer (some ⟨h, 0, none⟩)) ∧ w'.cell? ⟨A9, 0, none⟩ = some (.slice (some ⟨gw, 0, none⟩) m wcap) ∧ w'.cell? ⟨gw, j * 2, none⟩ = some (.int .i64 xk)) (first | exact hS3 | assumption | go_keep) (first
              | (go_at_call 18; refine (HSet.out _ (grown_drew wr none)).mono ?_; rintro e w4 ⟨v4, rfl, HN⟩; have hS4 : w4.cell? ⟨A7, 0, none⟩ = some (.pointer (some ⟨h, 0, none⟩)) ∧ w4.cell? ⟨A9, 0, none⟩ = some (.slice (some ⟨gw, 0, none⟩) m wcap) ∧ w4.cell? ⟨gw, j * 2, none⟩ = some (.int .i64 xk) := (by obtain ⟨d7, d9, dj⟩ := HCl.out _ _ _ _ HN.out; rw [HXK.out]; exact ⟨d7, d9, (dj j hjm).1⟩)))
            rename_i hHeld
            clear hHeld hS4 hS3 c7 c9 cj0 HSet HCl
            go_wp2
            go_roundg (gk - 1)
            case measure => omega
            case rel => exact ⟨j + 1, by go_num, by omega, HN.out⟩
          · have hjm : j = m := by omega
            have b1' : ((j : Int) < (m : Int)) = False := by simp; omega
            have b2' : ¬ (j : Int) < (m : Int) := by omega
            clear b9 hjm
            have HJ2 := hide (HJ.out.alloc (.cells #[.int .i64 0] 3))
            clear HJ
            go_wp2_with fail
            refine wp_loop (LpI w w9 A7 A9 BB k h b S9) (fun a _ => 4 - a.defers.length) ?_ ?_
            · exact LpI.mk (t := 0) (Ds := [D1]) (alA_of rfl) rfl (by omega) (by simp) HJ2.out
            clear HJ2
            rintro a W ⟨u, A12, t, Ds, rfl, hDs, ht2, hPw, hAl⟩
            unfold alA
            have hA12 := hAl.ks (x := (A12, .cells #[.int .i64 (t : Int)] 3)) (by simp)
            have c12 := cell_row (l := [Value.int .i64 (t : Int)]) hA12 0
            simp at c12
            by_cases ht : t = 2
            · subst ht
              obtain ⟨D3, D2, D0, rfl⟩ : ∃ D3 D2 D0, Ds = [D3, D2, D0] := by
                match Ds, hDs with
                | [a, b, c], _ => exact ⟨a, b, c, rfl⟩
              have HAl := hide (And.intro hAl hPw)
              clear hAl hPw hDs hA12
              go_wp2_with fail
              refine (awake_any W).mono ?_
              rintro e Wz ⟨rfl, gz⟩
              have hAz := HAl.out.1.grown gz
              obtain ⟨-, b6⟩ := HB56.out _ _ _ _ hAz
              have c6 := cell_row b6 0
              have f6 : Wz.frozen? ⟨w.heap.size + 1, 0, none⟩ = false := free_row b6 0
              simp at c6
              have HAz := hide (And.intro hAz b6)
              clear hAz b6 gz c12
              go_wp2
              simp only [dfs, List.map_cons, List.map_nil]
              obtain ⟨hAz, b6⟩ := HAz.out
              have hPw := HAl.out.2
              simp at hPw
              have k3 := hAz.ks (x := (D3, .deferred (some []))) (by simp)
              have k2 := hAz.ks (x := (D2, .deferred (some []))) (by simp)
              have k0 := hAz.ks (x := (D0, .deferred (some []))) (by simp)
              simp only at k3 k2 k0
              have hz1 := lt_of_at H1.out.2.2.2
              have hge : ∀ D, (D, Obj.deferred (some [])) ∈ ([D3, D2, D0].map fun D => (D, Obj.deferred (some []))) → w9.heap.size ≤ D := fun D hD => by
                obtain ⟨-, -, -, S, -, -, hK⟩ := hAz
                exact (hK (D, .deferred (some [])) (List.mem_cons_of_mem _ hD)).2.2.1
              have h3 := hge D3 (by simp)
              have h2 := hge D2 (by simp)
              have h0 := hge D0 (by simp)
              have h91 := HE.out.2.2.1.size
              have gW := grown_trans H1.out.2.1 (hAz.grownW HE.out.2.2.1 (fun j e => (HE.out.2.1 j e).1))
              have hgs := grown_setCell Wz (w.heap.size + 1) 0 (.bool true)
              have j3 := (hgs.block _ (lt_of_at k3) (by simp; omega)).trans k3
              have j2 := (hgs.block _ (lt_of_at k2) (by simp; omega)).trans k2
              have j0 := (hgs.block _ (lt_of_at k0) (by simp; omega)).trans k0
              have j6 := row_setCell (w := Wz) b6 0 (.bool true)
              generalize Wz.setCell ⟨w.heap.size + 1, 0, none⟩ (.bool true) = W2 at *
              have j2' : (W2.putObj D3 (.deferred none)).heap[D2]? = some (.deferred (some [])) := (World.putObj_heap_other (by omega)).trans j2
              have j0' : ((W2.putObj D3 (.deferred none)).putObj D2 (.deferred none)).heap[D0]? = some (.deferred (some [])) := (World.putObj_heap_other (by omega)).trans ((World.putObj_heap_other (by omega)).trans j0)
              have j6' : (((W2.putObj D3 (.deferred none)).putObj D2 (.deferred none)).putObj D0 (.deferred none)).heap[w.heap.size + 1]? = some (.cells [Value.bool true].toArray 4 (0, 0)) := (World.putObj_heap_other (by omega)).trans ((World.putObj_heap_other (by omega)).trans ((World.putObj_heap_other (by omega)).trans j6))
              have c6' := cell_row j6' 0
              simp at c6'
              refine ⟨by simp, .inl ⟨_, _, rfl, run_takeDeferred j3, ?_⟩⟩
              refine ⟨by simp, .inl ⟨_, _, rfl, run_takeDeferred j2', ?_⟩⟩
              refine ⟨by simp, .inl ⟨_, _, rfl, run_takeDeferred j0', ?_⟩⟩
              refine ⟨.bool true, results_cell4 rfl _ _ (w.heap.size + 1) (.bool true) rfl c6', rfl, grown_then (grown_then (grown_then (grown_then gW hgs (fun j e => by cases e; exact Or.inl (by omega))) (grownBy_putObj' _ D3 _) (fun k e => by cases e; exact Or.inl (by omega))) (grownBy_putObj' _ D2 _) (fun k e => by cases e; exact Or.inl (by omega))) (grownBy_putObj' _ D0 _) (fun k e => by cases e; exact Or.inl (by omega))⟩
            · have hlt2 : ((t : Int) < 2) = True := by simp; omega
              have ht2' : t < 2 := by omega
              have hA1 := hAl.alloc (.cells #[.int .i64 0] 3)
              obtain ⟨A13, hA13⟩ : ∃ A13, A13 = W.heap.size := ⟨_, rfl⟩
              obtain ⟨wR, hwR⟩ : ∃ wR, wR = W.alloc (.cells #[.int .i64 0] 3) := ⟨_, rfl⟩
              rw [← hA13, ← hwR] at hA1
              have HA1 := hide (And.intro hA1 (And.intro hDs (And.intro hPw (And.intro hA13 (And.intro hwR hAl)))))
              clear hA1 hDs hPw hAl hA12 hA13 hwR ht ht2
              go_wp2_with fail
              rw [← HA1.out.2.2.2.1, ← HA1.out.2.2.2.2.1]
              obtain ⟨Ks0, hKs0⟩ : ∃ Ks0, Ks0 = (A12, Obj.cells #[.int .i64 (t : Int)] 3) :: Ds.map (fun D => (D, .deferred (some []))) := ⟨_, rfl⟩
              have HR1 : Hid (Al w9 wR wR.heap.size k h b (302 + 300 * t) S9 ((A13, .cells #[.int .i64 0] 3) :: Ks0) ∧ (∀ x ∈ Ks0, x.1 ≠ A13) ∧ (A12, Obj.cells #[.int .i64 (t : Int)] 3) ∈ Ks0 ∧ X.length = m ∧ X.length ≤ 300) := by
                obtain ⟨hA1, hDs, hPw, hA13, hwR, hAl⟩ := HA1.out
                rw [← hKs0] at hA1 hAl
                refine ⟨hA1, fun x hx => ?_, by rw [hKs0]; simp, HM.out.symm, HE.out.2.2.2.2.2.2.2.2.1⟩
                obtain ⟨-, -, -, S, -, -, hK⟩ := hAl
                have := (hK x hx).2.2.2
                omega
              have HKS := hide hKs0
              clear hKs0
              refine (wpIn_wide (n := 6)).1 (wpIn_rangeFunc_brkE (w := wR) 8 rfl (by decide) (gf := 46) (lb := #[.pointer (some ⟨BB, 0, none⟩)]) rfl trivial (enters_of Try.func46 (by kernel_rfl) rfl)
                (it_stops (KpE BB so X.length) (fun W => ItE W BB so cp X) 5 (by decide) BB so cp X (by have := HR1.out.2.2.2.2; omega) wR (fun _ h => h) (fun W W' k h => h.keep k) (fun W W' g h => h.grown g) (fun W hW => (HIE.out _ _ _ _ HR1.out.1).grown (below_grown hW)))
                (fun h k => h.trans k) (KpE.refl BB so X.length) ?put2 (Below.refl _ _) (fun _ => rfl)
                (fun pre W => Al w9 W wR.heap.size k h b (302 + 300 * t + pre.length) S9 ((A13, .cells #[.int .i64 (pre.length : Int)] 3) :: Ks0) ∧ pre <+: X)
                (fun W => ∃ c : Nat, Al w9 W wR.heap.size k h b (302 + 300 * (t + 1)) S9 ((A13, .cells #[.int .i64 (c : Int)] 3) :: Ks0) ∧ c ≤ m ∧ (c = m ∨ (t = 0 ∧ (c : Int) = at_)))
                (fun s W W' row hs hg hr => ⟨Al.own () W W' row hs.1 hg hr, hs.2⟩) (fun s W W' row hs hg hr => by obtain ⟨c, h1, h2⟩ := hs; exact ⟨c, Al.own () W W' row h1 hg hr, h2⟩) ⟨HR1.out.1, List.nil_prefix⟩
                (fun pre W hS hI => by subst hS; exact ⟨pre.length, hI.1.mono (by have := HR1.out.2.2.2.2; omega), by have := HR1.out.2.2.2.1; omega, .inl HR1.out.2.2.2.1⟩) ?a2 ?assign2 ?body2 ?hend2)
              case put2 =>
                intro W l o o' hl ho _ _
                have h9 : w9.heap.size ≤ wR.heap.size := HR1.out.1.2.1
                refine ⟨World.putObj_heap_other (by have := HKP.out.1; omega), fun a e hn => World.putObj_heap_other (by have := (HKP.out.2.2 a e hn).1; omega)⟩
              case assign2 =>
                intro l x W K hK
                simp only [encE]
                gi_wp2
                exact hK
              case body2 =>
                rintro l pre ⟨x1, x2⟩ W hl ⟨rl, hrl⟩ ⟨hA, hpre⟩ hlt
                obtain ⟨hR1, hR2, hR3, hR4, hR5⟩ := HR1.out
                obtain ⟨gw, hwo, hwc, hcell⟩ := HW.out (by omega)
                subst hwo
                obtain ⟨c7, c9, cj⟩ := hcell _ _ _ _ hA
                obtain ⟨a0, a1⟩ := cj pre.length (by omega)
                obtain ⟨b5, b6⟩ := HB56.out _ _ _ _ hA
                have c5 := cell_row b5 0
                have c6 := cell_row b6 0
                have f6 : W.frozen? ⟨w.heap.size + 1, 0, none⟩ = false := free_row b6 0
                have b13 : W.heap[A13]? = some (.cells [Value.int .i64 (pre.length : Int)].toArray 3 (0, 0)) := hA.ks (x := (A13, .cells #[.int .i64 (pre.length : Int)] 3)) (by simp)
                have c13 := cell_row b13 0
                have f13 : W.frozen? ⟨A13, 0, none⟩ = false := free_row b13 0
                have b12 : W.heap[A12]? = some (.cells [Value.int .i64 (t : Int)].toArray 3 (0, 0)) := hA.ks (x := (A12, .cells #[.int .i64 (t : Int)] 3)) (List.mem_cons_of_mem _ hR3)
                have c12 := cell_row b12 0
                simp at c5 c6 c13 c12
                have hm3 : X.length = m := hR4
                have hpm : pre.length < m := by omega
                obtain ⟨pl, hpl⟩ : ∃ pl, pl = pre.length := ⟨_, rfl⟩
                obtain ⟨yk, hyk⟩ : ∃ yk, yk = (en X pre.length).1 := ⟨_, rfl⟩
                obtain ⟨yv, hyv⟩ : ∃ yv, yv = (en X pre.length).2 := ⟨_, rfl⟩
                rw [← hyk] at a0
                rw [← hyv] at a1
                rw [← hpl] at a0 a1 c13 b13 hpm
                have hyk3 : yk < 300 := by rw [hyk]; exact HE.out.2.2.2.2.2.2.2.2.2.2.2.2 _ (en_mem hlt)
                have hpe : ∀ y : Nat × Int, (pre ++ [y]) <+: X → y = en X pre.length := by
                  rintro y ⟨r, hr⟩
                  unfold en
                  rw [← hr]
                  simp
                have hpn : (pre ++ [en X pre.length]) <+: X := by
                  obtain ⟨r, hr⟩ := hpre
                  have hl := hlt
                  rw [← hr, List.length_append] at hl
                  cases r with
                  | nil => simp at hl
                  | cons y r =>
                    have e : en X pre.length = y := by unfold en; rw [← hr]; simp
                    rw [e]
                    exact ⟨r, by rw [← hr]; simp⟩
                have h13U : A13 < wR.heap.size := by have := HA1.out.2.2.2; rw [this.2.1, this.1]; simp
                have h6U : w.heap.size + 1 < wR.heap.size := by have := lt_of_at H1.out.2.2.2; have := HE.out.2.2.1.size; have := hR1.2.1; omega
                have HRet : Hid (∀ x1 x2, ¬ (yk = x1 ∧ yv = x2) → KeepsFrom wR.heap.size W (W.setCell ⟨w.heap.size + 1, 0, none⟩ (.bool false)) ∧ ¬ (pre ++ [(x1, x2)]) <+: X) := by
                  intro x1 x2 hno
                  refine ⟨keepsFrom_of (kept_setCell W (w.heap.size + 1) 0 _) (fun j e => by omega), fun hp => hno ?_⟩
                  have he := hpe _ hp
                  exact ⟨by rw [hyk, ← he], by rw [hyv, ← he]⟩
                have hW1 : Al w9 (W.setCell ⟨A13, 0, none⟩ (.int .i64 ((pl : Int) + 1))) wR.heap.size k h b (302 + 300 * t + pl) S9 ((A13, .cells #[.int .i64 ((pl : Int) + 1)] 3) :: Ks0) := by
                  have hA' := hA
                  rw [← hpl] at hA'
                  exact hA'.write (l := A13) (o := .cells #[.int .i64 (pl : Int)] 3) (by simp) (kept_setCell W A13 0 _) (row_setCell (w := W) b13 0 _) (fun x hx => ⟨List.mem_cons_of_mem _ hx, hR2 x hx⟩)
                have HNorm : Hid (∀ W', Al w9 W' wR.heap.size k h b (302 + 300 * t + pl + 1) S9 ((A13, .cells #[.int .i64 ((pl : Int) + 1)] 3) :: Ks0) → (∃ S, Kept (W.setCell ⟨A13, 0, none⟩ (.int .i64 ((pl : Int) + 1))) W' S ∧ ∀ j, S j → j < wR.heap.size) → KeepsFrom wR.heap.size W W' ∧ KpE BB so X.length W W' ∧ (Al w9 W' wR.heap.size k h b (302 + 300 * t + (pre ++ [(yk, yv)]).length) S9 ((A13, .cells #[.int .i64 ((pre ++ [(yk, yv)]).length : Int)] 3) :: Ks0) ∧ (pre ++ [(yk, yv)]) <+: X)) := by
                  rintro W' hA' ⟨S, hk, hS⟩
                  have el : (pre ++ [(yk, yv)]).length = pl + 1 := by rw [List.length_append, hpl]; rfl
                  have ee : (yk, yv) = en X pre.length := by rw [hyk, hyv]
                  refine ⟨(keepsFrom_of (kept_setCell W A13 0 _) (fun j e => by omega)).trans (keepsFrom_of hk hS), hA.kpE hA' HKP.out.1 HKP.out.2.1 HKP.out.2.2, ?_, by rw [ee]; exact hpn⟩
                  rw [el, show ((pl + 1 : Nat) : Int) = (pl : Int) + 1 by omega]
                  exact hA'
                have HBrk : Hid (t = 0 → (pl : Int) + 1 = at_ → KeepsFrom wR.heap.size W (W.setCell ⟨A13, 0, none⟩ (.int .i64 ((pl : Int) + 1))) ∧ ((Code.exit 8 = Code.exit 8 ∧ ∃ c : Nat, Al w9 (W.setCell ⟨A13, 0, none⟩ (.int .i64 ((pl : Int) + 1))) wR.heap.size k h b (302 + 300 * (t + 1)) S9 ((A13, .cells #[.int .i64 (c : Int)] 3) :: Ks0) ∧ c ≤ m ∧ (c = m ∨ (t = 0 ∧ (c : Int) = at_))) ∨ (Code.exit 8 = Code.ret ∧ ¬ (pre ++ [(yk, yv)]) <+: X))) := by
                  intro h0 ha
                  refine ⟨keepsFrom_of (kept_setCell W A13 0 _) (fun j e => by omega), .inl ⟨rfl, pl + 1, ?_, by omega, .inr ⟨h0, by omega⟩⟩⟩
                  rw [show ((pl + 1 : Nat) : Int) = (pl : Int) + 1 by omega]
                  exact hW1.mono (by omega)
                have n12 : A12 ≠ A13 := hR2 _ hR3
                have n5 : w.heap.size ≠ A13 := by have := HR1.out.1.2.1; have := HA1.out.2.2.2.1; have := HA1.out.2.2.2.2.2.1.size; have := lt_of_at H1.out.2.2.1; have := HE.out.2.2.1.size; omega
                have hg13 := kept_setCell W A13 0 (.int .i64 ((pl : Int) + 1))
                have e12 := cell_row (hg13.at b12 n12) 0
                have e5 := cell_row (hg13.at b5 n5) 0
                have e13 := cell_row (row_setCell (w := W) b13 0 (.int .i64 ((pl : Int) + 1))) 0
                have e7 := (hcell _ _ _ _ hW1).1
                simp at e12 e5 e13
                have hdp : ((m : Int) ≤ (pl : Int)) = False := by simp; omega
                have hdp2 : ((pl : Int) < (m : Int)) = True := by simp; omega
                have hdp3 : decide ((m : Int) ≤ (pl : Int)) = false := by simp; omega
                have hdp4 : decide (m ≤ pl) = false := by simp; omega
                have hwp : IntKind.i64.wrap ((pl : Int) + 1) = (pl : Int) + 1 := by rw [IntKind.wrap_i64]; omega
                have HW1 := hide hW1
                clear hA hpre hlt hpe hpn hW1 hR1 hR2 hR3 hR4 hR5 hcell cj b5 b6 b13 b12 hpl hyk hyv hg13 hrl n5 hm3
                generalize hQ : (ownPostG wR.heap.size _ _ _ _ _ : Exit → Act → World → Prop) = PQ
                have HQ := hide hQ
                clear hQ
                by_cases hy : yk = x1 ∧ yv = x2
                · obtain ⟨rfl, rfl⟩ := hy
                  clear HRet
                  rcases (show t = 0 ∨ t = 1 by omega) with rfl | rfl
                  · simp at c12 e12
                    by_cases hat : (pl : Int) + 1 = at_
                    · have HF := hide (HBrk.out rfl hat)
                      have q1 : decide ((pl : Int) + 1 = at_) = true := by simpa using hat
                      have q2 : ((pl : Int) + 1 == at_) = true := by simpa using hat
                      have HAT := hide hat
                      clear HBrk HNorm hat
                      gi_wp2
                      rw [← HQ.out]
                      obtain ⟨h1, h2 | h2⟩ := HF.out
                      · exact ⟨h1, .inl ⟨rfl, h2.2⟩⟩
                      · cases h2.1
                    · have q1 : decide ((pl : Int) + 1 = at_) = false := by simpa using hat
                      have q2 : ((pl : Int) + 1 == at_) = false := by simpa using hat
                      have HF := hide (HNorm.out _ (HW1.out.mono (Nat.le_succ _)) ⟨fun _ => False, Kept.refl _ _, fun _ e => e.elim⟩)
                      have HAT := hide hat
                      clear HBrk HNorm hat
                      gi_wp2
                      all_goals first
                        | (rw [← HQ.out]; exact HF.out)
                        | (rename_i hc; exfalso; simp [HAT.out] at hc)
                  · simp at c12 e12
                    by_cases hp4 : (pl : Int) + 1 < 4
                    · have q1 : decide ((pl : Int) + 1 < 4) = true := by simpa using hp4
                      have hdr := HW1.out.drop (by omega) (yk : Int) (by unfold I64; omega)
                      clear HBrk
                      gi_wp2_with fail
                      refine ⟨trivial, (CallsIn.inRound l (callsIn_wide.2 hdr)).mono ?_⟩
                      clear hdr
                      rintro e W3 ⟨v3, rfl, hA3, hk3⟩
                      have HF := hide (HNorm.out _ hA3 hk3)
                      clear HNorm hA3 hk3
                      gi_wp2
                      rw [← HQ.out]
                      exact HF.out
                    · have q1 : decide ((pl : Int) + 1 < 4) = false := by simpa using hp4
                      have HF := hide (HNorm.out _ (HW1.out.mono (Nat.le_succ _)) ⟨fun _ => False, Kept.refl _ _, fun _ e => e.elim⟩)
                      clear HBrk HNorm
                      gi_wp2
                      rw [← HQ.out]
                      exact HF.out
                · have HF := hide (HRet.out x1 x2 hy)
                  clear HRet HBrk HNorm
                  by_cases hA : yk = x1
                  · have hB : ¬ yv = x2 := fun e => hy ⟨hA, e⟩
                    subst hA
                    have q2 : (yv == x2) = false := by simp [hB]
                    have q4 : decide (yv = x2) = false := by simp [hB]
                    have HAB := hide hB
                    clear hB hy
                    gi_wp2
                    all_goals first
                      | (rw [← HQ.out]; exact ⟨HF.out.1, .inr ⟨rfl, HF.out.2⟩⟩)
                      | (rename_i hc; exfalso; simp [HAB.out] at hc)
                  · have q1 : ((yk : Int) == (x1 : Int)) = false := by simp; omega
                    have q3 : decide ((yk : Int) = (x1 : Int)) = false := by simp; omega
                    have HAB := hide hA
                    clear hA hy
                    gi_wp2
                    all_goals first
                      | (rw [← HQ.out]; exact ⟨HF.out.1, .inr ⟨rfl, HF.out.2⟩⟩)
                      | (rename_i hc; exfalso; simp [HAB.out] at hc)
              case hend2 =>
                rintro D W2 hD ⟨c, hA2, hcm, hc⟩ hd2
                have hJ2 := hA2.join hD hd2
                have HJ2 := hide (And.intro hJ2 hc)
                have b13 : W2.heap[A13]? = some (.cells [Value.int .i64 (c : Int)].toArray 3 (0, 0)) := hJ2.ks (x := (A13, .cells #[.int .i64 (c : Int)] 3)) (by simp)
                have b12 : W2.heap[A12]? = some (.cells [Value.int .i64 (t : Int)].toArray 3 (0, 0)) := hJ2.ks (x := (A12, .cells #[.int .i64 (t : Int)] 3)) (List.mem_cons_of_mem _ (List.mem_cons_of_mem _ HR1.out.2.2.1))
                obtain ⟨b5, -⟩ := HB56.out _ _ _ _ hJ2
                have b9 := hJ2.at HE.out.2.2.2.2.1 HN9.out
                have c13 := cell_row b13 0
                have c12 := cell_row b12 0
                have c5 := cell_row b5 0
                have c9 := cell_row b9 0
                simp at c13 c12 c5 c9
                have hcle : c ≤ 300 := by have := HR1.out.2.2.2; omega
                have hm3 : m ≤ 300 := by have := HR1.out.2.2.2; omega
                clear hJ2 hA2 hd2 b13 b12 b5 b9
                have HEnd : Hid (Al w9 (W2.alloc (.cells #[.int .i64 ((t : Int) + 1)] 3)) (W2.alloc (.cells #[.int .i64 ((t : Int) + 1)] 3)).heap.size k h b (302 + 300 * (t + 1)) S9 ((W2.heap.size, .cells #[.int .i64 (((t + 1 : Nat)) : Int)] 3) :: (D :: Ds).map (fun D => (D, .deferred (some [])))) ∧ (D :: Ds).Pairwise (· > ·) ∧ t + 1 + 1 = (D :: Ds).length) := by
                  obtain ⟨hA1, hDs, hPw, hA13, hwR, hAl⟩ := HA1.out
                  refine ⟨?_, ?_, by simp; omega⟩
                  · rw [show ((t + 1 : Nat) : Int) = (t : Int) + 1 by omega]
                    refine (HJ2.out.1.alloc (.cells #[.int .i64 ((t : Int) + 1)] 3)).less (fun x hx => ?_)
                    rw [HKS.out]
                    rcases List.mem_cons.1 hx with rfl | hx
                    · simp
                    · rcases List.mem_cons.1 hx with rfl | hx
                      · simp
                      · exact List.mem_cons_of_mem _ (List.mem_cons_of_mem _ (List.mem_cons_of_mem _ (List.mem_cons_of_mem _ hx)))
                  · refine List.pairwise_cons.2 ⟨fun D' hD' => ?_, hPw⟩
                    obtain ⟨-, -, -, S, -, -, hK⟩ := hAl
                    have := (hK (D', .deferred (some [])) (List.mem_cons_of_mem _ (List.mem_map.2 ⟨D', hD', rfl⟩))).2.2.2
                    have hs : wR.heap.size = W.heap.size + 1 := by rw [hwR]; simp
                    show D' < D
                    simp only at this
                    omega
                have hwt : IntKind.i64.wrap ((t : Int) + 1) = (t : Int) + 1 := by rw [IntKind.wrap_i64]; omega
                by_cases hcm2 : c = m
                · subst hcm2
                  clear hc
                  go_wp2
                  refine ⟨LpI.mk (t := t + 1) (Ds := D :: Ds) (alA_of rfl) HEnd.out.2.2 (by omega) HEnd.out.2.1 HEnd.out.1, ?_⟩
                  have hDs := HA1.out.2.1
                  simp only [dfs_length]
                  omega
                · obtain ⟨rfl, hat⟩ : t = 0 ∧ (c : Int) = at_ := by omega
                  subst hat
                  have q1 : ((c : Int) == (m : Int)) = false := by simp; omega
                  have q2 : decide ((c : Int) = (m : Int)) = false := by simp; omega
                  have HCM := hide hcm2
                  clear hc hcm2
                  simp at c12
                  have hE := HEnd.out
                  rw [show (((0 : Nat) : Int) + 1) = 1 from rfl] at hE
                  have HE2 := hide hE
                  clear hE HEnd
                  go_wp2
                  all_goals
                    refine ⟨LpI.mk (t := 0 + 1) (Ds := D :: Ds) (alA_of rfl) HE2.out.2.2 (by omega) HE2.out.2.1 HE2.out.1, ?_⟩
                    have hDs := HA1.out.2.1
                    simp only [dfs_length]
                    omega
end Go.Proofs.Ytkbhjdjdjfdikaa
