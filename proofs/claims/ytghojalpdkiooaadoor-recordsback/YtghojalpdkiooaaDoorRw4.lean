/- The walk of RecordsBack. -/
import Derived.Test.YtghojalpdkiooaaDoorRf
import Derived.Test.YtghojalpdkiooaaDoorRh
namespace Go.Proofs.YtghojalpdkiooaaDoor
open Go.RowKit
attribute [local go_sem ↓] Go.wp_at_zero Go.wp_at_succ
set_option maxRecDepth 20000 in
set_option maxHeartbeats 16000000 in
theorem recordsBack_any (r : Rc) (ho : r.Ok) (ao : Option Addr) (n cap : Nat) (xs : List Int) (hn : xs.length = n) (hS : n ≤ 140737488351232) (hB : Byt xs) (hc : n ≤ cap) (m : Int) (hm0 : 0 ≤ m ∧ m < 256) (w : World) (hat : At w ao xs) (hT : Tab w) :
    Calls Tryd.prog 6 #[rcV r, .slice ao n cap, .int .u8 m] w fun e w' => e = .returned (.bool true) ∧ w.grownBy w' none := by
  have HX := hide (And.intro hB (And.intro hn (And.intro hat (And.intro hc hT))))
  have b1 := heap_alloc_new w (.cells (rcC r).toArray 25)
  have g1 := World.grownBy_alloc w (.cells (rcC r).toArray 25) none
  have q := put_rec r ho _ (hT.new g1)
  have H := hide (And.intro ho (And.intro hT (And.intro b1 g1)))
  obtain ⟨c0, c1, c2, c3, c4⟩ := box5 b1
  have QC := hide (fun w1 (h : Tab w1) => check_any r ho w1 h)
  have QS := hide (fun w1 (h : Tab w1) => size_any r.k w1 h)
  clear b1 g1 hT ho hB hat hc
  obtain ⟨C, hC⟩ : ∃ C, C = chk r := ⟨_, rfl⟩
  rw [← hC] at q QC
  have HC := hide hC
  clear hC
  by_cases hm : r.May
  · have hC : C = 0 := by rw [HC.out]; exact if_pos hm
    subst hC
    have hsp := sz_pos (may_kind hm)
    have hsl := sz_le r.k
    have hs2 : 2 ≤ sz r.k := by rcases may_kind hm with e | e | e | e | e <;> rw [e] <;> decide
    have hol := out_length hm
    have hob := out_byt hm
    have e1 := getR_out H.out.1 hm
    have e2 := getR_more H.out.1 hm m
    have e3 := getR_less hm (sz r.k - 1) (by omega)
    have HM := hide (And.intro hm (And.intro hol (And.intro hob (And.intro e1 (And.intro e2 (And.intro e3 (And.intro hs2 hsl)))))))
    clear hm hol hob e1 e2 e3 hsp hsl hs2
    obtain ⟨S, hS2⟩ : ∃ S : Nat, S = sz r.k := ⟨_, rfl⟩
    rw [← hS2] at QS HM
    have HSz := hide hS2
    clear hS2
    have hS3 : (S : Int) ≤ 15 := by have := HM.out.2.2.2.2.2.2.2; omega
    have hS4 : (2 : Int) ≤ (S : Int) := by have := HM.out.2.2.2.2.2.2.1; omega
    obtain ⟨L, hL⟩ : ∃ L, L = r.out := ⟨_, rfl⟩
    rw [← hL] at HM
    have HLo := hide hL
    clear hL
    obtain ⟨rk, ri, rs, ru, rc⟩ := r
    unfold rcC rcV at *
    dsimp only at *
    go_enter Tryd.func6, Tryd.ntmps6
    go_wp2_with fail
    generalize w.alloc (.cells #[.int .i64 rk, .int .u32 ri, .int .i64 rs, .int .i64 ru, .int .i64 rc] 25) = w1 at *
    generalize w.heap.size = X at *
    refine q.mono ?_
    clear q c0 c1 c2 c3 c4
    rintro e w2 ⟨v, rfl, hp, hg⟩
    rcases hp with ⟨_, g, rfl, _, hrow⟩ | ⟨hno, _⟩
    · have hrow2 : w2.heap[g]? = some (.cells (L.map (Value.int .u8)).toArray 5 (0, 0)) := by rw [HLo.out]; exact hrow
      have H2 := hide (And.intro hrow2 (And.intro ((hg.block _ (row_lt H.out.2.2.1) (by simp)).trans H.out.2.2.1) (grown_trans H.out.2.2.2 hg)))
      clear hrow hrow2 hg
      rw [show sz (Rc.mk rk ri rs ru rc).k = S from HSz.out.symm]
      obtain ⟨c0, c1, c2, c3, c4⟩ := box5 H2.out.2.1
      go_wp2_with fail
      refine (QC.out w2 (H.out.2.1.new H2.out.2.2)).mono ?_
      clear c0 c1 c2 c3 c4
      rintro e w3 ⟨rfl, hg⟩
      have H3 := hide (And.intro ((hg.block _ (row_lt H2.out.1) (by simp)).trans H2.out.1) (And.intro ((hg.block _ (row_lt H2.out.2.1) (by simp)).trans H2.out.2.1) (grown_trans H2.out.2.2 hg)))
      clear hg H2 QC
      go_wp2_with fail
      have q := get_any L HM.out.2.2.1 (some ⟨g, 0, none⟩) S S w3 HM.out.2.1 (at_row H3.out.1) (Nat.le_refl _) (by omega) (H.out.2.1.new H3.out.2.2)
      rw [HM.out.2.2.2.1] at q
      unfold rcV at q
      dsimp only at q
      refine q.mono ?_
      clear q
      rintro e w4 ⟨rfl, hg⟩
      have b5 := heap_alloc_new w4 (.cells [Value.int .i64 rk, .int .u32 ri, .int .i64 rs, .int .i64 ru, .int .i64 rc].toArray 25)
      have g5 := World.grownBy_alloc w4 (.cells #[.int .i64 rk, .int .u32 ri, .int .i64 rs, .int .i64 ru, .int .i64 rc] 25) none
      have gg := grown_trans hg g5
      have H5 := hide (And.intro b5 (And.intro ((gg.block _ (row_lt H3.out.1) (by simp)).trans H3.out.1) (And.intro ((gg.block _ (row_lt H3.out.2.1) (by simp)).trans H3.out.2.1) (grown_trans H3.out.2.2 gg))))
      clear b5 g5 gg hg H3
      go_wp2_with fail
      generalize w4.alloc (.cells #[.int .i64 rk, .int .u32 ri, .int .i64 rs, .int .i64 ru, .int .i64 rc] 25) = w5 at *
      generalize w4.heap.size = X5 at *
      refine (copy_any (some ⟨g, 0, none⟩) S S L w5 HM.out.2.1 (at_row H5.out.2.1) (fun e => by cases e) (by omega)).mono ?_
      rintro e w6 ⟨v, rfl, hv, hg⟩
      have g7 := World.grownBy_alloc w6 (.cells #[.int .u8 m] 5) none
      have b7 := heap_alloc_new w6 (.cells ([m].map (Value.int .u8)).toArray 5)
      have hv7 := own_still hv g7
      have gg := grown_trans hg g7
      have H7 := hide (And.intro hv7 (And.intro (at_row b7) (And.intro ((gg.block _ (row_lt H5.out.1) (by simp)).trans H5.out.1) (And.intro ((gg.block _ (row_lt H5.out.2.1) (by simp)).trans H5.out.2.1) (And.intro ((gg.block _ (row_lt H5.out.2.2.1) (by simp)).trans H5.out.2.2.1) (And.intro (grown_trans H5.out.2.2.2 gg) gg.size))))))
      have HLT := hide (And.intro (row_lt H5.out.1) (And.intro (row_lt H5.out.2.1) (row_lt H5.out.2.2.1)))
      obtain ⟨vo, vc, rfl, -⟩ := own_at hv
      have H5s := H5.out.2.2.2.size
      clear b7 g7 hv hv7 gg hg H5
      have HB5 := hide H5s
      clear H5s
      generalize hw5 : w5.heap.size = B5 at *
      clear hw5
      go_wp2_with (at_builtin; refine wpList_append_lie rfl (.tmp 39) (.tmp 41) rfl B5 _ S _ rfl H7.out.1 (some ⟨w6.heap.size, 0, none⟩) 1 1 [m] rfl rfl H7.out.2.1 (fun e => by cases e) (by omega) H7.out.2.2.2.2.2.2 ?_)
      intro v8 w8 ho hg _
      have far : ∀ {i : Nat} {o : Obj}, i < B5 → (w6.alloc (.cells #[.int .u8 m] 5)).heap[i]? = some o → w8.heap[i]? = some o := fun hi h => (hg.block _ (row_lt h) (fun e => by have := (H7.out.1.lt _ e.symm).1; omega)).trans h
      have H8 := hide (And.intro (far HLT.out.1 H7.out.2.2.1) (And.intro (far HLT.out.2.1 H7.out.2.2.2.1) (And.intro (far HLT.out.2.2 H7.out.2.2.2.2.1) (grown_then H7.out.2.2.2.2.2.1 hg (fun j e => Or.inl (by have := (H7.out.1.lt j e).1; exact Nat.le_trans HB5.out this))))))
      have ho : w8.ownsRow B5 5 1 v8 (S + 1) ((L ++ [m]).map (Value.int .u8)) := by rw [List.map_append]; exact ho
      obtain ⟨wo, wc, rfl, l1, l2, l3, l4, l5, -⟩ := own_at ho
      have q := get_any (L ++ [m]) (HM.out.2.2.1.append (by intro x hx; simp at hx; omega)) wo (S + 1) wc w8 l1 l4 l2 (by omega) (H.out.2.1.new H8.out.2.2.2)
      rw [HM.out.2.2.2.2.1] at q
      unfold rcV zRc at q
      dsimp only at q
      clear far ho hg l1 l2 l3 l4 l5 H7 HLT
      generalize S + 1 = S1 at *
      go_wp2_with fail
      refine q.mono ?_
      clear q
      rintro e w9 ⟨rfl, hg⟩
      have gg := grown_trans hg (World.grownBy_alloc w9 (.cells #[.int .i64 0, .int .u32 0, .int .i64 0, .int .i64 0, .int .i64 0] 25) none)
      have H9 := hide (And.intro ((gg.block _ (row_lt H8.out.1) (by simp)).trans H8.out.1) (And.intro ((gg.block _ (row_lt H8.out.2.1) (by simp)).trans H8.out.2.1) (And.intro ((gg.block _ (row_lt H8.out.2.2.1) (by simp)).trans H8.out.2.2.1) (grown_trans H8.out.2.2.2 gg))))
      clear hg gg H8
      obtain ⟨c0, c1, c2, c3, c4⟩ := box5 H9.out.1
      obtain ⟨d0, d1, d2, d3, d4⟩ := box5 H9.out.2.2.1
      go_wp2_with fail
      generalize w9.alloc (.cells #[.int .i64 0, .int .u32 0, .int .i64 0, .int .i64 0, .int .i64 0] 25) = w10 at *
      clear c0 c1 c2 c3 c4 d0 d1 d2 d3 d4
      refine (QS.out w10 (H.out.2.1.new H9.out.2.2.2)).mono ?_
      rintro e w11 ⟨rfl, hg⟩
      have H11 := hide (And.intro ((hg.block _ (row_lt H9.out.2.1) (by simp)).trans H9.out.2.1) (grown_trans H9.out.2.2.2 hg))
      clear hg H9 QS
      have hcut : ∀ w, (Instr.slice 26 (.slice (some ⟨g, 0, none⟩) S S) none (some (.int .i64 ((S : Int) - 1))) none).run Tryd.prog w = .ok (.slice (some ⟨g, 0, none⟩) (S - 1) S) w := by
        have := slice_to (some ⟨g, 0, none⟩) S S (S - 1) (by omega)
        rw [show ((S - 1 : Nat) : Int) = (S : Int) - 1 by omega] at this
        exact this
      have hw1 : IntKind.i64.wrap ((S : Int) - 1) = (S : Int) - 1 := by rw [IntKind.wrap_i64]; omega
      have q := get_any (L.take (S - 1)) (HM.out.2.2.1.take _) (some ⟨g, 0, none⟩) (S - 1) S w11 (by rw [List.length_take, HM.out.2.1]; omega) ((at_row H11.out.1).take _) (by omega) (by omega) (H.out.2.1.new H11.out.2)
      rw [HM.out.2.2.2.2.2.1] at q
      unfold rcV zRc at q
      dsimp only at q
      generalize S - 1 = S2 at *
      go_wp2_with fail
      refine q.mono ?_
      clear q hcut
      rintro e w12 ⟨rfl, hg⟩
      have GZ := hide (And.intro trivial (grown_trans H11.out.2 (grown_trans hg (World.grownBy_alloc w12 (.cells #[.int .i64 0, .int .u32 0, .int .i64 0, .int .i64 0, .int .i64 0] 25) none))))
      clear hg H11 hw1
      go_wp2_with fail
      generalize w12.alloc (.cells #[.int .i64 0, .int .u32 0, .int .i64 0, .int .i64 0, .int .i64 0] 25) = w13 at *
      have q := get_any xs HX.out.1 ao n cap w13 hn (HX.out.2.2.1.kept GZ.out.2 (fun _ _ e => by cases e)) HX.out.2.2.2.1 (by omega) (HX.out.2.2.2.2.new GZ.out.2)
      obtain ⟨p, hp⟩ : ∃ p, p = getR xs := ⟨_, rfl⟩
      rw [← hp] at q
      have hcs := getR_cases xs
      have hok := rcOf_ok HX.out.1
      have hout := fun hm hl => out_rcOf (xs := xs) HX.out.1 hm hl
      rw [← hp] at hcs
      obtain ⟨pr, code⟩ := p
      dsimp only at hcs q
      rcases hcs with ⟨rfl, rfl, hm, hl, _⟩ | ⟨rfl, hcs⟩
      · have hout := hout hm hl
        have hlen := out_length hm
        generalize rcOf xs = pr at *
        have PP := hide (And.intro hm (And.intro hok (And.intro hout hlen)))
        clear hm hok hout hl hp hlen
        unfold rcV at q
        obtain ⟨pk, pi, ps, pu, pc⟩ := pr
        dsimp only at q
        go_wp2_with fail
        refine q.mono ?_
        clear q
        rintro e y1 ⟨rfl, hg⟩
        have b2 := heap_alloc_new y1 (.cells [Value.int .i64 pk, .int .u32 pi, .int .i64 ps, .int .i64 pu, .int .i64 pc].toArray 25)
        have g2 := World.grownBy_alloc y1 (.cells #[.int .i64 pk, .int .u32 pi, .int .i64 ps, .int .i64 pu, .int .i64 pc] 25) none
        have Y2 := hide (And.intro b2 (grown_trans GZ.out.2 (grown_trans hg g2)))
        clear b2 g2 hg
        obtain ⟨c0, c1, c2, c3, c4⟩ := box5 Y2.out.1
        have q := put_rec ⟨pk, pi, ps, pu, pc⟩ PP.out.2.1 _ (HX.out.2.2.2.2.new Y2.out.2)
        rw [show chk ⟨pk, pi, ps, pu, pc⟩ = 0 from if_pos PP.out.1] at q
        unfold rcV at q
        dsimp only at q
        go_wp2_with fail
        generalize y1.alloc (.cells #[.int .i64 pk, .int .u32 pi, .int .i64 ps, .int .i64 pu, .int .i64 pc] 25) = y2 at *
        generalize y1.heap.size = Y at *
        refine q.mono ?_
        clear q c0 c1 c2 c3 c4
        rintro e y3 ⟨v, rfl, hp, hg⟩
        rcases hp with ⟨_, g3, rfl, _, hrow⟩ | ⟨hno, _⟩
        · have hrow2 : y3.heap[g3]? = some (.cells (xs.map (Value.int .u8)).toArray 5 (0, 0)) := by rw [← PP.out.2.2.1]; exact hrow
          have hszn : sz (Rc.mk pk pi ps pu pc).k = n := by rw [← PP.out.2.2.2, PP.out.2.2.1, hn]
          have Y3 := hide (And.intro hrow2 (And.intro ((hg.block _ (row_lt Y2.out.1) (by simp)).trans Y2.out.1) (grown_trans Y2.out.2 hg)))
          clear hrow hrow2 hg Y2
          rw [hszn]
          clear hszn
          obtain ⟨c0, c1, c2, c3, c4⟩ := box5 Y3.out.2.1
          have q := check_any ⟨pk, pi, ps, pu, pc⟩ PP.out.2.1 y3 (HX.out.2.2.2.2.new Y3.out.2.2)
          rw [show chk ⟨pk, pi, ps, pu, pc⟩ = 0 from if_pos PP.out.1] at q
          unfold rcV at q
          dsimp only at q
          go_wp2_with fail
          refine q.mono ?_
          clear q c0 c1 c2 c3 c4
          rintro e y4 ⟨rfl, hg⟩
          have Y4 := hide (And.intro ((hg.block _ (row_lt Y3.out.1) (by simp)).trans Y3.out.1) (grown_trans Y3.out.2.2 hg))
          clear hg Y3
          go_wp2_with fail
          refine (same_eq (some ⟨g3, 0, none⟩) ao n n cap xs y4 hn (at_row Y4.out.1) (HX.out.2.2.1.kept Y4.out.2 (fun _ _ e => by cases e)) (by omega)).mono ?_
          rintro e y5 ⟨rfl, hg⟩
          have Y5 := hide (grown_trans Y4.out.2 hg)
          clear hg Y4
          go_wp2_with fail
          refine (awake_any y5 (HX.out.2.2.2.2.new Y5.out)).mono ?_
          rintro e y6 ⟨rfl, hg⟩
          have Y6 := hide (grown_trans Y5.out hg)
          clear hg Y5
          go_wp2
          go_ret
          exact ⟨rfl, Y6.out⟩
        · exact absurd PP.out.1 hno
      · have hc0 : code ≠ 0 := by omega
        have z1 : (code == 0) = false := by simpa using hc0
        have z2 : (code != 0) = true := by simpa using hc0
        have z3 : decide (code = 0) = false := by simpa using hc0
        clear hcs hok hout hp hc0
        unfold rcV zRc at q
        dsimp only at q
        go_wp2_with fail
        refine q.mono ?_
        clear q
        rintro e y1 ⟨rfl, hg⟩
        have b2 := heap_alloc_new y1 (.cells [Value.int .i64 0, .int .u32 0, .int .i64 0, .int .i64 0, .int .i64 0].toArray 25)
        have g2 := World.grownBy_alloc y1 (.cells #[.int .i64 0, .int .u32 0, .int .i64 0, .int .i64 0, .int .i64 0] 25) none
        have Y2 := hide (And.intro b2 (grown_trans GZ.out.2 (grown_trans hg g2)))
        clear b2 g2 hg
        obtain ⟨c0, c1, c2, c3, c4⟩ := box5 Y2.out.1
        go_wp2_with fail
        generalize y1.alloc (.cells #[.int .i64 0, .int .u32 0, .int .i64 0, .int .i64 0, .int .i64 0] 25) = y2 at *
        refine (awake_any y2 (HX.out.2.2.2.2.new Y2.out.2)).mono ?_
        rintro e y6 ⟨rfl, hg⟩
        have Y6 := hide (grown_trans Y2.out.2 hg)
        clear hg c0 c1 c2 c3 c4
        go_wp2
        go_ret
        exact ⟨rfl, Y6.out⟩
    · exact absurd HM.out.1 hno
  · have hC : C = 160 := by rw [HC.out]; exact if_neg hm
    subst hC
    have HM := hide hm
    clear hm
    obtain ⟨rk, ri, rs, ru, rc⟩ := r
    unfold rcC rcV at *
    dsimp only at *
    go_enter Tryd.func6, Tryd.ntmps6
    go_wp2_with fail
    generalize w.alloc (.cells #[.int .i64 rk, .int .u32 ri, .int .i64 rs, .int .i64 ru, .int .i64 rc] 25) = w1 at *
    generalize w.heap.size = X at *
    refine q.mono ?_
    clear q c0 c1 c2 c3 c4
    rintro e w2 ⟨v, rfl, hp, hg⟩
    rcases hp with ⟨hno, _⟩ | ⟨_, rfl⟩
    · exact absurd hno HM.out
    · have H2 := hide (And.intro ((hg.block _ (row_lt H.out.2.2.1) (by simp)).trans H.out.2.2.1) (grown_trans H.out.2.2.2 hg))
      clear hg
      obtain ⟨c0, c1, c2, c3, c4⟩ := box5 H2.out.1
      go_wp2_with fail
      refine (QC.out w2 (H.out.2.1.new H2.out.2)).mono ?_
      clear c0 c1 c2 c3 c4
      rintro e w3 ⟨rfl, hg⟩
      have GZ := hide (And.intro trivial (grown_trans H2.out.2 hg))
      clear hg H2 QC QS
      go_wp2_with fail
      have q := get_any xs HX.out.1 ao n cap w3 hn (HX.out.2.2.1.kept GZ.out.2 (fun _ _ e => by cases e)) HX.out.2.2.2.1 (by omega) (HX.out.2.2.2.2.new GZ.out.2)
      obtain ⟨p, hp⟩ : ∃ p, p = getR xs := ⟨_, rfl⟩
      rw [← hp] at q
      have hcs := getR_cases xs
      have hok := rcOf_ok HX.out.1
      have hout := fun hm hl => out_rcOf (xs := xs) HX.out.1 hm hl
      rw [← hp] at hcs
      obtain ⟨pr, code⟩ := p
      dsimp only at hcs q
      rcases hcs with ⟨rfl, rfl, hm, hl, _⟩ | ⟨rfl, hcs⟩
      · have hout := hout hm hl
        have hlen := out_length hm
        generalize rcOf xs = pr at *
        have PP := hide (And.intro hm (And.intro hok (And.intro hout hlen)))
        clear hm hok hout hl hp hlen
        unfold rcV at q
        obtain ⟨pk, pi, ps, pu, pc⟩ := pr
        dsimp only at q
        go_wp2_with fail
        refine q.mono ?_
        clear q
        rintro e y1 ⟨rfl, hg⟩
        have b2 := heap_alloc_new y1 (.cells [Value.int .i64 pk, .int .u32 pi, .int .i64 ps, .int .i64 pu, .int .i64 pc].toArray 25)
        have g2 := World.grownBy_alloc y1 (.cells #[.int .i64 pk, .int .u32 pi, .int .i64 ps, .int .i64 pu, .int .i64 pc] 25) none
        have Y2 := hide (And.intro b2 (grown_trans GZ.out.2 (grown_trans hg g2)))
        clear b2 g2 hg
        obtain ⟨c0, c1, c2, c3, c4⟩ := box5 Y2.out.1
        have q := put_rec ⟨pk, pi, ps, pu, pc⟩ PP.out.2.1 _ (HX.out.2.2.2.2.new Y2.out.2)
        rw [show chk ⟨pk, pi, ps, pu, pc⟩ = 0 from if_pos PP.out.1] at q
        unfold rcV at q
        dsimp only at q
        go_wp2_with fail
        generalize y1.alloc (.cells #[.int .i64 pk, .int .u32 pi, .int .i64 ps, .int .i64 pu, .int .i64 pc] 25) = y2 at *
        generalize y1.heap.size = Y at *
        refine q.mono ?_
        clear q c0 c1 c2 c3 c4
        rintro e y3 ⟨v, rfl, hp, hg⟩
        rcases hp with ⟨_, g3, rfl, _, hrow⟩ | ⟨hno, _⟩
        · have hrow2 : y3.heap[g3]? = some (.cells (xs.map (Value.int .u8)).toArray 5 (0, 0)) := by rw [← PP.out.2.2.1]; exact hrow
          have hszn : sz (Rc.mk pk pi ps pu pc).k = n := by rw [← PP.out.2.2.2, PP.out.2.2.1, hn]
          have Y3 := hide (And.intro hrow2 (And.intro ((hg.block _ (row_lt Y2.out.1) (by simp)).trans Y2.out.1) (grown_trans Y2.out.2 hg)))
          clear hrow hrow2 hg Y2
          rw [hszn]
          clear hszn
          obtain ⟨c0, c1, c2, c3, c4⟩ := box5 Y3.out.2.1
          have q := check_any ⟨pk, pi, ps, pu, pc⟩ PP.out.2.1 y3 (HX.out.2.2.2.2.new Y3.out.2.2)
          rw [show chk ⟨pk, pi, ps, pu, pc⟩ = 0 from if_pos PP.out.1] at q
          unfold rcV at q
          dsimp only at q
          go_wp2_with fail
          refine q.mono ?_
          clear q c0 c1 c2 c3 c4
          rintro e y4 ⟨rfl, hg⟩
          have Y4 := hide (And.intro ((hg.block _ (row_lt Y3.out.1) (by simp)).trans Y3.out.1) (grown_trans Y3.out.2.2 hg))
          clear hg Y3
          go_wp2_with fail
          refine (same_eq (some ⟨g3, 0, none⟩) ao n n cap xs y4 hn (at_row Y4.out.1) (HX.out.2.2.1.kept Y4.out.2 (fun _ _ e => by cases e)) (by omega)).mono ?_
          rintro e y5 ⟨rfl, hg⟩
          have Y5 := hide (grown_trans Y4.out.2 hg)
          clear hg Y4
          go_wp2_with fail
          refine (awake_any y5 (HX.out.2.2.2.2.new Y5.out)).mono ?_
          rintro e y6 ⟨rfl, hg⟩
          have Y6 := hide (grown_trans Y5.out hg)
          clear hg Y5
          go_wp2
          go_ret
          exact ⟨rfl, Y6.out⟩
        · exact absurd PP.out.1 hno
      · have hc0 : code ≠ 0 := by omega
        have z1 : (code == 0) = false := by simpa using hc0
        have z2 : (code != 0) = true := by simpa using hc0
        have z3 : decide (code = 0) = false := by simpa using hc0
        clear hcs hok hout hp hc0
        unfold rcV zRc at q
        dsimp only at q
        go_wp2_with fail
        refine q.mono ?_
        clear q
        rintro e y1 ⟨rfl, hg⟩
        have b2 := heap_alloc_new y1 (.cells [Value.int .i64 0, .int .u32 0, .int .i64 0, .int .i64 0, .int .i64 0].toArray 25)
        have g2 := World.grownBy_alloc y1 (.cells #[.int .i64 0, .int .u32 0, .int .i64 0, .int .i64 0, .int .i64 0] 25) none
        have Y2 := hide (And.intro b2 (grown_trans GZ.out.2 (grown_trans hg g2)))
        clear b2 g2 hg
        obtain ⟨c0, c1, c2, c3, c4⟩ := box5 Y2.out.1
        go_wp2_with fail
        generalize y1.alloc (.cells #[.int .i64 0, .int .u32 0, .int .i64 0, .int .i64 0, .int .i64 0] 25) = y2 at *
        refine (awake_any y2 (HX.out.2.2.2.2.new Y2.out.2)).mono ?_
        rintro e y6 ⟨rfl, hg⟩
        have Y6 := hide (grown_trans Y2.out.2 hg)
        clear hg c0 c1 c2 c3 c4
        go_wp2
        go_ret
        exact ⟨rfl, Y6.out⟩
end Go.Proofs.YtghojalpdkiooaaDoor
