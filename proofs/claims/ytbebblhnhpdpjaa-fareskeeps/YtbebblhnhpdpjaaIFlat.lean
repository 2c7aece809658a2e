/- The contract of flatBytes: rows of bytes that lie apart are told so. -/
import Derived.Test.YtbebblhnhpdpjaaIFlat1
namespace Go.Proofs.Ytbebblhnhpdpjaa.Ai
open Go.RowKit
attribute [local go_sem ↓] Go.wp_at_zero Go.wp_at_succ

/-- What the rows hold, while the j-th is being marked (t bytes of it are). -/
def fillF (n : Nat → Nat) (f : Nat → List Value) (j t : Nat) (k : Nat) : List Value :=
  if k < j then bv (marks (k : Int) (n k)) else if k = j then bv (marks (j : Int) t) ++ (f j).drop t else f k
theorem fillF_start (n : Nat → Nat) (f : Nat → List Value) : fillF n f 0 0 = f := by
  funext k; unfold fillF; simp [marks, bv]; intro h; rw [h]
theorem fillF_next (n : Nat → Nat) (f : Nat → List Value) (j : Nat) (h : (f j).length = n j) : fillF n f j (n j) = fillF n f (j + 1) 0 := by
  funext k; unfold fillF
  by_cases h1 : k < j
  · simp [h1, show k < j + 1 by omega]
  · by_cases h2 : k = j
    · subst h2; simp [List.drop_of_length_le (show (f k).length ≤ n k by omega)]
    · by_cases h3 : k = j + 1
      · subst h3; simp [marks, bv]; omega
      · simp [h1, h2, h3, show ¬ k < j + 1 by omega]
theorem fillF_at (n : Nat → Nat) (f : Nat → List Value) (j t : Nat) : fillF n f j t j = bv (marks (j : Int) t) ++ (f j).drop t := by unfold fillF; simp
theorem fillF_set (n : Nat → Nat) (f : Nat → List Value) (j t : Nat) (ht : t < (f j).length) : (fillF n f j t j).set t (.int .i64 ((mkN (j : Int) t : Nat) : Int)) = fillF n f j (t + 1) j := by
  have hm : (bv (marks (j : Int) t)).length = t := by rw [bv_length, marks_length]
  rw [fillF_at, fillF_at, List.set_append_right _ _ (by omega), hm, Nat.sub_self, marks_succ, bv_append, List.append_assoc]
  congr 1
  rw [List.drop_eq_getElem_cons ht]
  rfl
theorem fillF_other (n : Nat → Nat) (f : Nat → List Value) (j t k : Nat) (h : k ≠ j) : fillF n f j (t + 1) k = fillF n f j t k := by unfold fillF; simp [h]

/-- The cell of ls at k. -/
theorem Fl.cell {w : World} {B K L cap : Nat} {v : Nat → Value} {n : Nat → Nat} {f : Nat → List Value} (h : Fl w B K (.slice (some ⟨L, 0, none⟩) K cap) v n f) {k : Nat} (hk : k < K) : w.cell? ⟨L, k, none⟩ = some (v k) := by
  rw [h.ls.cellAt k (by omega)]; simp [hk]
/-- A row that has a byte has a place. -/
theorem own_place {w : World} {B n : Nat} {v : Value} {xs : List Value} (h : w.ownsRow B 3 1 v n xs) (hn : 0 < n) : ∃ g cap, v = .slice (some ⟨g, 0, none⟩) n cap ∧ B ≤ g ∧ n ≤ cap ∧ cap ≤ maxLen := by
  rcases h.2 with ⟨_, h0⟩ | ⟨g, cap, cur, rfl, hb, _, hnc, hcm, _⟩
  · omega
  · exact ⟨g, cap, rfl, hb, hnc, hcm⟩
theorem own_len {w : World} {B n : Nat} {v : Value} {xs : List Value} (h : w.ownsRow B 3 1 v n xs) : ∃ ao cap, v = .slice ao n cap := by
  rcases h.2 with ⟨rfl, rfl⟩ | ⟨g, cap, cur, rfl, _⟩
  · exact ⟨_, _, rfl⟩
  · exact ⟨_, _, rfl⟩

theorem bv_marks_take (k : Int) (a b : Nat) : (bv (marks k (a + b))).take a = bv (marks k a) := by
  unfold bv marks
  rw [← List.map_take, ← List.map_take, List.take_range, Nat.min_eq_left (by omega)]
theorem make_many (w : World) : (Instr.makeSlice 30 (.int .i64 64) (.int .i64 64)).run Try.prog w = .ok (.slice (some ⟨w.heap.size, 0, none⟩) 64 64) (w.alloc (.cells (zrow 64).toArray 3)) := by
  have h := run_make_row' (P := Try.prog) 30 3 (.int .i64 0) 8 Try.underlying30 Try.info3 rfl .i64 .i64 64 (by omega) (by omega) w
  rw [made_zrow] at h
  exact h
theorem map_nils (K : Nat) : (List.range K).map (fun _ => Value.slice none 0 0) = List.replicate K (Value.slice none 0 0) := by rw [List.map_const', List.length_range]

/-- What lay ahead stays, but for blocks of T. -/
structure GrownT (T : Nat → Prop) (a b : World) : Prop where
  os : b.os = a.os
  tape : b.tape = a.tape
  output : b.output = a.output
  size : a.heap.size ≤ b.heap.size
  block : ∀ k, k < a.heap.size → ¬ T k → b.heap[k]? = a.heap[k]?
theorem GrownT.refl (T : Nat → Prop) (a : World) : GrownT T a a := ⟨rfl, rfl, rfl, Nat.le_refl _, fun _ _ _ => rfl⟩
theorem GrownT.step {T : Nat → Prop} {a b c : World} {row : Option Nat} (h : GrownT T a b) (k : b.grownBy c row) (hr : ∀ j, row = some j → a.heap.size ≤ j ∨ T j) : GrownT T a c :=
  ⟨k.os.trans h.os, k.tape.trans h.tape, k.output.trans h.output, Nat.le_trans h.size k.size, fun i hi hT => (k.block i (Nat.lt_of_lt_of_le hi h.size) (fun e => by
    rcases hr i e.symm with h1 | h1
    · omega
    · exact hT h1)).trans (h.block i hi hT)⟩
/-- Where no block of T lay ahead, all that lay ahead stays. -/
theorem GrownT.grown {T : Nat → Prop} {a b : World} (h : GrownT T a b) (hT : ∀ k, T k → a.heap.size ≤ k) : a.grownBy b none :=
  ⟨h.os, h.tape, h.output, h.size, fun k hk _ => h.block k hk (fun t => by have := hT k t; omega)⟩
/-- What lies ahead of w0 stays, but for blocks of T, and so does the bag. -/
def Kp (T : Nat → Prop) (w0 w : World) (bb : Nat) (cb : Array Value) : Prop := GrownT T w0 w ∧ w.heap[bb]? = some (.cells cb 91 (0, 0))
theorem Kp.step {T : Nat → Prop} {w0 w w' : World} {bb : Nat} {cb : Array Value} {row : Option Nat} (h : Kp T w0 w bb cb) (hg : w.grownBy w' row) (hrow : ∀ k, row = some k → w0.heap.size ≤ k ∨ T k) (hne : row ≠ some bb) : Kp T w0 w' bb cb :=
  ⟨h.1.step hg hrow, (hg.block bb (row_lt h.2) (fun e => hne e.symm)).trans h.2⟩
theorem Kp.new {T : Nat → Prop} {w0 w w' : World} {bb : Nat} {cb : Array Value} (h : Kp T w0 w bb cb) (hg : w.grownBy w' none) : Kp T w0 w' bb cb := h.step hg (fun k e => by cases e) (by simp)
theorem own_bag {w : World} {B n bb : Nat} {e : TypeId} {v : Value} {xs : List Value} {cb : Array Value} (h : w.ownsRow B e 1 v n xs) (hb : w.heap[bb]? = some (.cells cb 91 (0, 0))) (he : e ≠ 91) : v.ownBlock ≠ some bb := by
  rcases h.2 with ⟨rfl, _⟩ | ⟨g, cap, cur, rfl, _, hg, _⟩
  · simp [Value.ownBlock]
  · simp only [Value.ownBlock, ne_eq, Option.some.injEq]
    rintro rfl
    rw [hb] at hg
    simp at hg
    exact he hg.2.symm

set_option maxRecDepth 100000 in
set_option maxHeartbeats 4000000 in
theorem flat_any (B K L cap : Nat) (v : Nat → Value) (n : Nat → Nat) (f : Nat → List Value) (T : Nat → Prop) (w0 w : World) (bb : Nat) (cb : Array Value) (hF : Fl w B K (.slice (some ⟨L, 0, none⟩) K cap) v n f) (hG : Kp T w0 w bb cb) (hT : ∀ i, i < K → ∀ k, (v i).ownBlock = some k → w0.heap.size ≤ k ∨ T k) (hK : K ≤ 400000) (hn : ∀ k, k < K → n k ≤ 17592186044000) (hBw : B ≤ w.heap.size) :
    Calls Try.prog 61 #[.slice (some ⟨L, 0, none⟩) K cap] w fun e w' => e = .returned (.bool true) ∧ Kp T w0 w' bb cb := by
  have HF := hide (And.intro hF hG)
  have HN := hide hn
  have HT := hide hT
  clear hT
  have hlen : ∀ k, k < K → (f k).length = n k := fun k hk => by simpa using (hF.row k hk).1
  have HL := hide hlen
  clear hF hG hn hlen
  go_enter Try.func61, Try.ntmps61
  go_wp2
  go_loopg [3, 4] K (fun g i _ wr => ∃ j : Nat, g + j = K ∧ i = .int .i64 j ∧ Fl wr B K (.slice (some ⟨L, 0, none⟩) K cap) v n (fillF n f j 0) ∧ Kp T w0 wr bb cb ∧ w.heap.size ≤ wr.heap.size)
  case atStart => exact ⟨0, by omega, rfl, by rw [fillF_start]; exact HF.out.1, HF.out.2, Nat.le_refl _⟩
  case round =>
    obtain ⟨j, hgj, rfl, hF, hG, hsz⟩ := hrel
    clear HF
    by_cases hk : 0 < gk
    · have hj : j < K := by omega
      have hjK : (j : Int) < (K : Int) := by omega
      have HF := hide (And.intro hF hG)
      clear hF hG
      go_wp2
      go_loopg [4] (n j) (fun g i wr' => ∃ t : Nat, g + t = n j ∧ i = .int .i64 t ∧ Fl wr' B K (.slice (some ⟨L, 0, none⟩) K cap) v n (fillF n f j t) ∧ Kp T w0 wr' bb cb ∧ w.heap.size ≤ wr'.heap.size)
      case atStart => exact ⟨0, by omega, rfl, HF.out.1, HF.out.2, hsz⟩
      case round =>
        obtain ⟨t, hgt, rfl, hF, hG, hsz2⟩ := hrel
        clear HF
        have hcl := hF.cell hj
        by_cases hk2 : 0 < gk
        · obtain ⟨g, c, hv, hBg, hnc, hcm⟩ := own_place (hF.row j hj) (by omega)
          rw [hv] at hcl
          have hrow := hF.row j hj
          rw [hv] at hrow
          have htl : t < (f j).length := by rw [HL.out j hj]; omega
          have hcell := hrow.cellAt t (by omega)
          have hfr := hrow.frozenAt t
          have hml : (bv (marks (j : Int) t)).length = t := by rw [bv_length, marks_length]
          rw [fillF_at, List.getElem?_append_right (by omega), hml, Nat.sub_self, List.getElem?_drop, Nat.add_zero, List.getElem?_eq_getElem htl] at hcell
          have hmk := fun w => markN_any (j : Int) t w (by omega) (by omega) (by have := HN.out j hj; omega)
          have HM := hide hmk
          have hmu := mkN_wrap (j : Int) t (by omega) (by omega) (by first | omega | (have := HN.out j hj; omega))
          have HQ := hide (And.intro hF (And.intro hG (And.intro hv (fillF_set n f j t htl))))
          generalize (f j)[t] = y at *
          generalize mkN (j : Int) t = mk at *
          have h1 : (t : Int) < (n j : Int) := by omega
          unfold maxLen at hcm
          clear hF hG hv hrow htl hml hmk
          generalize hnj : n j = nj at *
          go_wp2
          go_region_with (go_at_call 56; refine (HM.out _).mono ?_; rintro e wA ⟨rfl, rfl⟩)
          all_goals
            go_wp2
            go_roundg (gk - 1)
            case measure => omega
            case rel =>
              obtain ⟨hF, hG, hv, hset⟩ := HQ.out
              have hrow := hF.row j hj
              rw [hv, hnj] at hrow
              have hst := hrow.stored t (.int .i64 ((mk : Nat) : Int))
              have hst2 := grown_trans hst.2 (grown_drew _ (some g))
              refine ⟨t + 1, by omega, by go_num, ?_, ?_, ?_⟩
              · refine hF.wrote j hj (by rw [hv]; exact hst2) ?_ (fun k hk => fillF_other n f j t k hk)
                rw [← hset, hv, hnj]; exact hst.1.drew
              · exact hG.step hst2 (fun k e => by cases e; exact HT.out j hj g (by rw [hv]; rfl)) (own_bag hrow hG.2 (by decide))
              · exact Nat.le_trans hsz2 hst2.size
        · have ht : t = n j := by omega
          obtain ⟨ao, c, hv⟩ := own_len (hF.row j hj)
          rw [hv] at hcl
          rw [ht, fillF_next n f j (HL.out j hj)] at hF
          have h1 : ¬ (t : Int) < (n j : Int) := by omega
          have HQ := hide (And.intro hF hG)
          clear hF hG hv ht
          go_wp2
          go_roundg (K - (j + 1))
          case measure => omega
          case rel => exact ⟨j + 1, by omega, by go_num, HQ.out.1, HQ.out.2, hsz2⟩
    · have hjK : j = K := by omega
      have hjK1 : ¬ (j : Int) < (K : Int) := by omega
      have hfin : ∀ k, k < K → fillF n f j 0 k = bv (marks (k : Int) (n k)) := fun k hk => by unfold fillF; simp [show k < j by omega]
      have hF1 : Fl wr B K (.slice (some ⟨L, 0, none⟩) K cap) v n (fun k => bv (marks (k : Int) (n k))) := ⟨hF.ls, fun k hk => by have := hF.row k hk; rw [hfin k hk] at this; exact this, hF.apart⟩
      have H1 := hide (And.intro hF1 hG)
      have hmk := make_lists K hK
      have hwr : B ≤ wr.heap.size := by omega
      clear hF hG hfin hF1 hjK HL hsz hBw
      go_wp2
      clear hmk
      obtain ⟨G, hGe⟩ : ∃ G, G = wr.heap.size := ⟨_, rfl⟩
      have HGe := hide hGe
      have hGw : w0.heap.size ≤ G := by rw [hGe]; exact H1.out.2.1.size
      rw [← hGe]
      clear hGe
      go_loopg [6, 7, 8] K (fun q i _ _ wx => ∃ (j : Nat) (u : Nat → Value), q + j = K ∧ i = .int .i64 j ∧ Fl wx B K (.slice (some ⟨L, 0, none⟩) K cap) v n (fun k => bv (marks (k : Int) (n k))) ∧ Gl wx B K (.slice (some ⟨G, 0, none⟩) K K) (.slice (some ⟨L, 0, none⟩) K cap) v u n j (fun k => bv (marks (k : Int) (n k + 64))) ∧ Kp T w0 wx bb cb ∧ B ≤ wx.heap.size)
      case atStart =>
        obtain ⟨hF1, hG1⟩ := H1.out
        have ga := World.grownBy_alloc wr (Obj.cells (List.replicate K (Value.slice none 0 0)).toArray 30) none
        refine ⟨0, fun _ => .slice none 0 0, by omega, rfl, hF1.kept ga, ⟨?_, ?_, (fun k hk => by omega), (fun i k hi => by omega), (fun i k hi => by omega)⟩, hG1.new ga, Nat.le_trans hwr ga.size⟩
        · have := World.ownsRow_lit (base := B) (e := 30) (size := 1) wr (List.replicate K (Value.slice none 0 0)).toArray K hwr (by unfold maxLen; omega) (by simp)
          rw [HGe.out, map_nils]
          simpa using this
        · simp only [Value.ownBlock, ne_eq, Option.some.injEq]
          intro e
          have := (hF1.ls.lt L rfl).2
          rw [HGe.out] at e
          omega
      case round =>
        obtain ⟨j, u, hgj, rfl, hF, hGl, hG, hBx⟩ := hrel
        clear H1 HGe
        by_cases hk : 0 < gk
        · have hj : j < K := by omega
          have hjK : (j : Int) < (K : Int) := by omega
          have hcl := hF.cell hj
          obtain ⟨ao, c, hv⟩ := own_len (hF.row j hj)
          rw [hv] at hcl
          obtain ⟨S, hS⟩ : ∃ S, S = wr.heap.size := ⟨_, rfl⟩
          have HS : Hid ((∃ wS, Fl wS B K (.slice (some ⟨L, 0, none⟩) K cap) v n (fun k => bv (marks (k : Int) (n k))) ∧ Gl wS B K (.slice (some ⟨G, 0, none⟩) K K) (.slice (some ⟨L, 0, none⟩) K cap) v u n j (fun k => bv (marks (k : Int) (n k + 64))) ∧ wS.heap.size ≤ S) ∧ v j = .slice ao (n j) c) := ⟨⟨wr, hF, hGl, Nat.le_of_eq hS.symm⟩, hv⟩
          have HS0 := hide (And.intro hF (And.intro hGl (And.intro hG hS)))
          obtain ⟨nj, hnj⟩ : ∃ x, x = n j := ⟨_, rfl⟩
          rw [← hnj] at hcl
          have HNJ := hide (And.intro hnj (by have := HN.out j hj; omega : n j ≤ 17592186044000))
          have hnjb : nj ≤ 17592186044000 := by rw [hnj]; exact HNJ.out.2
          have hBS : B ≤ S := by omega
          have hS0 : w0.heap.size ≤ S := by rw [hS]; exact hG.1.size
          clear hF hGl hG hv hnj hS
          go_wp2
          go_loopg [7, 8] 64 (fun q x i wy => ∃ t : Nat, q + t = 64 ∧ i = .int .i64 t ∧ Out S x (v j) ∧ wy.ownsRow B 3 1 x (nj + t) (bv (marks (j : Int) (nj + t))) ∧ Fl wy B K (.slice (some ⟨L, 0, none⟩) K cap) v n (fun k => bv (marks (k : Int) (n k))) ∧ Gl wy B K (.slice (some ⟨G, 0, none⟩) K K) (.slice (some ⟨L, 0, none⟩) K cap) v u n j (fun k => bv (marks (k : Int) (n k + 64))) ∧ Kp T w0 wy bb cb ∧ S ≤ wy.heap.size)
          case atStart =>
            obtain ⟨hF, hGl, hG, hS⟩ := HS0.out
            have hv := HS.out.2
            refine ⟨0, rfl, rfl, ?_, ?_, hF, hGl, hG, Nat.le_of_eq hS⟩
            · rw [hv, HNJ.out.1]; exact Or.inl rfl
            · have := hF.row j hj
              rw [hv, ← HNJ.out.1] at this
              exact this
          case round =>
            obtain ⟨t, hgt, rfl, hout, hown, hF, hGl, hG, hsz⟩ := hrel
            clear HS0
            by_cases hk2 : 0 < gk
            · have hcl2 := hF.cell hj
              rw [HS.out.2, ← HNJ.out.1] at hcl2
              have hmk : ∀ w, Calls Try.prog 56 #[.int .i64 (j : Int), .int .i64 ((nj : Int) + (t : Int))] w fun e w' => e = .returned (.int .i64 ((mkN (j : Int) (nj + t) : Nat) : Int)) ∧ w' = w := fun w => by
                rw [show (nj : Int) + (t : Int) = ((nj + t : Nat) : Int) by omega]
                exact markN_any (j : Int) (nj + t) w (by omega) (by omega) (by omega)
              have HM := hide hmk
              have hmu := mkN_wrap (j : Int) (nj + t) (by omega) (by omega) (by first | omega | (have := HN.out j hj; omega))
              have HQ := hide (And.intro hout (And.intro hown (And.intro hF (And.intro hGl hG))))
              obtain ⟨ax, cx, hxv⟩ := own_len hown
              subst hxv
              have ht64 : (t : Int) < 64 := by omega
              clear hout hown hF hGl hG hmk hcl
              go_wp2_with (first | (go_at_call 56; refine (HM.out _).mono ?_; rintro e wr ⟨rfl, rfl⟩) | (at_builtin; refine wpList_append_keep rfl (.tmp 57) (.tmp 67) rfl B (.slice ax (nj + t) cx) (nj + t) (bv (marks (j : Int) (nj + t))) rfl (HQ.out.2.1.alloc _) ⟨_, 0, none⟩ 1 1 [mkN (j : Int) (nj + t)] rfl rfl (by decide) ?_ (by omega) ?_ ?_))
              · exact at_new _ [mkN (j : Int) (nj + t)] _ rfl 3
              · simp; omega
              · intro v' w' hown' hkeep hgr hnew
                obtain ⟨hout, hown, hF, hGl, hG⟩ := HQ.out
                obtain ⟨⟨wS, hFS, hGS, hS⟩, hvj⟩ := HS.out
                have ga := World.grownBy_alloc wr (Obj.cells #[Value.int IntKind.i64 ((mkN (j : Int) (nj + t) : Nat) : Int)] 3) none
                have hstep := grow_step (g' := v') (hF.kept ga) (hGl.kept ga) hj hFS hGS hS (Nat.le_trans hsz ga.size) (hown.alloc _) hout (by rw [← HNJ.out.1]; omega) (by rw [← HNJ.out.1]; exact bv_marks_take _ _ _) hkeep hgr (by rw [World.size_alloc]; exact hnew)
                have hG' : Kp T w0 w' bb cb := (hG.new ga).step hgr (fun k e => by
                  rcases hout with h1 | h1
                  · exact HT.out j hj k (h1 ▸ e)
                  · exact Or.inl (Nat.le_trans hS0 (h1 k e))) (own_bag (hown.alloc _) (hG.new ga).2 (by decide))
                have hown2 : w'.ownsRow B 3 1 v' (nj + (t + 1)) (bv (marks (j : Int) (nj + (t + 1)))) := by
                  rw [← Nat.add_assoc, marks_succ, bv_append]; exact hown'
                have HQ2 := hide (And.intro hstep (And.intro hG' (And.intro hown2 (Nat.le_trans hsz (Nat.le_trans ga.size hgr.size)))))
                clear hout hown hF hGl hG hFS hGS hS hvj ga hstep hG' hown2 hown' hkeep hgr hnew
                go_wp2
                go_roundg (gk - 1)
                case measure => omega
                case rel =>
                  obtain ⟨⟨h1, h2, h3⟩, h4, h5, h6⟩ := HQ2.out
                  exact ⟨t + 1, by omega, by go_num, h3, h5, h1, h2, h4, h6⟩
            · have ht : t = 64 := by omega
              have ht64 : ¬ (t : Int) < 64 := by omega
              subst ht
              obtain ⟨⟨wS, hFS, hGS, hS⟩, hvj⟩ := HS.out
              rw [HNJ.out.1] at hown
              obtain ⟨ax, cx, hxv⟩ := own_len hown
              subst hxv
              have hput := hGl.put hF hj hFS hGS hS hout hown
              have hcg : wr.cell? ⟨G, j, none⟩ = some (u j) := by rw [hGl.gs.cellAt j (by omega)]; simp [hj]
              have hfg : wr.frozen? ⟨G, j, none⟩ = false := hGl.gs.frozenAt j
              have hG' : Kp T w0 (wr.setCell ⟨G, j, none⟩ (.slice ax (n j + 64) cx)) bb cb := hG.step hput.2.2 (fun k e => by cases e; exact Or.inl hGw) (own_bag hGl.gs hG.2 (by decide))
              have HQ2 := hide (And.intro hput.1 (And.intro hput.2.1 (And.intro hG' (Nat.le_trans hBS (Nat.le_trans hsz hput.2.2.size)))))
              generalize u j = uj at *
              clear hout hown hF hGl hG hFS hGS hS hvj hput hG' HS hcl
              go_wp2
              go_roundg (K - (j + 1))
              case measure => omega
              case rel => exact ⟨j + 1, _, by omega, by go_num, HQ2.out.1, HQ2.out.2.1, HQ2.out.2.2.1, HQ2.out.2.2.2⟩
        · have hjK : j = K := by omega
          have hjK1 : ¬ (j : Int) < (K : Int) := by omega
          rw [hjK] at hGl
          have H2 := hide (And.intro hF (And.intro hGl hG))
          clear hF hGl hG hjK
          go_wp2
          go_loopg [9, 10] K (fun q i _ wx => ∃ j : Nat, q + j = K ∧ i = .int .i64 j ∧ Fl wx B K (.slice (some ⟨L, 0, none⟩) K cap) v n (fun k => bv (marks (k : Int) (n k))) ∧ Gl wx B K (.slice (some ⟨G, 0, none⟩) K K) (.slice (some ⟨L, 0, none⟩) K cap) v u n K (fun k => bv (marks (k : Int) (n k + 64))) ∧ Kp T w0 wx bb cb ∧ B ≤ wx.heap.size)
          case atStart => exact ⟨0, by omega, rfl, H2.out.1, H2.out.2.1, H2.out.2.2, hBx⟩
          case round =>
            obtain ⟨j, hgj, rfl, hF, hGl, hG, hBy⟩ := hrel
            clear H2
            by_cases hk : 0 < gk
            · have hj : j < K := by omega
              have hjK : (j : Int) < (K : Int) := by omega
              have hcl := hF.cell hj
              have hcg : wr.cell? ⟨G, j, none⟩ = some (u j) := by rw [hGl.gs.cellAt j (by omega)]; simp [hj]
              obtain ⟨ao, c, hv⟩ := own_len (hF.row j hj)
              obtain ⟨gu, cu, hu, hBu, hncu, hcmu⟩ := own_place (hGl.row j hj) (by omega)
              have HS := hide (And.intro hF (And.intro hGl (And.intro hG (And.intro hv hu))))
              clear hF hGl hG hcl hcg hv hu
              go_wp2
              go_loopg [10] (n j + 64) (fun q i wx => ∃ t : Nat, q + t = n j + 64 ∧ i = .int .i64 t ∧ Fl wx B K (.slice (some ⟨L, 0, none⟩) K cap) v n (fun k => bv (marks (k : Int) (n k))) ∧ Gl wx B K (.slice (some ⟨G, 0, none⟩) K K) (.slice (some ⟨L, 0, none⟩) K cap) v u n K (fun k => bv (marks (k : Int) (n k + 64))) ∧ Kp T w0 wx bb cb ∧ B ≤ wx.heap.size)
              case atStart => exact ⟨0, by omega, rfl, HS.out.1, HS.out.2.1, HS.out.2.2.1, hBy⟩
              case round =>
                obtain ⟨t, hgt, rfl, hF, hGl, hG, hBz⟩ := hrel
                obtain ⟨-, -, -, hv, hu⟩ := HS.out
                have hcl := hF.cell hj
                have hcg : wr.cell? ⟨G, j, none⟩ = some (u j) := by rw [hGl.gs.cellAt j (by omega)]; simp [hj]
                rw [hv] at hcl
                rw [hu] at hcg
                have hnb := HN.out j hj
                by_cases hk2 : 0 < gk
                · have hrowg := hGl.row j hj
                  rw [hu] at hrowg
                  have hcell := hrowg.cellAt t (by omega)
                  rw [bv_get _ _ _ (marks_get (j : Int) (n j + 64) t (by omega))] at hcell
                  have hmk := fun w => markN_any (j : Int) t w (by omega) (by omega) (by omega)
                  have HM := hide hmk
                  have hmu := mkN_wrap (j : Int) t (by omega) (by omega) (by first | omega | (have := HN.out j hj; omega))
                  have ht1 : (t : Int) < ((n j + 64 : Nat) : Int) := by omega
                  unfold maxLen at hcmu
                  by_cases htn : t < n j
                  · have hrowv := hF.row j hj
                    obtain ⟨gv, cv, hv2, _, _, _⟩ := own_place hrowv (by omega)
                    rw [hv2] at hrowv
                    have hcell2 := hrowv.cellAt t (by omega)
                    rw [bv_get _ _ _ (marks_get (j : Int) (n j) t htn)] at hcell2
                    rw [hv] at hv2
                    cases hv2
                    have htn1 : (t : Int) < (n j : Int) := by omega
                    have HQ := hide (And.intro hF (And.intro hGl hG))
                    generalize mkN (j : Int) t = mk at *
                    obtain ⟨nj, hnj⟩ : ∃ x, x = n j := ⟨_, rfl⟩
                    rw [← hnj] at hcl hcg ht1 htn1 hnb
                    clear hF hGl hG hv hu hrowg hrowv hmk hnj
                    go_wp2
                    go_quiet ((go_at_call 56; exact Calls.quiet_of_same (HM.out _)))
                    go_wp2
                    go_roundg (gk - 1)
                    case measure => omega
                    case rel => exact ⟨t + 1, by omega, by go_num, HQ.out.1.kept (grown_drewN _ _ _), HQ.out.2.1.kept (grown_drewN _ _ _), HQ.out.2.2.new (grown_drewN _ _ _), hBz⟩
                  · have htn1 : ¬ (t : Int) < (n j : Int) := by omega
                    have HQ := hide (And.intro hF (And.intro hGl hG))
                    generalize mkN (j : Int) t = mk at *
                    obtain ⟨nj, hnj⟩ : ∃ x, x = n j := ⟨_, rfl⟩
                    rw [← hnj] at hcl hcg ht1 htn1 hnb
                    have hd1 : decide ((t : Int) < (nj : Int)) = false := by simp; omega
                    have hd2 : decide (t < nj) = false := by simp; omega
                    clear hF hGl hG hv hu hrowg hmk hnj
                    go_wp2
                    go_quiet ((go_at_call 56; exact Calls.quiet_of_same (HM.out _)))
                    go_wp2
                    go_roundg (gk - 1)
                    case measure => omega
                    case rel => exact ⟨t + 1, by omega, by go_num, HQ.out.1.kept (grown_drewN _ _ _), HQ.out.2.1.kept (grown_drewN _ _ _), HQ.out.2.2.new (grown_drewN _ _ _), hBz⟩
                · have ht1 : ¬ (t : Int) < ((n j + 64 : Nat) : Int) := by omega
                  have HQ := hide (And.intro hF (And.intro hGl hG))
                  obtain ⟨nj, hnj⟩ : ∃ x, x = n j := ⟨_, rfl⟩
                  rw [← hnj] at hcl hcg ht1
                  clear hF hGl hG hv hu HS hnb hncu hnj hcl
                  go_wp2
                  go_roundg (K - (j + 1))
                  case measure => omega
                  case rel => exact ⟨j + 1, by omega, by go_num, HQ.out.1, HQ.out.2.1, HQ.out.2.2, hBz⟩
            · have hjK1 : ¬ (j : Int) < (K : Int) := by omega
              have H3 := hide (And.intro hF (And.intro hGl.gs (And.intro hGl.ne hG)))
              clear hF hGl hG
              have hm64 := make_many
              go_wp2
              go_loopg [11, 12, 13] K (fun q i _ _ wx => ∃ (j : Nat) (u : Nat → Value), q + j = K ∧ i = .int .i64 j ∧ Fl wx B K (.slice (some ⟨L, 0, none⟩) K cap) v n (fun k => bv (marks (k : Int) (n k))) ∧ Gl wx B K (.slice (some ⟨G, 0, none⟩) K K) (.slice (some ⟨L, 0, none⟩) K cap) v u n j (fun k => bv (marks (k : Int) (n k) ++ marks ((k + K : Nat) : Int) 64)) ∧ Kp T w0 wx bb cb ∧ B ≤ wx.heap.size)
              case atStart => exact ⟨0, u, by omega, rfl, H3.out.1, ⟨H3.out.2.1, H3.out.2.2.1, (fun k hk => by omega), (fun i k hi => by omega), (fun i k hi => by omega)⟩, H3.out.2.2.2, hBy⟩
              case round =>
                obtain ⟨j, u, hgj, rfl, hF, hGl, hG, hBy⟩ := hrel
                clear H3
                by_cases hk : 0 < gk
                · have hj : j < K := by omega
                  have hjK : (j : Int) < (K : Int) := by omega
                  have HS := hide (And.intro hF (And.intro hGl hG))
                  obtain ⟨S, hS⟩ : ∃ S, S = wr.heap.size := ⟨_, rfl⟩
                  have HSe : Hid (∃ wS, Fl wS B K (.slice (some ⟨L, 0, none⟩) K cap) v n (fun k => bv (marks (k : Int) (n k))) ∧ Gl wS B K (.slice (some ⟨G, 0, none⟩) K K) (.slice (some ⟨L, 0, none⟩) K cap) v u n j (fun k => bv (marks (k : Int) (n k) ++ marks ((k + K : Nat) : Int) 64)) ∧ wS.heap.size ≤ S) := ⟨wr, hF, hGl, Nat.le_of_eq hS.symm⟩
                  have hBS : B ≤ S := by omega
                  have hS0 : w0.heap.size ≤ S := by rw [hS]; exact hG.1.size
                  have HSq := hide hS
                  clear hF hGl hG hS
                  go_wp2
                  rw [← HSq.out]
                  go_loopg [13] 64 (fun q i wx => ∃ t : Nat, q + t = 64 ∧ i = .int .i64 t ∧ wx.ownsRow S 3 1 (.slice (some ⟨S, 0, none⟩) 64 64) 64 (bv (marks ((j + K : Nat) : Int) t ++ List.replicate (64 - t) 0)) ∧ Fl wx B K (.slice (some ⟨L, 0, none⟩) K cap) v n (fun k => bv (marks (k : Int) (n k))) ∧ Gl wx B K (.slice (some ⟨G, 0, none⟩) K K) (.slice (some ⟨L, 0, none⟩) K cap) v u n j (fun k => bv (marks (k : Int) (n k) ++ marks ((k + K : Nat) : Int) 64)) ∧ Kp T w0 wx bb cb ∧ S + 1 ≤ wx.heap.size)
                  case atStart =>
                    obtain ⟨hF, hGl, hG⟩ := HS.out
                    have ga := World.grownBy_alloc wr (Obj.cells (zrow 64).toArray 3) none
                    refine ⟨0, rfl, rfl, ?_, hF.kept ga, hGl.kept ga, hG.new ga, by rw [HSq.out]; simp⟩
                    have h := World.ownsRow_lit (base := S) (e := 3) (size := 1) wr (zrow 64).toArray 64 (Nat.le_of_eq HSq.out) (by unfold maxLen; omega) (by simp [zrow])
                    rw [← HSq.out] at h
                    have e : (zrow 64) = bv (marks ((j + K : Nat) : Int) 0 ++ List.replicate (64 - 0) 0) := by simp [zrow, marks, bv]
                    rw [← e]
                    simpa using h
                  case round =>
                    obtain ⟨t, hgt, rfl, hmany, hF, hGl, hG, hsz⟩ := hrel
                    clear HS HSq
                    by_cases hk2 : 0 < gk
                    · have ht1 : (t : Int) < 64 := by omega
                      have hml : (marks ((j + K : Nat) : Int) t).length = t := marks_length _ _
                      have hcell := hmany.cellAt t (by omega)
                      rw [bv_get _ t 0 (by rw [List.getElem?_append_right (by omega), hml, Nat.sub_self, List.getElem?_replicate, if_pos (by omega)])] at hcell
                      have hfr := hmany.frozenAt t
                      have hmk : ∀ w, Calls Try.prog 56 #[.int .i64 ((j : Int) + (K : Int)), .int .i64 (t : Int)] w fun e w' => e = .returned (.int .i64 ((mkN ((j + K : Nat) : Int) t : Nat) : Int)) ∧ w' = w := fun w => by
                        rw [show (j : Int) + (K : Int) = ((j + K : Nat) : Int) by omega]
                        exact markN_any ((j + K : Nat) : Int) t w (by omega) (by omega) (by omega)
                      have HM := hide hmk
                      have hmu := mkN_wrap ((j + K : Nat) : Int) t (by omega) (by omega) (by first | omega | (have := HN.out j hj; omega))
                      have hset : (marks ((j + K : Nat) : Int) t ++ List.replicate (64 - t) 0).set t (mkN ((j + K : Nat) : Int) t) = marks ((j + K : Nat) : Int) (t + 1) ++ List.replicate (64 - (t + 1)) 0 := by
                        rw [List.set_append_right _ _ (by omega), hml, Nat.sub_self, show 64 - t = (64 - (t + 1)) + 1 by omega, List.replicate_succ, List.set_cons_zero, marks_succ, List.append_assoc]
                        rfl
                      have HQ := hide (And.intro hmany (And.intro hF (And.intro hGl (And.intro hG hset))))
                      generalize mkN ((j + K : Nat) : Int) t = mk at *
                      clear hmany hF hGl hG hml hmk hset
                      go_wp2_with (first | (go_at_call 56; refine (HM.out _).mono ?_; rintro e wr ⟨rfl, rfl⟩) | go_in)
                      go_roundg (gk - 1)
                      case measure => omega
                      case rel =>
                        obtain ⟨hmany, hF, hGl, hG, hset⟩ := HQ.out
                        obtain ⟨wS, hFS, hGS, hS⟩ := HSe.out
                        have hst := hmany.stored t (.int .i64 ((mk : Nat) : Int))
                        refine ⟨t + 1, by omega, by go_num, ?_, hF.fresh hFS hS hst.2, hGl.fresh hGS hS hst.2, hG.step hst.2 (fun k e => by cases e; exact Or.inl hS0) (own_bag hmany hG.2 (by decide)), Nat.le_trans hsz hst.2.size⟩
                        rw [← hset, bv_set]; exact hst.1
                    · have ht : t = 64 := by omega
                      have ht1 : ¬ (t : Int) < 64 := by omega
                      subst ht
                      rw [show 64 - 64 = 0 by omega, List.replicate_zero, List.append_nil] at hmany
                      obtain ⟨am, cm, em, -, -, -, hatm, -⟩ := own_at hmany
                      cases em
                      have hcl := hF.cell hj
                      obtain ⟨ao, c, hv⟩ := own_len (hF.row j hj)
                      rw [hv] at hcl
                      have hrow := hF.row j hj
                      rw [hv] at hrow
                      have hcg : ∀ w', wr.grownBy w' (v j).ownBlock → w'.cell? ⟨G, j, none⟩ = some (u j) ∧ w'.frozen? ⟨G, j, none⟩ = false := by
                        intro w' hg'
                        have h := hGl.gs.kept hg' (own_ne hGl.gs (hF.row j hj) (by decide))
                        exact ⟨by rw [h.cellAt j (by omega)]; simp [hj], h.frozenAt j⟩
                      have hnb := HN.out j hj
                      have HQ := hide (And.intro hF (And.intro hGl (And.intro hG (And.intro hv (And.intro hatm (And.intro hrow (And.intro hcg (marks_length ((j + K : Nat) : Int) 64))))))))
                      obtain ⟨nj, hnj⟩ : ∃ x, x = n j := ⟨_, rfl⟩
                      rw [← hnj] at hcl hnb
                      have HNJ := hide hnj
                      clear hF hGl hG hv hatm hrow hcg hmany hnj HSe
                      go_wp2_with (at_builtin; refine wpList_append_keep rfl (.tmp 148) (.tmp 149) rfl B (.slice ao nj c) nj (bv (marks (j : Int) nj)) rfl (by rw [HNJ.out]; exact HQ.out.2.2.2.2.2.1) ⟨S, 0, none⟩ 64 64 (marks ((j + K : Nat) : Int) 64) rfl HQ.out.2.2.2.2.2.2.2 (by decide) HQ.out.2.2.2.2.1 (by omega) (by omega) ?_)
                      intro v' w' hown' hkeep hgr hnew
                      rw [HNJ.out] at hown' hkeep hgr hnew
                      obtain ⟨hF, hGl, hG, hv, hatm, hrow, hcg, -⟩ := HQ.out
                      rw [← hv] at hkeep hgr hnew
                      obtain ⟨hc1, hc2⟩ := hcg w' hgr
                      have hstep := grow_step (g' := v') hF hGl hj hF hGl (Nat.le_refl _) (Nat.le_refl _) (hF.row j hj) (Or.inl rfl) (Nat.le_refl _) (by rw [List.take_of_length_le (by rw [bv_length, marks_length]; exact Nat.le_refl _)]) hkeep hgr hnew
                      rw [← bv_append] at hown'
                      have hput := hstep.2.1.put hstep.1 hj hF hGl (Nat.le_refl _) hstep.2.2 hown'
                      obtain ⟨ax, cx, hxv⟩ := own_len hown'
                      subst hxv
                      have hG1 : Kp T w0 w' bb cb := hG.step hgr (fun k e => HT.out j hj k e) (own_bag (hF.row j hj) hG.2 (by decide))
                      have hG' : Kp T w0 (w'.setCell ⟨G, j, none⟩ (.slice ax (n j + 64) cx)) bb cb := hG1.step hput.2.2 (fun k e => by cases e; exact Or.inl hGw) (own_bag hstep.2.1.gs hG1.2 (by decide))
                      have HQ2 := hide (And.intro hput.1 (And.intro hput.2.1 (And.intro hG' (Nat.le_trans (Nat.le_trans (show B ≤ wr.heap.size by omega) hgr.size) hput.2.2.size))))
                      generalize u j = uj at *
                      clear hF hGl hG hv hatm hrow hcg hstep hput hG1 hG' hown' hkeep hgr hnew HQ HNJ hcl
                      go_wp2
                      go_roundg (K - (j + 1))
                      case measure => omega
                      case rel => exact ⟨j + 1, _, by omega, by go_num, HQ2.out.1, HQ2.out.2.1, HQ2.out.2.2.1, HQ2.out.2.2.2⟩
                · have hjK : j = K := by omega
                  have hjK1 : ¬ (j : Int) < (K : Int) := by omega
                  rw [hjK] at hGl
                  have H4 := hide (And.intro hF (And.intro hGl hG))
                  clear hF hGl hG hjK hm64
                  go_wp2
                  go_loopg [14, 15] K (fun q i _ wx => ∃ j : Nat, q + j = K ∧ i = .int .i64 j ∧ Fl wx B K (.slice (some ⟨L, 0, none⟩) K cap) v n (fun k => bv (marks (k : Int) (n k))) ∧ Gl wx B K (.slice (some ⟨G, 0, none⟩) K K) (.slice (some ⟨L, 0, none⟩) K cap) v u n K (fun k => bv (marks (k : Int) (n k) ++ marks ((k + K : Nat) : Int) 64)) ∧ Kp T w0 wx bb cb)
                  case atStart => exact ⟨0, by omega, rfl, H4.out.1, H4.out.2.1, H4.out.2.2⟩
                  case round =>
                    obtain ⟨j, hgj, rfl, hF, hGl, hG⟩ := hrel
                    clear H4
                    by_cases hk : 0 < gk
                    · have hj : j < K := by omega
                      have hjK : (j : Int) < (K : Int) := by omega
                      obtain ⟨ao, c, hv⟩ := own_len (hF.row j hj)
                      obtain ⟨gu, cu, hu, hBu, hncu, hcmu⟩ := own_place (hGl.row j hj) (by omega)
                      have HS := hide (And.intro hF (And.intro hGl (And.intro hG (And.intro hv hu))))
                      clear hF hGl hG hv hu
                      go_wp2
                      go_loopg [15] (n j) (fun q i wx => ∃ t : Nat, q + t = n j ∧ i = .int .i64 t ∧ Fl wx B K (.slice (some ⟨L, 0, none⟩) K cap) v n (fun k => bv (marks (k : Int) (n k))) ∧ Gl wx B K (.slice (some ⟨G, 0, none⟩) K K) (.slice (some ⟨L, 0, none⟩) K cap) v u n K (fun k => bv (marks (k : Int) (n k) ++ marks ((k + K : Nat) : Int) 64)) ∧ Kp T w0 wx bb cb)
                      case atStart => exact ⟨0, by omega, rfl, HS.out.1, HS.out.2.1, HS.out.2.2.1⟩
                      case round =>
                        obtain ⟨t, hgt, rfl, hF, hGl, hG⟩ := hrel
                        obtain ⟨-, -, -, hv, hu⟩ := HS.out
                        have hcl := hF.cell hj
                        have hcg : wr.cell? ⟨G, j, none⟩ = some (u j) := by rw [hGl.gs.cellAt j (by omega)]; simp [hj]
                        rw [hv] at hcl
                        rw [hu] at hcg
                        have hnb := HN.out j hj
                        by_cases hk2 : 0 < gk
                        · have hrowg := hGl.row j hj
                          rw [hu] at hrowg
                          have hcell := hrowg.cellAt t (by omega)
                          rw [bv_get _ _ _ (show _ = some (mkN (j : Int) t) by rw [List.getElem?_append_left (by rw [marks_length]; omega)]; exact marks_get (j : Int) (n j) t (by omega))] at hcell
                          have hmk := fun w => markN_any (j : Int) t w (by omega) (by omega) (by omega)
                          have HM := hide hmk
                          have hmu := mkN_wrap (j : Int) t (by omega) (by omega) (by first | omega | (have := HN.out j hj; omega))
                          have ht1 : (t : Int) < ((n j + 64 : Nat) : Int) := by omega
                          unfold maxLen at hcmu
                          have hrowv := hF.row j hj
                          obtain ⟨gv, cv, hv2, _, _, _⟩ := own_place hrowv (by omega)
                          rw [hv2] at hrowv
                          have hcell2 := hrowv.cellAt t (by omega)
                          rw [bv_get _ _ _ (marks_get (j : Int) (n j) t (by omega))] at hcell2
                          rw [hv] at hv2
                          cases hv2
                          have htn1 : (t : Int) < (n j : Int) := by omega
                          have HQ := hide (And.intro hF (And.intro hGl hG))
                          generalize mkN (j : Int) t = mk at *
                          obtain ⟨nj, hnj⟩ : ∃ x, x = n j := ⟨_, rfl⟩
                          rw [← hnj] at hcl hcg ht1 htn1 hnb
                          clear hF hGl hG hv hu hrowg hrowv hmk hnj
                          go_wp2
                          go_quiet ((go_at_call 56; exact Calls.quiet_of_same (HM.out _)))
                          go_wp2
                          go_roundg (gk - 1)
                          case measure => omega
                          case rel => exact ⟨t + 1, by omega, by go_num, HQ.out.1.kept (grown_drewN _ _ _), HQ.out.2.1.kept (grown_drewN _ _ _), HQ.out.2.2.new (grown_drewN _ _ _)⟩
                        · have ht1 : ¬ (t : Int) < (n j : Int) := by omega
                          have HQ := hide (And.intro hF (And.intro hGl hG))
                          obtain ⟨nj, hnj⟩ : ∃ x, x = n j := ⟨_, rfl⟩
                          rw [← hnj] at hcl hcg ht1
                          clear hF hGl hG hv hu HS hnb hncu hnj hcg
                          go_wp2
                          go_roundg (K - (j + 1))
                          case measure => omega
                          case rel => exact ⟨j + 1, by omega, by go_num, HQ.out.1, HQ.out.2.1, HQ.out.2.2⟩
                    · have hjK1 : ¬ (j : Int) < (K : Int) := by omega
                      have HQ := hide hG
                      clear hF hGl hG
                      go_wp2
                      go_ret
                      exact ⟨rfl, HQ.out⟩
end Go.Proofs.Ytbebblhnhpdpjaa.Ai
