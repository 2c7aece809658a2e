/- Texts joined: X2. -/
import Derived.Test.YtnnmaknjhfjojaaGreatDoorJrAi
/- The contract of flatSpans: lists of spans that lie apart are told so. -/
namespace Go.Proofs.YtnnmaknjhfjojaaGreatDoor.Af
open Go.RowKit
attribute [local go_sem ↓] Go.wp_at_zero Go.wp_at_succ

/-- What the rows hold, while the j-th is being marked (t spans of it are). -/
def fillF (n : Nat → Nat) (f : Nat → List Value) (j t : Nat) (k : Nat) : List Value :=
  if k < j then fv (marks (k : Int) (n k)) else if k = j then fv (marks (j : Int) t) ++ (f j).drop (t * 2) else f k
theorem fillF_start (n : Nat → Nat) (f : Nat → List Value) : fillF n f 0 0 = f := by
  funext k; unfold fillF; simp [marks, fv]; intro h; rw [h]
theorem fillF_next (n : Nat → Nat) (f : Nat → List Value) (j : Nat) (h : (f j).length = n j * 2) : fillF n f j (n j) = fillF n f (j + 1) 0 := by
  funext k; unfold fillF
  by_cases h1 : k < j
  · simp [h1, show k < j + 1 by omega]
  · by_cases h2 : k = j
    · subst h2; simp [List.drop_of_length_le (show (f k).length ≤ n k * 2 by omega)]
    · by_cases h3 : k = j + 1
      · subst h3; simp [marks, fv]; omega
      · simp [h1, h2, h3, show ¬ k < j + 1 by omega]
theorem fillF_at (n : Nat → Nat) (f : Nat → List Value) (j t : Nat) : fillF n f j t j = fv (marks (j : Int) t) ++ (f j).drop (t * 2) := by unfold fillF; simp
/-- Two cells are written one behind the other. -/
def put3 (xs : List Value) (o m : Nat) : List Value := (xs.set o (.int .i64 (m : Int))).set (o + 1) (.int .i64 0)
theorem put3_append (A : List Value) (y0 y1 : Value) (R : List Value) (o m : Nat) (h : A.length = o) : put3 (A ++ y0 :: y1 :: R) o m = A ++ fm m ++ R := by
  unfold put3
  rw [List.set_append_right _ _ (by omega), h, Nat.sub_self, List.set_append_right _ _ (by omega), h]
  simp [fm, show o + 1 - o = 1 by omega]
theorem drop3 {xs : List Value} {o : Nat} (h : o + 2 ≤ xs.length) : ∃ y0 y1, xs[o]? = some y0 ∧ xs[o + 1]? = some y1 ∧ xs.drop o = y0 :: y1 :: xs.drop (o + 2) := by
  refine ⟨xs[o], xs[o + 1], List.getElem?_eq_getElem (by omega), List.getElem?_eq_getElem (by omega), ?_⟩
  rw [List.drop_eq_getElem_cons (by omega), List.drop_eq_getElem_cons (by omega)]
theorem fillF_set (n : Nat → Nat) (f : Nat → List Value) (j t : Nat) (ht : t * 2 + 2 ≤ (f j).length) : put3 (fillF n f j t j) (t * 2) (mkN (j : Int) t) = fillF n f j (t + 1) j := by
  have hm : (fv (marks (j : Int) t)).length = t * 2 := by rw [fv_length, marks_length]
  obtain ⟨y0, y1, _, _, e⟩ := drop3 ht
  rw [fillF_at, fillF_at, e, put3_append _ _ _ _ _ _ hm, marks_succ, fv_append, fv_one, show (t + 1) * 2 = t * 2 + 2 by omega]
theorem fillF_other (n : Nat → Nat) (f : Nat → List Value) (j t k : Nat) (h : k ≠ j) : fillF n f j (t + 1) k = fillF n f j t k := by unfold fillF; simp [h]
/-- A span is stored. -/
theorem stored3 {w : World} {base n g cap : Nat} {xs : List Value} (h : w.ownsRow base 64 2 (.slice (some ⟨g, 0, none⟩) n cap) n xs) (o m : Nat) :
    ((w.setCell ⟨g, o, none⟩ (.int .i64 (m : Int))).setCell ⟨g, o + 1, none⟩ (.int .i64 0)).ownsRow base 64 2 (.slice (some ⟨g, 0, none⟩) n cap) n (put3 xs o m) ∧
    w.grownBy ((w.setCell ⟨g, o, none⟩ (.int .i64 (m : Int))).setCell ⟨g, o + 1, none⟩ (.int .i64 0)) (some g) := by
  have a1 := h.stored o (.int .i64 (m : Int))
  have a2 := a1.1.stored (o + 1) (.int .i64 0)
  exact ⟨a2.1, grown_trans a1.2 a2.2⟩
/-- The two cells of a place. -/
theorem own3 {w : World} {base n g cap : Nat} {xs : List Value} (h : w.ownsRow base 64 2 (.slice (some ⟨g, 0, none⟩) n cap) n xs) {t : Nat} (ht : t < n) : ∃ y0 y1, w.cell? ⟨g, t * 2, none⟩ = some y0 ∧ w.cell? ⟨g, t * 2 + 1, none⟩ = some y1 := by
  have hl := h.1
  obtain ⟨y0, y1, e0, e1, _⟩ := drop3 (xs := xs) (o := t * 2) (by omega)
  exact ⟨y0, y1, by rw [h.cellAt _ (by omega)]; exact e0, by rw [h.cellAt _ (by omega)]; exact e1⟩
theorem own3_mark {w : World} {base n g cap m : Nat} {ms : List Nat} (h : w.ownsRow base 64 2 (.slice (some ⟨g, 0, none⟩) n cap) n (fv ms)) {t : Nat} (ht : t < n) (hm : ms[t]? = some m) : w.cell? ⟨g, t * 2, none⟩ = some (.int .i64 (m : Int)) ∧ w.cell? ⟨g, t * 2 + 1, none⟩ = some (.int .i64 0) := by
  obtain ⟨e0, e1⟩ := fv_at ms t m hm
  exact ⟨by rw [h.cellAt _ (by omega)]; exact e0, by rw [h.cellAt _ (by omega)]; exact e1⟩

/-- The cell of ls at k. -/
theorem Fl.cell {w : World} {B K L cap : Nat} {v : Nat → Value} {n : Nat → Nat} {f : Nat → List Value} (h : Fl w B K (.slice (some ⟨L, 0, none⟩) K cap) v n f) {k : Nat} (hk : k < K) : w.cell? ⟨L, k, none⟩ = some (v k) := by
  rw [h.ls.cellAt k (by omega)]; simp [hk]
/-- A row that has a byte has a place. -/
theorem own_place {w : World} {B n : Nat} {v : Value} {xs : List Value} (h : w.ownsRow B 64 2 v n xs) (hn : 0 < n) : ∃ g cap, v = .slice (some ⟨g, 0, none⟩) n cap ∧ B ≤ g ∧ n ≤ cap ∧ cap ≤ maxLen := by
  rcases h.2 with ⟨_, h0⟩ | ⟨g, cap, cur, rfl, hb, _, hnc, hcm, _⟩
  · omega
  · exact ⟨g, cap, rfl, hb, hnc, hcm⟩
theorem own_len {w : World} {B n : Nat} {v : Value} {xs : List Value} (h : w.ownsRow B 64 2 v n xs) : ∃ ao cap, v = .slice ao n cap := by
  rcases h.2 with ⟨rfl, rfl⟩ | ⟨g, cap, cur, rfl, _⟩
  · exact ⟨_, _, rfl⟩
  · exact ⟨_, _, rfl⟩

theorem zero64 : (madeCells (Value.agg #[.int .i64 0, .int .i64 0]).cells (64 * 2)) = (fv (List.replicate 64 0)).toArray := by kernel_rfl
theorem make_many (w : World) : (Instr.makeSlice 33 (.int .i64 64) (.int .i64 64)).run Tryz.prog w = .ok (.slice (some ⟨w.heap.size, 0, none⟩) 64 64) (w.alloc (.cells (fv (List.replicate 64 0)).toArray 64)) := by
  obtain ⟨i0, hi, hz0, hz1, hz2⟩ := info_parts Tryz.info64
  have h := run_make (P := Tryz.prog) w 33 64 i0 _ Tryz.underlying33 hi hz0 .i64 .i64 64 64 (by omega) (by omega) (by rw [hz2]; omega) (by omega)
  rw [hz1] at h
  rw [← zero64]
  exact h
theorem map_nils (K : Nat) : (List.range K).map (fun _ => Value.slice none 0 0) = List.replicate K (Value.slice none 0 0) := by rw [List.map_const', List.length_range]

theorem cell_far (w : World) (a b : Addr) (v : Value) (h : b.block ≠ a.block) : (w.setCell a v).cell? b = w.cell? b := by
  have hb := Below.heap_setCell w a v b.block h
  simp only [World.cell?, hb]
theorem far3 {w : World} {g o1 o2 : Nat} {v1 v2 : Value} {a : Addr} (h : a.block ≠ g) : ((w.setCell ⟨g, o1, none⟩ v1).setCell ⟨g, o2, none⟩ v2).cell? a = w.cell? a :=
  (cell_far _ _ _ _ h).trans (cell_far _ _ _ _ h)
theorem keep4 {w w' : World} {a1 a2 a3 a4 : Addr} {v1 v2 v3 v4 : Value} (hg : w.grownBy w' none) (h : w.cell? a1 = some v1 ∧ w.cell? a2 = some v2 ∧ w.cell? a3 = some v3 ∧ w.cell? a4 = some v4) : w'.cell? a1 = some v1 ∧ w'.cell? a2 = some v2 ∧ w'.cell? a3 = some v3 ∧ w'.cell? a4 = some v4 :=
  ⟨hg.cell h.1 (by simp), hg.cell h.2.1 (by simp), hg.cell h.2.2.1 (by simp), hg.cell h.2.2.2 (by simp)⟩
theorem keep6 {w w' : World} {a1 a2 a3 a4 a5 a6 : Addr} {v1 v2 v3 v4 v5 v6 : Value} (hg : w.grownBy w' none) (h : w.cell? a1 = some v1 ∧ w.cell? a2 = some v2 ∧ w.cell? a3 = some v3 ∧ w.cell? a4 = some v4 ∧ w.cell? a5 = some v5 ∧ w.cell? a6 = some v6) : w'.cell? a1 = some v1 ∧ w'.cell? a2 = some v2 ∧ w'.cell? a3 = some v3 ∧ w'.cell? a4 = some v4 ∧ w'.cell? a5 = some v5 ∧ w'.cell? a6 = some v6 :=
  ⟨hg.cell h.1 (by simp), hg.cell h.2.1 (by simp), hg.cell h.2.2.1 (by simp), hg.cell h.2.2.2.1 (by simp), hg.cell h.2.2.2.2.1 (by simp), hg.cell h.2.2.2.2.2 (by simp)⟩
theorem eq_op {a : Act} {o : Oper} {x y : Operand} {p z : Int} (ho : o.op = .binOp .eql 64 x y 64) (hx : a.eval x = .agg #[.int .i64 p, .int .i64 z]) (hy : a.eval y = .agg #[.int .i64 p, .int .i64 z]) (w : World) : (execOp a.eval o).run Tryz.prog w = .ok (.value (.bool true)) w := by
  unfold execOp
  simp only [ho, hx, hy]
  go_simp
theorem own_bag {w : World} {B n bb size : Nat} {e : TypeId} {v : Value} {xs : List Value} {cb : Array Value} (h : w.ownsRow B e size v n xs) (hb : w.heap[bb]? = some (.cells cb 90 (0, 0))) (he : e ≠ 90) : v.ownBlock ≠ some bb := by
  rcases h.2 with ⟨rfl, _⟩ | ⟨g, cap, cur, rfl, _, hg, _⟩
  · simp [Value.ownBlock]
  · simp only [Value.ownBlock, ne_eq, Option.some.injEq]
    rintro rfl
    rw [hb] at hg
    simp at hg
    exact he hg.2.symm
open Ap (Kp GrownT)

set_option maxRecDepth 100000 in
set_option maxHeartbeats 4000000 in
theorem flat_any (B K L cap : Nat) (v : Nat → Value) (n : Nat → Nat) (f : Nat → List Value) (T : Nat → Prop) (w0 w : World) (bb : Nat) (cb : Array Value) (hF : Fl w B K (.slice (some ⟨L, 0, none⟩) K cap) v n f) (hG : Kp T w0 w bb cb) (hT : ∀ i, i < K → ∀ k, (v i).ownBlock = some k → w0.heap.size ≤ k ∨ T k) (hK : K ≤ 400000) (hn : ∀ k, k < K → n k ≤ 1000000) (hBw : B ≤ w.heap.size) :
    Calls Tryz.prog 57 #[.slice (some ⟨L, 0, none⟩) K cap] w fun e w' => e = .returned (.bool true) ∧ Kp T w0 w' bb cb := by
  have HF := hide (And.intro hF hG)
  have HN := hide hn
  have HT := hide hT
  clear hT
  have hlen : ∀ k, k < K → (f k).length = n k * 2 := fun k hk => (hF.row k hk).1
  have HL := hide hlen
  clear hF hG hn hlen
  go_enter Tryz.func57, Tryz.ntmps57
  go_wp2
  go_loopg [3, 4] K (fun g i _ wr => ∃ j : Nat, g + j = K ∧ i = .int .i64 j ∧ Fl wr B K (.slice (some ⟨L, 0, none⟩) K cap) v n (fillF n f j 0) ∧ Kp T w0 wr bb cb ∧ w.heap.size ≤ wr.heap.size)
  case atStart => exact ⟨0, by omega, rfl, by rw [fillF_start]; exact HF.out.1, HF.out.2, Nat.le_refl _⟩
  case round =>
    obtain ⟨j, hgj, rfl, hF, hG, hsz⟩ := hrel
    clear HF
    by_cases hk : 0 < gk
    · have hj : j < K := by omega
      have hjK : (j : Int) < (K : Int) := by omega
      have HF := hide (And.intro hF hG)
      clear hF hG
      go_wp2
      go_loopg [4] (n j) (fun g i wr' => ∃ t : Nat, g + t = n j ∧ i = .int .i64 t ∧ Fl wr' B K (.slice (some ⟨L, 0, none⟩) K cap) v n (fillF n f j t) ∧ Kp T w0 wr' bb cb ∧ w.heap.size ≤ wr'.heap.size)
      case atStart => exact ⟨0, by omega, rfl, HF.out.1, HF.out.2, hsz⟩
      case round =>
        obtain ⟨t, hgt, rfl, hF, hG, hsz2⟩ := hrel
        clear HF
        have hcl := hF.cell hj
        by_cases hk2 : 0 < gk
        · obtain ⟨g, c, hv, hBg, hnc, hcm⟩ := own_place (hF.row j hj) (by omega)
          rw [hv] at hcl
          have hrow := hF.row j hj
          rw [hv] at hrow
          have htl : t * 2 + 2 ≤ (f j).length := by rw [HL.out j hj]; omega
          obtain ⟨y0, y1, hy0, hy1⟩ := own3 hrow (t := t) (by omega)
          have hfr0 := hrow.frozenAt (t * 2)
          have hfr1 := hrow.frozenAt (t * 2 + 1)
          have HM := hide (fun w => markSpan_any (j : Int) t w (by omega) (by omega) (by have := HN.out j hj; omega))
          have HQ := hide (And.intro hF (And.intro hG (And.intro hv (fillF_set n f j t htl))))
          have HF0 := hide (And.intro hy0 (And.intro hy1 hrow))
          generalize mkN (j : Int) t = mk at *
          have h1 : (t : Int) < (n j : Int) := by omega
          unfold maxLen at hcm
          have hne : Hid (g ≠ L) := fun e => by
            have h2 := Ap.own_ne hrow hF.ls (by decide)
            rcases h2 with h2 | h2
            · cases h2
            · exact h2 (by rw [e]; rfl)
          clear hF hG hv hrow htl hy0 hy1 hfr0 hfr1
          generalize hnj : n j = nj at *
          have HNJ := hide hnj
          clear hnj
          unfold fmV at HM
          go_wp2_with fail
          go_region_held3 (fun w' => w'.cell? ⟨L, j, none⟩ = some (.slice (some ⟨g, 0, none⟩) nj c)) (first | exact hcl | assumption | exact (far3 (show L ≠ g from fun e => hne.out e.symm)).trans hclA | go_keep) (first
            | (go_at_call 83; refine (HM.out _).mono ?_; rintro e wA ⟨rfl, gA⟩; have gA' := grown_trans (grown_drew wr none) gA; have hclA := gA'.cell hcl (by simp); have y0A := gA'.cell HF0.out.1 (by simp); have y1A := gA'.cell HF0.out.2.1 (by simp); have hrA := HF0.out.2.2.kept gA' (Or.inr (by simp [Value.ownBlock])); have f0A := hrA.frozenAt (t * 2); have f1A := hrA.frozenAt (t * 2 + 1); have RA := hide gA'; clear gA gA' hrA))
          clear hclA y0A y1A f0A f1A hcl
          go_wp2
          go_roundg (gk - 1)
          case measure => omega
          case rel =>
            obtain ⟨hF, hG, hv, hset⟩ := HQ.out
            have hF := hF.kept RA.out
            have hG := hG.new RA.out
            have hrow := hF.row j hj
            rw [hv, HNJ.out] at hrow
            have hst := stored3 hrow (t * 2) mk
            refine ⟨t + 1, by omega, by go_num, ?_, ?_, ?_⟩
            · refine hF.wrote j hj (by rw [hv]; exact hst.2) ?_ (fun k hk => fillF_other n f j t k hk)
              rw [← hset, hv, HNJ.out]; exact hst.1
            · exact hG.step hst.2 (fun k e => by cases e; exact HT.out j hj g (by rw [hv]; rfl)) (own_bag hrow hG.2 (by decide))
            · exact Nat.le_trans hsz2 (Nat.le_trans RA.out.size hst.2.size)
        · have ht : t = n j := by omega
          obtain ⟨ao, c, hv⟩ := own_len (hF.row j hj)
          rw [hv] at hcl
          rw [ht, fillF_next n f j (HL.out j hj)] at hF
          have h1 : ¬ (t : Int) < (n j : Int) := by omega
          have HQ := hide (And.intro hF hG)
          clear hF hG hv ht
          go_wp2
          go_roundg (K - (j + 1))
          case measure => omega
          case rel => exact ⟨j + 1, by omega, by go_num, HQ.out.1, HQ.out.2, hsz2⟩
    · have hjK : j = K := by omega
      have hjK1 : ¬ (j : Int) < (K : Int) := by omega
      have hfin : ∀ k, k < K → fillF n f j 0 k = fv (marks (k : Int) (n k)) := fun k hk => by unfold fillF; simp [show k < j by omega]
      have hF1 : Fl wr B K (.slice (some ⟨L, 0, none⟩) K cap) v n (fun k => fv (marks (k : Int) (n k))) := ⟨hF.ls, fun k hk => by have := hF.row k hk; rw [hfin k hk] at this; exact this, hF.apart⟩
      have H1 := hide (And.intro hF1 hG)
      have hmk := make_lists K hK
      have hwr : B ≤ wr.heap.size := by omega
      clear hF hG hfin hF1 hjK HL hsz hBw
      go_wp2
      clear hmk
      obtain ⟨G, hGe⟩ : ∃ G, G = wr.heap.size := ⟨_, rfl⟩
      have HGe := hide hGe
      have hGw : w0.heap.size ≤ G := by rw [hGe]; exact H1.out.2.1.size
      rw [← hGe]
      clear hGe
      go_loopg [6, 7, 8] K (fun q i _ _ wx => ∃ (j : Nat) (u : Nat → Value), q + j = K ∧ i = .int .i64 j ∧ Fl wx B K (.slice (some ⟨L, 0, none⟩) K cap) v n (fun k => fv (marks (k : Int) (n k))) ∧ Gl wx B K (.slice (some ⟨G, 0, none⟩) K K) (.slice (some ⟨L, 0, none⟩) K cap) v u n j (fun k => fv (marks (k : Int) (n k + 64))) ∧ Kp T w0 wx bb cb ∧ B ≤ wx.heap.size)
      case atStart =>
        obtain ⟨hF1, hG1⟩ := H1.out
        have ga := World.grownBy_alloc wr (Obj.cells (List.replicate K (Value.slice none 0 0)).toArray 33) none
        refine ⟨0, fun _ => .slice none 0 0, by omega, rfl, hF1.kept ga, ⟨?_, ?_, (fun k hk => by omega), (fun i k hi => by omega), (fun i k hi => by omega)⟩, hG1.new ga, Nat.le_trans hwr ga.size⟩
        · have := World.ownsRow_lit (base := B) (e := 33) (size := 1) wr (List.replicate K (Value.slice none 0 0)).toArray K hwr (by unfold maxLen; omega) (by simp)
          rw [HGe.out, map_nils]
          simpa using this
        · simp only [Value.ownBlock, ne_eq, Option.some.injEq]
          intro e
          have := (hF1.ls.lt L rfl).2
          rw [HGe.out] at e
          omega
      case round =>
        obtain ⟨j, u, hgj, rfl, hF, hGl, hG, hBx⟩ := hrel
        clear H1 HGe
        by_cases hk : 0 < gk
        · have hj : j < K := by omega
          have hjK : (j : Int) < (K : Int) := by omega
          have hcl := hF.cell hj
          obtain ⟨ao, c, hv⟩ := own_len (hF.row j hj)
          rw [hv] at hcl
          obtain ⟨S, hS⟩ : ∃ S, S = wr.heap.size := ⟨_, rfl⟩
          have HS : Hid ((∃ wS, Fl wS B K (.slice (some ⟨L, 0, none⟩) K cap) v n (fun k => fv (marks (k : Int) (n k))) ∧ Gl wS B K (.slice (some ⟨G, 0, none⟩) K K) (.slice (some ⟨L, 0, none⟩) K cap) v u n j (fun k => fv (marks (k : Int) (n k + 64))) ∧ wS.heap.size ≤ S) ∧ v j = .slice ao (n j) c) := ⟨⟨wr, hF, hGl, Nat.le_of_eq hS.symm⟩, hv⟩
          have HS0 := hide (And.intro hF (And.intro hGl (And.intro hG hS)))
          obtain ⟨nj, hnj⟩ : ∃ x, x = n j := ⟨_, rfl⟩
          rw [← hnj] at hcl
          have HNJ := hide (And.intro hnj (by have := HN.out j hj; omega : n j ≤ 1000000))
          have hnjb : nj ≤ 1000000 := by rw [hnj]; exact HNJ.out.2
          have hBS : B ≤ S := by omega
          have hS0 : w0.heap.size ≤ S := by rw [hS]; exact hG.1.size
          clear hF hGl hG hv hnj hS
          go_wp2
          go_loopg [7, 8] 64 (fun q x i wy => ∃ t : Nat, q + t = 64 ∧ i = .int .i64 t ∧ Out S x (v j) ∧ wy.ownsRow B 64 2 x (nj + t) (fv (marks (j : Int) (nj + t))) ∧ Fl wy B K (.slice (some ⟨L, 0, none⟩) K cap) v n (fun k => fv (marks (k : Int) (n k))) ∧ Gl wy B K (.slice (some ⟨G, 0, none⟩) K K) (.slice (some ⟨L, 0, none⟩) K cap) v u n j (fun k => fv (marks (k : Int) (n k + 64))) ∧ Kp T w0 wy bb cb ∧ S ≤ wy.heap.size)
          case atStart =>
            obtain ⟨hF, hGl, hG, hS⟩ := HS0.out
            have hv := HS.out.2
            refine ⟨0, rfl, rfl, ?_, ?_, hF, hGl, hG, Nat.le_of_eq hS⟩
            · rw [hv, HNJ.out.1]; exact Or.inl rfl
            · have := hF.row j hj
              rw [hv, ← HNJ.out.1] at this
              exact this
          case round =>
            obtain ⟨t, hgt, rfl, hout, hown, hF, hGl, hG, hsz⟩ := hrel
            clear HS0
            by_cases hk2 : 0 < gk
            · have hcl2 := hF.cell hj
              rw [HS.out.2, ← HNJ.out.1] at hcl2
              have HM : Hid (∀ w, Calls Tryz.prog 83 #[.int .i64 (j : Int), .int .i64 ((nj : Int) + (t : Int))] w fun e w' => e = .returned (fmV (mkN (j : Int) (nj + t))) ∧ w.grownBy w' none) := fun w => by
                rw [show (nj : Int) + (t : Int) = ((nj + t : Nat) : Int) by omega]
                exact markSpan_any (j : Int) (nj + t) w (by omega) (by omega) (by omega)
              have HQ := hide (And.intro hout (And.intro hown (And.intro hF (And.intro hGl hG))))
              obtain ⟨ax, cx, hxv⟩ := own_len hown
              subst hxv
              have ht64 : (t : Int) < 64 := by omega
              obtain ⟨mk, hmk⟩ : ∃ x, x = mkN (j : Int) (nj + t) := ⟨_, rfl⟩
              rw [← hmk] at HM
              have HMK := hide hmk
              unfold fmV at HM
              clear hout hown hF hGl hG hcl hmk
              go_wp2_with fail
              refine (HM.out _).mono ?_
              rintro e wA ⟨rfl, gA⟩
              have HQA := hide (And.intro (HQ.out.2.1.kept gA (by cases (Value.slice ax (nj + t) cx).ownBlock <;> simp)) (And.intro (HQ.out.2.2.1.kept gA) (And.intro (HQ.out.2.2.2.1.kept gA) (And.intro (HQ.out.2.2.2.2.new gA) (Nat.le_trans hsz gA.size)))))
              have hout := hide HQ.out.1
              clear gA HQ hcl2 hsz
              go_wp2_with (at_builtin; refine wpList_append_keep rfl (.tmp 57) (.tmp 67) rfl B (.slice ax (nj + t) cx) (nj + t) (fv (marks (j : Int) (nj + t))) rfl (HQA.out.1.alloc _) ⟨_, 0, none⟩ 1 1 [mk] rfl rfl (by decide) ?_ (by omega) ?_ ?_)
              · intro j2 y hy; rw [fv_one] at hy; exact cell2_new wA _ _ 64 j2 y hy
              · have := HQA.out.2.2.2.2; simp; omega
              · intro v' w' hown' hkeep hgr hnew
                obtain ⟨hown, hF, hGl, hG, hsz⟩ := HQA.out
                obtain ⟨⟨wS, hFS, hGS, hS⟩, hvj⟩ := HS.out
                have ga := World.grownBy_alloc wA (Obj.cells #[Value.int IntKind.i64 (mk : Int), Value.int IntKind.i64 0] 64) none
                have hstep := grow_step (g' := v') (hF.kept ga) (hGl.kept ga) hj hFS hGS hS (Nat.le_trans hsz ga.size) (hown.alloc _) hout.out (by rw [← HNJ.out.1]; omega) (by rw [← HNJ.out.1]; exact marks_take _ _ _) hkeep hgr (by rw [World.size_alloc]; exact hnew)
                have hG' : Kp T w0 w' bb cb := (hG.new ga).step hgr (fun k e => by
                  rcases hout.out with h1 | h1
                  · exact HT.out j hj k (h1 ▸ e)
                  · exact Or.inl (Nat.le_trans hS0 (h1 k e))) (own_bag (hown.alloc _) (hG.new ga).2 (by decide))
                have hown2 : w'.ownsRow B 64 2 v' (nj + (t + 1)) (fv (marks (j : Int) (nj + (t + 1)))) := by
                  rw [← Nat.add_assoc, marks_succ, fv_append, ← HMK.out]; exact hown'
                have HQ2 := hide (And.intro hstep (And.intro hG' (And.intro hown2 (Nat.le_trans hsz (Nat.le_trans ga.size hgr.size)))))
                clear hout hown hF hGl hG hFS hGS hS hvj ga hstep hG' hown2 hown' hkeep hgr hnew
                go_wp2
                go_roundg (gk - 1)
                case measure => omega
                case rel =>
                  obtain ⟨⟨h1, h2, h3⟩, h4, h5, h6⟩ := HQ2.out
                  exact ⟨t + 1, by omega, by go_num, h3, h5, h1, h2, h4, h6⟩
            · have ht : t = 64 := by omega
              have ht64 : ¬ (t : Int) < 64 := by omega
              subst ht
              obtain ⟨⟨wS, hFS, hGS, hS⟩, hvj⟩ := HS.out
              rw [HNJ.out.1] at hown
              obtain ⟨ax, cx, hxv⟩ := own_len hown
              subst hxv
              have hput := hGl.put hF hj hFS hGS hS hout hown
              have hcg : wr.cell? ⟨G, j, none⟩ = some (u j) := by rw [hGl.gs.cellAt j (by omega)]; simp [hj]
              have hfg : wr.frozen? ⟨G, j, none⟩ = false := hGl.gs.frozenAt j
              have hG' : Kp T w0 (wr.setCell ⟨G, j, none⟩ (.slice ax (n j + 64) cx)) bb cb := hG.step hput.2.2 (fun k e => by cases e; exact Or.inl hGw) (own_bag hGl.gs hG.2 (by decide))
              have HQ2 := hide (And.intro hput.1 (And.intro hput.2.1 (And.intro hG' (Nat.le_trans hBS (Nat.le_trans hsz hput.2.2.size)))))
              generalize u j = uj at *
              clear hout hown hF hGl hG hFS hGS hS hvj hput hG' HS hcl
              go_wp2
              go_roundg (K - (j + 1))
              case measure => omega
              case rel => exact ⟨j + 1, _, by omega, by go_num, HQ2.out.1, HQ2.out.2.1, HQ2.out.2.2.1, HQ2.out.2.2.2⟩
        · have hjK : j = K := by omega
          have hjK1 : ¬ (j : Int) < (K : Int) := by omega
          rw [hjK] at hGl
          have H2 := hide (And.intro hF (And.intro hGl hG))
          clear hF hGl hG hjK
          go_wp2
          go_loopg [9, 10] K (fun q i _ wx => ∃ j : Nat, q + j = K ∧ i = .int .i64 j ∧ Fl wx B K (.slice (some ⟨L, 0, none⟩) K cap) v n (fun k => fv (marks (k : Int) (n k))) ∧ Gl wx B K (.slice (some ⟨G, 0, none⟩) K K) (.slice (some ⟨L, 0, none⟩) K cap) v u n K (fun k => fv (marks (k : Int) (n k + 64))) ∧ Kp T w0 wx bb cb ∧ B ≤ wx.heap.size)
          case atStart => exact ⟨0, by omega, rfl, H2.out.1, H2.out.2.1, H2.out.2.2, hBx⟩
          case round =>
            obtain ⟨j, hgj, rfl, hF, hGl, hG, hBy⟩ := hrel
            clear H2
            by_cases hk : 0 < gk
            · have hj : j < K := by omega
              have hjK : (j : Int) < (K : Int) := by omega
              have hcl := hF.cell hj
              have hcg : wr.cell? ⟨G, j, none⟩ = some (u j) := by rw [hGl.gs.cellAt j (by omega)]; simp [hj]
              obtain ⟨ao, c, hv⟩ := own_len (hF.row j hj)
              obtain ⟨gu, cu, hu, hBu, hncu, hcmu⟩ := own_place (hGl.row j hj) (by omega)
              have HS := hide (And.intro hF (And.intro hGl (And.intro hG (And.intro hv hu))))
              clear hF hGl hG hcl hcg hv hu
              go_wp2
              go_loopg [10] (n j + 64) (fun q i wx => ∃ t : Nat, q + t = n j + 64 ∧ i = .int .i64 t ∧ Fl wx B K (.slice (some ⟨L, 0, none⟩) K cap) v n (fun k => fv (marks (k : Int) (n k))) ∧ Gl wx B K (.slice (some ⟨G, 0, none⟩) K K) (.slice (some ⟨L, 0, none⟩) K cap) v u n K (fun k => fv (marks (k : Int) (n k + 64))) ∧ Kp T w0 wx bb cb ∧ B ≤ wx.heap.size)
              case atStart => exact ⟨0, by omega, rfl, HS.out.1, HS.out.2.1, HS.out.2.2.1, hBy⟩
              case round =>
                obtain ⟨t, hgt, rfl, hF, hGl, hG, hBz⟩ := hrel
                obtain ⟨-, -, -, hv, hu⟩ := HS.out
                have hcl := hF.cell hj
                have hcg : wr.cell? ⟨G, j, none⟩ = some (u j) := by rw [hGl.gs.cellAt j (by omega)]; simp [hj]
                rw [hv] at hcl
                rw [hu] at hcg
                have hnb := HN.out j hj
                by_cases hk2 : 0 < gk
                · have hrowg := hGl.row j hj
                  rw [hu] at hrowg
                  obtain ⟨e0, e1⟩ := own3_mark hrowg (t := t) (by omega) (marks_get (j : Int) (n j + 64) t (by omega))
                  have HM := hide (fun w => markSpan_any (j : Int) t w (by omega) (by omega) (by omega))
                  have ht1 : (t : Int) < ((n j + 64 : Nat) : Int) := by omega
                  unfold maxLen at hcmu
                  by_cases htn : t < n j
                  · have hrowv := hF.row j hj
                    obtain ⟨gv, cv, hv2, _, _, _⟩ := own_place hrowv (by omega)
                    rw [hv2] at hrowv
                    obtain ⟨d0, d1⟩ := own3_mark hrowv (t := t) (by omega) (marks_get (j : Int) (n j) t htn)
                    rw [hv] at hv2
                    cases hv2
                    have htn1 : (t : Int) < (n j : Int) := by omega
                    have HQ := hide (And.intro hF (And.intro hGl hG))
                    generalize mkN (j : Int) t = mk at *
                    obtain ⟨nj, hnj⟩ : ∃ x, x = n j := ⟨_, rfl⟩
                    rw [← hnj] at hcl hcg ht1 htn1 hnb
                    have hd1 : decide ((t : Int) < (nj : Int)) = true := by simp; omega
                    have hd2 : decide (t < nj) = true := by simp; omega
                    have hS8 := And.intro hcg (And.intro e0 (And.intro e1 (And.intro hcl (And.intro d0 d1))))
                    clear hF hGl hG hv hu hrowg hrowv hnj
                    unfold fmV at HM
                    go_wp2_with fail
                    refine wp_region_held_drew (S := (fun w' => w'.cell? ⟨G, j, none⟩ = some (.slice (some ⟨gu, 0, none⟩) (nj + 64) cu) ∧ w'.cell? ⟨gu, t * 2, none⟩ = some (.int .i64 (mk : Int)) ∧ w'.cell? ⟨gu, t * 2 + 1, none⟩ = some (.int .i64 0) ∧ w'.cell? ⟨L, j, none⟩ = some (.slice (some ⟨gv, 0, none⟩) nj c) ∧ w'.cell? ⟨gv, t * 2, none⟩ = some (.int .i64 (mk : Int)) ∧ w'.cell? ⟨gv, t * 2 + 1, none⟩ = some (.int .i64 0))) (by kernel_rfl) ?_ (fun hHeld => ?_)
                    · (exact hS8)
                    refine wpAnyH_take (i := 0) (oi := { dst := some 88, op := Go.Op.move (Go.Operand.tmp 5), type := 43, pos := "apart.go:423", after := #[], guard := none }) (v := ?_) rfl (by kernel_rfl) (by kernel_rfl) (by kernel_rfl) (fun _ _ _ h => h) (Or.inl ⟨by rfl, ?_⟩) (by assumption) ?_
                    rotate_left
                    · (intro w hSw; (try dsimp only at hSw); (go_simp <;> with_reducible rfl))
                    try simp only [Act.put, List.setIfInBounds_toArray, List.set_cons_zero, List.set_cons_succ]
                    refine wpAnyH_take (i := 1) (oi := { dst := some 89, op := Go.Op.move (Go.Operand.tmp 9), type := 3, pos := "apart.go:423", after := #[], guard := none }) (v := ?_) rfl (by kernel_rfl) (by kernel_rfl) (by kernel_rfl) (fun _ _ _ h => h) (Or.inl ⟨by rfl, ?_⟩) (by assumption) ?_
                    rotate_left
                    · (intro w hSw; (try dsimp only at hSw); (go_simp <;> with_reducible rfl))
                    try simp only [Act.put, List.setIfInBounds_toArray, List.set_cons_zero, List.set_cons_succ]
                    refine wpAnyH_take (i := 2) (oi := { dst := some 90, op := Go.Op.indexAddr 43 (Go.Operand.tmp 88) (Go.Operand.tmp 89), type := 0, pos := "apart.go:423", after := #[{ on := 0, ground := Go.Ground.data }, { on := 1, ground := Go.Ground.data }], guard := none }) (v := ?_) rfl (by kernel_rfl) (by kernel_rfl) (by kernel_rfl) (fun _ _ _ h => h) (Or.inl ⟨by rfl, ?_⟩) (by assumption) ?_
                    rotate_left
                    · (intro w hSw; (try dsimp only at hSw); (go_simp <;> with_reducible rfl))
                    try simp only [Act.put, List.setIfInBounds_toArray, List.set_cons_zero, List.set_cons_succ]
                    refine wpAnyH_take (i := 3) (oi := { dst := some 91, op := Go.Op.load 33 (Go.Operand.tmp 90), type := 33, pos := "apart.go:423", after := #[{ on := 2, ground := Go.Ground.data }], guard := none }) (v := ?_) rfl (by kernel_rfl) (by kernel_rfl) (by kernel_rfl) (fun _ _ _ h => h) (Or.inl ⟨by rfl, ?_⟩) (by assumption) ?_
                    rotate_left
                    · (intro w hSw; (try dsimp only at hSw); (go_simp <;> with_reducible rfl))
                    try simp only [Act.put, List.setIfInBounds_toArray, List.set_cons_zero, List.set_cons_succ]
                    refine wpAnyH_take (i := 4) (oi := { dst := some 92, op := Go.Op.move (Go.Operand.tmp 10), type := 3, pos := "apart.go:423", after := #[], guard := none }) (v := ?_) rfl (by kernel_rfl) (by kernel_rfl) (by kernel_rfl) (fun _ _ _ h => h) (Or.inl ⟨by rfl, ?_⟩) (by assumption) ?_
                    rotate_left
                    · (intro w hSw; (try dsimp only at hSw); (go_simp <;> with_reducible rfl))
                    try simp only [Act.put, List.setIfInBounds_toArray, List.set_cons_zero, List.set_cons_succ]
                    refine wpAnyH_take (i := 5) (oi := { dst := some 93, op := Go.Op.indexAddr 33 (Go.Operand.tmp 91) (Go.Operand.tmp 92), type := 0, pos := "apart.go:423", after := #[{ on := 3, ground := Go.Ground.data }, { on := 4, ground := Go.Ground.data }], guard := none }) (v := ?_) rfl (by kernel_rfl) (by kernel_rfl) (by kernel_rfl) (fun _ _ _ h => h) (Or.inl ⟨by rfl, ?_⟩) (by assumption) ?_
                    rotate_left
                    · (intro w hSw; (try dsimp only at hSw); (go_simp <;> with_reducible rfl))
                    try simp only [Act.put, List.setIfInBounds_toArray, List.set_cons_zero, List.set_cons_succ]
                    refine wpAnyH_take (i := 6) (oi := { dst := some 94, op := Go.Op.load 64 (Go.Operand.tmp 93), type := 64, pos := "apart.go:423", after := #[{ on := 5, ground := Go.Ground.data }], guard := none }) (v := ?_) rfl (by kernel_rfl) (by kernel_rfl) (by kernel_rfl) (fun _ _ _ h => h) (Or.inl ⟨by rfl, ?_⟩) (by assumption) ?_
                    rotate_left
                    · (intro w hSw; (try dsimp only at hSw); (go_simp <;> with_reducible rfl))
                    try simp only [Act.put, List.setIfInBounds_toArray, List.set_cons_zero, List.set_cons_succ]
                    refine wpAnyH_take (i := 7) (oi := { dst := some 95, op := Go.Op.move (Go.Operand.tmp 9), type := 3, pos := "apart.go:423", after := #[], guard := none }) (v := ?_) rfl (by kernel_rfl) (by kernel_rfl) (by kernel_rfl) (fun _ _ _ h => h) (Or.inl ⟨by rfl, ?_⟩) (by assumption) ?_
                    rotate_left
                    · (intro w hSw; (try dsimp only at hSw); (go_simp <;> with_reducible rfl))
                    try simp only [Act.put, List.setIfInBounds_toArray, List.set_cons_zero, List.set_cons_succ]
                    refine wpAnyH_take (i := 8) (oi := { dst := some 96, op := Go.Op.move (Go.Operand.tmp 10), type := 3, pos := "apart.go:423", after := #[], guard := none }) (v := ?_) rfl (by kernel_rfl) (by kernel_rfl) (by kernel_rfl) (fun _ _ _ h => h) (Or.inl ⟨by rfl, ?_⟩) (by assumption) ?_
                    rotate_left
                    · (intro w hSw; (try dsimp only at hSw); (go_simp <;> with_reducible rfl))
                    try simp only [Act.put, List.setIfInBounds_toArray, List.set_cons_zero, List.set_cons_succ]
                    refine wpAnyH_ready (rs := [9]) (by kernel_rfl) (by simp) ?_
                    refine AllReadyH.cons (o := { dst := some 97, op := Go.Op.call { callee := Go.Callee.value (Go.Operand.func 83), args := #[Go.Operand.tmp 95, Go.Operand.tmp 96], argTypes := #[3, 3] }, type := 64, pos := "apart.go:423", after := #[{ on := 7, ground := Go.Ground.data }, { on := 8, ground := Go.Ground.data }], guard := none }) rfl (fun K hK => ?_) ?_
                    rotate_left
                    · exact AllReadyH.nil
                    go_simp
                    refine (HM.out _).mono ?_
                    rintro e w2 ⟨rfl, g2⟩
                    have Z0 := hide (grown_trans (grown_drew wr none) g2)
                    have hS2 := keep6 Z0.out hS8
                    clear g2
                    go_wp2_with fail
                    refine hK.out _ _ ?_ (fun hHeld => ?_)
                    · ((try dsimp only); first | assumption | go_keep)
                    clear hK K
                    try simp only [Act.put, List.setIfInBounds_toArray, List.set_cons_zero, List.set_cons_succ]
                    refine wpAnyH_take (i := 10) (oi := { dst := some 98, op := Go.Op.binOp Go.BinOp.eql 64 (Go.Operand.tmp 94) (Go.Operand.tmp 97) 64, type := 4, pos := "apart.go:423", after := #[{ on := 6, ground := Go.Ground.data }, { on := 9, ground := Go.Ground.data }], guard := none }) (v := ?_) rfl (by kernel_rfl) (by kernel_rfl) (by kernel_rfl) (fun _ _ _ h => h) (Or.inl ⟨by rfl, ?_⟩) (by assumption) ?_
                    rotate_left
                    · (intro w hSw; refine eq_op (x := .tmp 94) (y := .tmp 97) (p := (mk : Int)) (z := 0) ?_ ?_ ?_ w <;> rfl)
                    try simp only [Act.put, List.setIfInBounds_toArray, List.set_cons_zero, List.set_cons_succ]
                    refine wpAnyH_take (i := 11) (oi := { dst := some 99, op := Go.Op.unOp Go.UnOp.not 4 (Go.Operand.tmp 98), type := 4, pos := "apart.go:423", after := #[{ on := 10, ground := Go.Ground.data }], guard := none }) (v := ?_) rfl (by kernel_rfl) (by kernel_rfl) (by kernel_rfl) (fun _ _ _ h => h) (Or.inl ⟨by rfl, ?_⟩) (by assumption) ?_
                    rotate_left
                    · (intro w hSw; (try dsimp only at hSw); (go_simp <;> with_reducible rfl))
                    try simp only [Act.put, List.setIfInBounds_toArray, List.set_cons_zero, List.set_cons_succ]
                    refine wpAnyH_take (i := 12) (oi := { dst := some 100, op := Go.Op.move (Go.Operand.tmp 99), type := 4, pos := "apart.go:423", after := #[{ on := 11, ground := Go.Ground.data }, { on := 9, ground := Go.Ground.chain }], guard := none }) (v := ?_) rfl (by kernel_rfl) (by kernel_rfl) (by kernel_rfl) (fun _ _ _ h => h) (Or.inl ⟨by rfl, ?_⟩) (by assumption) ?_
                    rotate_left
                    · (intro w hSw; (try dsimp only at hSw); (go_simp <;> with_reducible rfl))
                    try simp only [Act.put, List.setIfInBounds_toArray, List.set_cons_zero, List.set_cons_succ]
                    refine wpAnyH_take (i := 13) (oi := { dst := some 101, op := Go.Op.move (Go.Operand.tmp 10), type := 3, pos := "apart.go:423", after := #[{ on := 12, ground := Go.Ground.guard }], guard := some (12, false) }) (v := ?_) rfl (by kernel_rfl) (by kernel_rfl) (by kernel_rfl) (fun _ _ _ h => h) (Or.inl ⟨by rfl, ?_⟩) (by assumption) ?_
                    rotate_left
                    · (intro w hSw; (try dsimp only at hSw); (go_simp <;> with_reducible rfl))
                    try simp only [Act.put, List.setIfInBounds_toArray, List.set_cons_zero, List.set_cons_succ]
                    refine wpAnyH_take (i := 14) (oi := { dst := some 102, op := Go.Op.move (Go.Operand.tmp 0), type := 43, pos := "apart.go:423", after := #[{ on := 12, ground := Go.Ground.guard }], guard := some (12, false) }) (v := ?_) rfl (by kernel_rfl) (by kernel_rfl) (by kernel_rfl) (fun _ _ _ h => h) (Or.inl ⟨by rfl, ?_⟩) (by assumption) ?_
                    rotate_left
                    · (intro w hSw; (try dsimp only at hSw); (go_simp <;> with_reducible rfl))
                    try simp only [Act.put, List.setIfInBounds_toArray, List.set_cons_zero, List.set_cons_succ]
                    refine wpAnyH_take (i := 15) (oi := { dst := some 103, op := Go.Op.move (Go.Operand.tmp 9), type := 3, pos := "apart.go:423", after := #[{ on := 12, ground := Go.Ground.guard }], guard := some (12, false) }) (v := ?_) rfl (by kernel_rfl) (by kernel_rfl) (by kernel_rfl) (fun _ _ _ h => h) (Or.inl ⟨by rfl, ?_⟩) (by assumption) ?_
                    rotate_left
                    · (intro w hSw; (try dsimp only at hSw); (go_simp <;> with_reducible rfl))
                    try simp only [Act.put, List.setIfInBounds_toArray, List.set_cons_zero, List.set_cons_succ]
                    refine wpAnyH_take (i := 16) (oi := { dst := some 104, op := Go.Op.indexAddr 43 (Go.Operand.tmp 102) (Go.Operand.tmp 103), type := 0, pos := "apart.go:423", after := #[{ on := 14, ground := Go.Ground.data }, { on := 15, ground := Go.Ground.data }, { on := 12, ground := Go.Ground.guard }], guard := some (12, false) }) (v := ?_) rfl (by kernel_rfl) (by kernel_rfl) (by kernel_rfl) (fun _ _ _ h => h) (Or.inl ⟨by rfl, ?_⟩) (by assumption) ?_
                    rotate_left
                    · (intro w hSw; (try dsimp only at hSw); (go_simp <;> with_reducible rfl))
                    try simp only [Act.put, List.setIfInBounds_toArray, List.set_cons_zero, List.set_cons_succ]
                    refine wpAnyH_take (i := 17) (oi := { dst := some 105, op := Go.Op.load 33 (Go.Operand.tmp 104), type := 33, pos := "apart.go:423", after := #[{ on := 16, ground := Go.Ground.data }, { on := 12, ground := Go.Ground.guard }], guard := some (12, false) }) (v := ?_) rfl (by kernel_rfl) (by kernel_rfl) (by kernel_rfl) (fun _ _ _ h => h) (Or.inl ⟨by rfl, ?_⟩) (by assumption) ?_
                    rotate_left
                    · (intro w hSw; (try dsimp only at hSw); (go_simp <;> with_reducible rfl))
                    try simp only [Act.put, List.setIfInBounds_toArray, List.set_cons_zero, List.set_cons_succ]
                    refine wpAnyH_take (i := 18) (oi := { dst := some 106, op := Go.Op.call { callee := Go.Callee.builtin Go.Builtin.len, args := #[Go.Operand.tmp 105], argTypes := #[33] }, type := 3, pos := "apart.go:423", after := #[{ on := 17, ground := Go.Ground.data }, { on := 12, ground := Go.Ground.guard }], guard := some (12, false) }) (v := ?_) rfl (by kernel_rfl) (by kernel_rfl) (by kernel_rfl) (fun _ _ _ h => h) (Or.inl ⟨by rfl, ?_⟩) (by assumption) ?_
                    rotate_left
                    · (intro w hSw; (try dsimp only at hSw); (go_simp <;> with_reducible rfl))
                    try simp only [Act.put, List.setIfInBounds_toArray, List.set_cons_zero, List.set_cons_succ]
                    refine wpAnyH_take (i := 19) (oi := { dst := some 107, op := Go.Op.binOp Go.BinOp.lss 3 (Go.Operand.tmp 101) (Go.Operand.tmp 106) 3, type := 4, pos := "apart.go:423", after := #[{ on := 13, ground := Go.Ground.data }, { on := 18, ground := Go.Ground.data }, { on := 12, ground := Go.Ground.guard }], guard := some (12, false) }) (v := ?_) rfl (by kernel_rfl) (by kernel_rfl) (by kernel_rfl) (fun _ _ _ h => h) (Or.inl ⟨by rfl, ?_⟩) (by assumption) ?_
                    rotate_left
                    · (intro w hSw; (try dsimp only at hSw); (go_simp <;> with_reducible rfl))
                    try simp only [Act.put, List.setIfInBounds_toArray, List.set_cons_zero, List.set_cons_succ]
                    refine wpAnyH_take (i := 20) (oi := { dst := some 108, op := Go.Op.move (Go.Operand.tmp 107), type := 4, pos := "apart.go:423", after := #[{ on := 19, ground := Go.Ground.data }, { on := 12, ground := Go.Ground.chain }, { on := 12, ground := Go.Ground.guard }], guard := some (12, false) }) (v := ?_) rfl (by kernel_rfl) (by kernel_rfl) (by kernel_rfl) (fun _ _ _ h => h) (Or.inl ⟨by rfl, ?_⟩) (by assumption) ?_
                    rotate_left
                    · (intro w hSw; (try dsimp only at hSw); (go_simp <;> with_reducible rfl))
                    try simp only [Act.put, List.setIfInBounds_toArray, List.set_cons_zero, List.set_cons_succ]
                    refine wpAnyH_take (i := 21) (oi := { dst := some 109, op := Go.Op.move (Go.Operand.tmp 0), type := 43, pos := "apart.go:423", after := #[{ on := 20, ground := Go.Ground.guard }], guard := some (20, true) }) (v := ?_) rfl (by kernel_rfl) (by kernel_rfl) (by kernel_rfl) (fun _ _ _ h => h) (Or.inl ⟨by rfl, ?_⟩) (by assumption) ?_
                    rotate_left
                    · (intro w hSw; (try dsimp only at hSw); (go_simp <;> with_reducible rfl))
                    try simp only [Act.put, List.setIfInBounds_toArray, List.set_cons_zero, List.set_cons_succ]
                    refine wpAnyH_take (i := 22) (oi := { dst := some 110, op := Go.Op.move (Go.Operand.tmp 9), type := 3, pos := "apart.go:423", after := #[{ on := 20, ground := Go.Ground.guard }], guard := some (20, true) }) (v := ?_) rfl (by kernel_rfl) (by kernel_rfl) (by kernel_rfl) (fun _ _ _ h => h) (Or.inl ⟨by rfl, ?_⟩) (by assumption) ?_
                    rotate_left
                    · (intro w hSw; (try dsimp only at hSw); (go_simp <;> with_reducible rfl))
                    try simp only [Act.put, List.setIfInBounds_toArray, List.set_cons_zero, List.set_cons_succ]
                    refine wpAnyH_take (i := 23) (oi := { dst := some 111, op := Go.Op.indexAddr 43 (Go.Operand.tmp 109) (Go.Operand.tmp 110), type := 0, pos := "apart.go:423", after := #[{ on := 21, ground := Go.Ground.data }, { on := 22, ground := Go.Ground.data }, { on := 20, ground := Go.Ground.guard }], guard := some (20, true) }) (v := ?_) rfl (by kernel_rfl) (by kernel_rfl) (by kernel_rfl) (fun _ _ _ h => h) (Or.inl ⟨by rfl, ?_⟩) (by assumption) ?_
                    rotate_left
                    · (intro w hSw; (try dsimp only at hSw); (go_simp <;> with_reducible rfl))
                    try simp only [Act.put, List.setIfInBounds_toArray, List.set_cons_zero, List.set_cons_succ]
                    refine wpAnyH_take (i := 24) (oi := { dst := some 112, op := Go.Op.load 33 (Go.Operand.tmp 111), type := 33, pos := "apart.go:423", after := #[{ on := 23, ground := Go.Ground.data }, { on := 20, ground := Go.Ground.guard }], guard := some (20, true) }) (v := ?_) rfl (by kernel_rfl) (by kernel_rfl) (by kernel_rfl) (fun _ _ _ h => h) (Or.inl ⟨by rfl, ?_⟩) (by assumption) ?_
                    rotate_left
                    · (intro w hSw; (try dsimp only at hSw); (go_simp <;> with_reducible rfl))
                    try simp only [Act.put, List.setIfInBounds_toArray, List.set_cons_zero, List.set_cons_succ]
                    refine wpAnyH_take (i := 25) (oi := { dst := some 113, op := Go.Op.move (Go.Operand.tmp 10), type := 3, pos := "apart.go:423", after := #[{ on := 20, ground := Go.Ground.guard }], guard := some (20, true) }) (v := ?_) rfl (by kernel_rfl) (by kernel_rfl) (by kernel_rfl) (fun _ _ _ h => h) (Or.inl ⟨by rfl, ?_⟩) (by assumption) ?_
                    rotate_left
                    · (intro w hSw; (try dsimp only at hSw); (go_simp <;> with_reducible rfl))
                    try simp only [Act.put, List.setIfInBounds_toArray, List.set_cons_zero, List.set_cons_succ]
                    refine wpAnyH_take (i := 26) (oi := { dst := some 114, op := Go.Op.indexAddr 33 (Go.Operand.tmp 112) (Go.Operand.tmp 113), type := 0, pos := "apart.go:423", after := #[{ on := 24, ground := Go.Ground.data }, { on := 25, ground := Go.Ground.data }, { on := 20, ground := Go.Ground.guard }], guard := some (20, true) }) (v := ?_) rfl (by kernel_rfl) (by kernel_rfl) (by kernel_rfl) (fun _ _ _ h => h) (Or.inl ⟨by rfl, ?_⟩) (by assumption) ?_
                    rotate_left
                    · (intro w hSw; (try dsimp only at hSw); (go_simp <;> with_reducible rfl))
                    try simp only [Act.put, List.setIfInBounds_toArray, List.set_cons_zero, List.set_cons_succ]
                    refine wpAnyH_take (i := 27) (oi := { dst := some 115, op := Go.Op.load 64 (Go.Operand.tmp 114), type := 64, pos := "apart.go:423", after := #[{ on := 26, ground := Go.Ground.data }, { on := 20, ground := Go.Ground.guard }], guard := some (20, true) }) (v := ?_) rfl (by kernel_rfl) (by kernel_rfl) (by kernel_rfl) (fun _ _ _ h => h) (Or.inl ⟨by rfl, ?_⟩) (by assumption) ?_
                    rotate_left
                    · (intro w hSw; (try dsimp only at hSw); (go_simp <;> with_reducible rfl))
                    try simp only [Act.put, List.setIfInBounds_toArray, List.set_cons_zero, List.set_cons_succ]
                    refine wpAnyH_take (i := 28) (oi := { dst := some 116, op := Go.Op.move (Go.Operand.tmp 9), type := 3, pos := "apart.go:423", after := #[{ on := 20, ground := Go.Ground.guard }], guard := some (20, true) }) (v := ?_) rfl (by kernel_rfl) (by kernel_rfl) (by kernel_rfl) (fun _ _ _ h => h) (Or.inl ⟨by rfl, ?_⟩) (by assumption) ?_
                    rotate_left
                    · (intro w hSw; (try dsimp only at hSw); (go_simp <;> with_reducible rfl))
                    try simp only [Act.put, List.setIfInBounds_toArray, List.set_cons_zero, List.set_cons_succ]
                    refine wpAnyH_take (i := 29) (oi := { dst := some 117, op := Go.Op.move (Go.Operand.tmp 10), type := 3, pos := "apart.go:423", after := #[{ on := 20, ground := Go.Ground.guard }], guard := some (20, true) }) (v := ?_) rfl (by kernel_rfl) (by kernel_rfl) (by kernel_rfl) (fun _ _ _ h => h) (Or.inl ⟨by rfl, ?_⟩) (by assumption) ?_
                    rotate_left
                    · (intro w hSw; (try dsimp only at hSw); (go_simp <;> with_reducible rfl))
                    try simp only [Act.put, List.setIfInBounds_toArray, List.set_cons_zero, List.set_cons_succ]
                    refine wpAnyH_ready (rs := [30]) (by kernel_rfl) (by simp) ?_
                    refine AllReadyH.cons (o := { dst := some 118, op := Go.Op.call { callee := Go.Callee.value (Go.Operand.func 83), args := #[Go.Operand.tmp 116, Go.Operand.tmp 117], argTypes := #[3, 3] }, type := 64, pos := "apart.go:423", after := #[{ on := 28, ground := Go.Ground.data }, { on := 29, ground := Go.Ground.data }, { on := 20, ground := Go.Ground.chain }, { on := 20, ground := Go.Ground.guard }], guard := some (20, true) }) rfl (fun K hK => ?_) ?_
                    rotate_left
                    · exact AllReadyH.nil
                    go_simp
                    refine (HM.out _).mono ?_
                    rintro e w4 ⟨rfl, g4⟩
                    have Z3 := hide (grown_trans Z0.out g4)
                    have hS4 := keep6 Z3.out hS8
                    clear g4
                    go_wp2_with fail
                    refine hK.out _ _ ?_ (fun hHeld => ?_)
                    · ((try dsimp only); first | assumption | go_keep)
                    clear hK K
                    try simp only [Act.put, List.setIfInBounds_toArray, List.set_cons_zero, List.set_cons_succ]
                    refine wpAnyH_take (i := 31) (oi := { dst := some 119, op := Go.Op.binOp Go.BinOp.eql 64 (Go.Operand.tmp 115) (Go.Operand.tmp 118) 64, type := 4, pos := "apart.go:423", after := #[{ on := 27, ground := Go.Ground.data }, { on := 30, ground := Go.Ground.data }, { on := 20, ground := Go.Ground.guard }], guard := some (20, true) }) (v := ?_) rfl (by kernel_rfl) (by kernel_rfl) (by kernel_rfl) (fun _ _ _ h => h) (Or.inl ⟨by rfl, ?_⟩) (by assumption) ?_
                    rotate_left
                    · (intro w hSw; refine eq_op (x := .tmp 115) (y := .tmp 118) (p := (mk : Int)) (z := 0) ?_ ?_ ?_ w <;> rfl)
                    try simp only [Act.put, List.setIfInBounds_toArray, List.set_cons_zero, List.set_cons_succ]
                    refine wpAnyH_take (i := 32) (oi := { dst := some 120, op := Go.Op.unOp Go.UnOp.not 4 (Go.Operand.tmp 119), type := 4, pos := "apart.go:423", after := #[{ on := 31, ground := Go.Ground.data }, { on := 20, ground := Go.Ground.guard }], guard := some (20, true) }) (v := ?_) rfl (by kernel_rfl) (by kernel_rfl) (by kernel_rfl) (fun _ _ _ h => h) (Or.inl ⟨by rfl, ?_⟩) (by assumption) ?_
                    rotate_left
                    · (intro w hSw; (try dsimp only at hSw); (go_simp <;> with_reducible rfl))
                    try simp only [Act.put, List.setIfInBounds_toArray, List.set_cons_zero, List.set_cons_succ]
                    refine wpAnyH_take (i := 33) (oi := { dst := some 121, op := Go.Op.pick (Go.Operand.tmp 108) (Go.Operand.tmp 120) (Go.Operand.const (Go.Value.bool false)), type := 4, pos := "apart.go:423", after := #[{ on := 20, ground := Go.Ground.data }, { on := 32, ground := Go.Ground.data }, { on := 12, ground := Go.Ground.guard }], guard := some (12, false) }) (v := ?_) rfl (by kernel_rfl) (by kernel_rfl) (by kernel_rfl) (fun _ _ _ h => h) (Or.inl ⟨by rfl, ?_⟩) (by assumption) ?_
                    rotate_left
                    · (intro w hSw; (try dsimp only at hSw); (go_simp <;> with_reducible rfl))
                    try simp only [Act.put, List.setIfInBounds_toArray, List.set_cons_zero, List.set_cons_succ]
                    refine wpAnyH_take (i := 34) (oi := { dst := some 122, op := Go.Op.pick (Go.Operand.tmp 100) (Go.Operand.const (Go.Value.bool true)) (Go.Operand.tmp 121), type := 4, pos := "apart.go:423", after := #[{ on := 12, ground := Go.Ground.data }, { on := 33, ground := Go.Ground.data }], guard := none }) (v := ?_) rfl (by kernel_rfl) (by kernel_rfl) (by kernel_rfl) (fun _ _ _ h => h) (Or.inl ⟨by rfl, ?_⟩) (by assumption) ?_
                    rotate_left
                    · (intro w hSw; (try dsimp only at hSw); (go_simp <;> with_reducible rfl))
                    try simp only [Act.put, List.setIfInBounds_toArray, List.set_cons_zero, List.set_cons_succ]
                    refine wpAnyH_done (by kernel_rfl) ?_ _
                    clear hHeld hS2 hS4 hS8 hcg hcl e0 e1 d0 d1
                    go_wp2
                    go_roundg (gk - 1)
                    case measure => omega
                    case rel => exact ⟨t + 1, by omega, by go_num, HQ.out.1.kept Z3.out, HQ.out.2.1.kept Z3.out, HQ.out.2.2.new Z3.out, Nat.le_trans hBz Z3.out.size⟩
                  · have htn1 : ¬ (t : Int) < (n j : Int) := by omega
                    have HQ := hide (And.intro hF (And.intro hGl hG))
                    generalize mkN (j : Int) t = mk at *
                    obtain ⟨nj, hnj⟩ : ∃ x, x = n j := ⟨_, rfl⟩
                    rw [← hnj] at hcl hcg ht1 htn1 hnb
                    have hd1 : decide ((t : Int) < (nj : Int)) = false := by simp; omega
                    have hd2 : decide (t < nj) = false := by simp; omega
                    have hS5 := And.intro hcg (And.intro e0 (And.intro e1 hcl))
                    clear hF hGl hG hv hu hrowg hnj
                    unfold fmV at HM
                    go_wp2_with fail
                    refine wp_region_held_drew (S := (fun w' => w'.cell? ⟨G, j, none⟩ = some (.slice (some ⟨gu, 0, none⟩) (nj + 64) cu) ∧ w'.cell? ⟨gu, t * 2, none⟩ = some (.int .i64 (mk : Int)) ∧ w'.cell? ⟨gu, t * 2 + 1, none⟩ = some (.int .i64 0) ∧ w'.cell? ⟨L, j, none⟩ = some (.slice ao nj c))) (by kernel_rfl) ?_ (fun hHeld => ?_)
                    · (exact hS5)
                    refine wpAnyH_take (i := 0) (oi := { dst := some 88, op := Go.Op.move (Go.Operand.tmp 5), type := 43, pos := "apart.go:423", after := #[], guard := none }) (v := ?_) rfl (by kernel_rfl) (by kernel_rfl) (by kernel_rfl) (fun _ _ _ h => h) (Or.inl ⟨by rfl, ?_⟩) (by assumption) ?_
                    rotate_left
                    · (intro w hSw; (try dsimp only at hSw); (go_simp <;> with_reducible rfl))
                    try simp only [Act.put, List.setIfInBounds_toArray, List.set_cons_zero, List.set_cons_succ]
                    refine wpAnyH_take (i := 1) (oi := { dst := some 89, op := Go.Op.move (Go.Operand.tmp 9), type := 3, pos := "apart.go:423", after := #[], guard := none }) (v := ?_) rfl (by kernel_rfl) (by kernel_rfl) (by kernel_rfl) (fun _ _ _ h => h) (Or.inl ⟨by rfl, ?_⟩) (by assumption) ?_
                    rotate_left
                    · (intro w hSw; (try dsimp only at hSw); (go_simp <;> with_reducible rfl))
                    try simp only [Act.put, List.setIfInBounds_toArray, List.set_cons_zero, List.set_cons_succ]
                    refine wpAnyH_take (i := 2) (oi := { dst := some 90, op := Go.Op.indexAddr 43 (Go.Operand.tmp 88) (Go.Operand.tmp 89), type := 0, pos := "apart.go:423", after := #[{ on := 0, ground := Go.Ground.data }, { on := 1, ground := Go.Ground.data }], guard := none }) (v := ?_) rfl (by kernel_rfl) (by kernel_rfl) (by kernel_rfl) (fun _ _ _ h => h) (Or.inl ⟨by rfl, ?_⟩) (by assumption) ?_
                    rotate_left
                    · (intro w hSw; (try dsimp only at hSw); (go_simp <;> with_reducible rfl))
                    try simp only [Act.put, List.setIfInBounds_toArray, List.set_cons_zero, List.set_cons_succ]
                    refine wpAnyH_take (i := 3) (oi := { dst := some 91, op := Go.Op.load 33 (Go.Operand.tmp 90), type := 33, pos := "apart.go:423", after := #[{ on := 2, ground := Go.Ground.data }], guard := none }) (v := ?_) rfl (by kernel_rfl) (by kernel_rfl) (by kernel_rfl) (fun _ _ _ h => h) (Or.inl ⟨by rfl, ?_⟩) (by assumption) ?_
                    rotate_left
                    · (intro w hSw; (try dsimp only at hSw); (go_simp <;> with_reducible rfl))
                    try simp only [Act.put, List.setIfInBounds_toArray, List.set_cons_zero, List.set_cons_succ]
                    refine wpAnyH_take (i := 4) (oi := { dst := some 92, op := Go.Op.move (Go.Operand.tmp 10), type := 3, pos := "apart.go:423", after := #[], guard := none }) (v := ?_) rfl (by kernel_rfl) (by kernel_rfl) (by kernel_rfl) (fun _ _ _ h => h) (Or.inl ⟨by rfl, ?_⟩) (by assumption) ?_
                    rotate_left
                    · (intro w hSw; (try dsimp only at hSw); (go_simp <;> with_reducible rfl))
                    try simp only [Act.put, List.setIfInBounds_toArray, List.set_cons_zero, List.set_cons_succ]
                    refine wpAnyH_take (i := 5) (oi := { dst := some 93, op := Go.Op.indexAddr 33 (Go.Operand.tmp 91) (Go.Operand.tmp 92), type := 0, pos := "apart.go:423", after := #[{ on := 3, ground := Go.Ground.data }, { on := 4, ground := Go.Ground.data }], guard := none }) (v := ?_) rfl (by kernel_rfl) (by kernel_rfl) (by kernel_rfl) (fun _ _ _ h => h) (Or.inl ⟨by rfl, ?_⟩) (by assumption) ?_
                    rotate_left
                    · (intro w hSw; (try dsimp only at hSw); (go_simp <;> with_reducible rfl))
                    try simp only [Act.put, List.setIfInBounds_toArray, List.set_cons_zero, List.set_cons_succ]
                    refine wpAnyH_take (i := 6) (oi := { dst := some 94, op := Go.Op.load 64 (Go.Operand.tmp 93), type := 64, pos := "apart.go:423", after := #[{ on := 5, ground := Go.Ground.data }], guard := none }) (v := ?_) rfl (by kernel_rfl) (by kernel_rfl) (by kernel_rfl) (fun _ _ _ h => h) (Or.inl ⟨by rfl, ?_⟩) (by assumption) ?_
                    rotate_left
                    · (intro w hSw; (try dsimp only at hSw); (go_simp <;> with_reducible rfl))
                    try simp only [Act.put, List.setIfInBounds_toArray, List.set_cons_zero, List.set_cons_succ]
                    refine wpAnyH_take (i := 7) (oi := { dst := some 95, op := Go.Op.move (Go.Operand.tmp 9), type := 3, pos := "apart.go:423", after := #[], guard := none }) (v := ?_) rfl (by kernel_rfl) (by kernel_rfl) (by kernel_rfl) (fun _ _ _ h => h) (Or.inl ⟨by rfl, ?_⟩) (by assumption) ?_
                    rotate_left
                    · (intro w hSw; (try dsimp only at hSw); (go_simp <;> with_reducible rfl))
                    try simp only [Act.put, List.setIfInBounds_toArray, List.set_cons_zero, List.set_cons_succ]
                    refine wpAnyH_take (i := 8) (oi := { dst := some 96, op := Go.Op.move (Go.Operand.tmp 10), type := 3, pos := "apart.go:423", after := #[], guard := none }) (v := ?_) rfl (by kernel_rfl) (by kernel_rfl) (by kernel_rfl) (fun _ _ _ h => h) (Or.inl ⟨by rfl, ?_⟩) (by assumption) ?_
                    rotate_left
                    · (intro w hSw; (try dsimp only at hSw); (go_simp <;> with_reducible rfl))
                    try simp only [Act.put, List.setIfInBounds_toArray, List.set_cons_zero, List.set_cons_succ]
                    refine wpAnyH_ready (rs := [9]) (by kernel_rfl) (by simp) ?_
                    refine AllReadyH.cons (o := { dst := some 97, op := Go.Op.call { callee := Go.Callee.value (Go.Operand.func 83), args := #[Go.Operand.tmp 95, Go.Operand.tmp 96], argTypes := #[3, 3] }, type := 64, pos := "apart.go:423", after := #[{ on := 7, ground := Go.Ground.data }, { on := 8, ground := Go.Ground.data }], guard := none }) rfl (fun K hK => ?_) ?_
                    rotate_left
                    · exact AllReadyH.nil
                    go_simp
                    refine (HM.out _).mono ?_
                    rintro e w2 ⟨rfl, g2⟩
                    have Z1 := hide (grown_trans (grown_drew wr none) g2)
                    have hS2 := keep4 Z1.out hS5
                    clear g2
                    go_wp2_with fail
                    refine hK.out _ _ ?_ (fun hHeld => ?_)
                    · ((try dsimp only); first | assumption | go_keep)
                    clear hK K
                    try simp only [Act.put, List.setIfInBounds_toArray, List.set_cons_zero, List.set_cons_succ]
                    refine wpAnyH_take (i := 10) (oi := { dst := some 98, op := Go.Op.binOp Go.BinOp.eql 64 (Go.Operand.tmp 94) (Go.Operand.tmp 97) 64, type := 4, pos := "apart.go:423", after := #[{ on := 6, ground := Go.Ground.data }, { on := 9, ground := Go.Ground.data }], guard := none }) (v := ?_) rfl (by kernel_rfl) (by kernel_rfl) (by kernel_rfl) (fun _ _ _ h => h) (Or.inl ⟨by rfl, ?_⟩) (by assumption) ?_
                    rotate_left
                    · (intro w hSw; refine eq_op (x := .tmp 94) (y := .tmp 97) (p := (mk : Int)) (z := 0) ?_ ?_ ?_ w <;> rfl)
                    try simp only [Act.put, List.setIfInBounds_toArray, List.set_cons_zero, List.set_cons_succ]
                    refine wpAnyH_take (i := 11) (oi := { dst := some 99, op := Go.Op.unOp Go.UnOp.not 4 (Go.Operand.tmp 98), type := 4, pos := "apart.go:423", after := #[{ on := 10, ground := Go.Ground.data }], guard := none }) (v := ?_) rfl (by kernel_rfl) (by kernel_rfl) (by kernel_rfl) (fun _ _ _ h => h) (Or.inl ⟨by rfl, ?_⟩) (by assumption) ?_
                    rotate_left
                    · (intro w hSw; (try dsimp only at hSw); (go_simp <;> with_reducible rfl))
                    try simp only [Act.put, List.setIfInBounds_toArray, List.set_cons_zero, List.set_cons_succ]
                    refine wpAnyH_take (i := 12) (oi := { dst := some 100, op := Go.Op.move (Go.Operand.tmp 99), type := 4, pos := "apart.go:423", after := #[{ on := 11, ground := Go.Ground.data }, { on := 9, ground := Go.Ground.chain }], guard := none }) (v := ?_) rfl (by kernel_rfl) (by kernel_rfl) (by kernel_rfl) (fun _ _ _ h => h) (Or.inl ⟨by rfl, ?_⟩) (by assumption) ?_
                    rotate_left
                    · (intro w hSw; (try dsimp only at hSw); (go_simp <;> with_reducible rfl))
                    try simp only [Act.put, List.setIfInBounds_toArray, List.set_cons_zero, List.set_cons_succ]
                    refine wpAnyH_take (i := 13) (oi := { dst := some 101, op := Go.Op.move (Go.Operand.tmp 10), type := 3, pos := "apart.go:423", after := #[{ on := 12, ground := Go.Ground.guard }], guard := some (12, false) }) (v := ?_) rfl (by kernel_rfl) (by kernel_rfl) (by kernel_rfl) (fun _ _ _ h => h) (Or.inl ⟨by rfl, ?_⟩) (by assumption) ?_
                    rotate_left
                    · (intro w hSw; (try dsimp only at hSw); (go_simp <;> with_reducible rfl))
                    try simp only [Act.put, List.setIfInBounds_toArray, List.set_cons_zero, List.set_cons_succ]
                    refine wpAnyH_take (i := 14) (oi := { dst := some 102, op := Go.Op.move (Go.Operand.tmp 0), type := 43, pos := "apart.go:423", after := #[{ on := 12, ground := Go.Ground.guard }], guard := some (12, false) }) (v := ?_) rfl (by kernel_rfl) (by kernel_rfl) (by kernel_rfl) (fun _ _ _ h => h) (Or.inl ⟨by rfl, ?_⟩) (by assumption) ?_
                    rotate_left
                    · (intro w hSw; (try dsimp only at hSw); (go_simp <;> with_reducible rfl))
                    try simp only [Act.put, List.setIfInBounds_toArray, List.set_cons_zero, List.set_cons_succ]
                    refine wpAnyH_take (i := 15) (oi := { dst := some 103, op := Go.Op.move (Go.Operand.tmp 9), type := 3, pos := "apart.go:423", after := #[{ on := 12, ground := Go.Ground.guard }], guard := some (12, false) }) (v := ?_) rfl (by kernel_rfl) (by kernel_rfl) (by kernel_rfl) (fun _ _ _ h => h) (Or.inl ⟨by rfl, ?_⟩) (by assumption) ?_
                    rotate_left
                    · (intro w hSw; (try dsimp only at hSw); (go_simp <;> with_reducible rfl))
                    try simp only [Act.put, List.setIfInBounds_toArray, List.set_cons_zero, List.set_cons_succ]
                    refine wpAnyH_take (i := 16) (oi := { dst := some 104, op := Go.Op.indexAddr 43 (Go.Operand.tmp 102) (Go.Operand.tmp 103), type := 0, pos := "apart.go:423", after := #[{ on := 14, ground := Go.Ground.data }, { on := 15, ground := Go.Ground.data }, { on := 12, ground := Go.Ground.guard }], guard := some (12, false) }) (v := ?_) rfl (by kernel_rfl) (by kernel_rfl) (by kernel_rfl) (fun _ _ _ h => h) (Or.inl ⟨by rfl, ?_⟩) (by assumption) ?_
                    rotate_left
                    · (intro w hSw; (try dsimp only at hSw); (go_simp <;> with_reducible rfl))
                    try simp only [Act.put, List.setIfInBounds_toArray, List.set_cons_zero, List.set_cons_succ]
                    refine wpAnyH_take (i := 17) (oi := { dst := some 105, op := Go.Op.load 33 (Go.Operand.tmp 104), type := 33, pos := "apart.go:423", after := #[{ on := 16, ground := Go.Ground.data }, { on := 12, ground := Go.Ground.guard }], guard := some (12, false) }) (v := ?_) rfl (by kernel_rfl) (by kernel_rfl) (by kernel_rfl) (fun _ _ _ h => h) (Or.inl ⟨by rfl, ?_⟩) (by assumption) ?_
                    rotate_left
                    · (intro w hSw; (try dsimp only at hSw); (go_simp <;> with_reducible rfl))
                    try simp only [Act.put, List.setIfInBounds_toArray, List.set_cons_zero, List.set_cons_succ]
                    refine wpAnyH_take (i := 18) (oi := { dst := some 106, op := Go.Op.call { callee := Go.Callee.builtin Go.Builtin.len, args := #[Go.Operand.tmp 105], argTypes := #[33] }, type := 3, pos := "apart.go:423", after := #[{ on := 17, ground := Go.Ground.data }, { on := 12, ground := Go.Ground.guard }], guard := some (12, false) }) (v := ?_) rfl (by kernel_rfl) (by kernel_rfl) (by kernel_rfl) (fun _ _ _ h => h) (Or.inl ⟨by rfl, ?_⟩) (by assumption) ?_
                    rotate_left
                    · (intro w hSw; (try dsimp only at hSw); (go_simp <;> with_reducible rfl))
                    try simp only [Act.put, List.setIfInBounds_toArray, List.set_cons_zero, List.set_cons_succ]
                    refine wpAnyH_take (i := 19) (oi := { dst := some 107, op := Go.Op.binOp Go.BinOp.lss 3 (Go.Operand.tmp 101) (Go.Operand.tmp 106) 3, type := 4, pos := "apart.go:423", after := #[{ on := 13, ground := Go.Ground.data }, { on := 18, ground := Go.Ground.data }, { on := 12, ground := Go.Ground.guard }], guard := some (12, false) }) (v := ?_) rfl (by kernel_rfl) (by kernel_rfl) (by kernel_rfl) (fun _ _ _ h => h) (Or.inl ⟨by rfl, ?_⟩) (by assumption) ?_
                    rotate_left
                    · (intro w hSw; (try dsimp only at hSw); (go_simp <;> with_reducible rfl))
                    try simp only [Act.put, List.setIfInBounds_toArray, List.set_cons_zero, List.set_cons_succ]
                    refine wpAnyH_take (i := 20) (oi := { dst := some 108, op := Go.Op.move (Go.Operand.tmp 107), type := 4, pos := "apart.go:423", after := #[{ on := 19, ground := Go.Ground.data }, { on := 12, ground := Go.Ground.chain }, { on := 12, ground := Go.Ground.guard }], guard := some (12, false) }) (v := ?_) rfl (by kernel_rfl) (by kernel_rfl) (by kernel_rfl) (fun _ _ _ h => h) (Or.inl ⟨by rfl, ?_⟩) (by assumption) ?_
                    rotate_left
                    · (intro w hSw; (try dsimp only at hSw); (go_simp <;> with_reducible rfl))
                    try simp only [Act.put, List.setIfInBounds_toArray, List.set_cons_zero, List.set_cons_succ]
                    refine wpAnyH_take (i := 21) (oi := { dst := some 109, op := Go.Op.move (Go.Operand.tmp 0), type := 43, pos := "apart.go:423", after := #[{ on := 20, ground := Go.Ground.guard }], guard := some (20, true) }) (v := undef) rfl (by kernel_rfl) (by kernel_rfl) (by kernel_rfl) (fun _ _ _ h => h) (Or.inr ⟨by rfl, rfl⟩) (by assumption) ?_
                    try simp only [Act.put, List.setIfInBounds_toArray, List.set_cons_zero, List.set_cons_succ]
                    refine wpAnyH_take (i := 22) (oi := { dst := some 110, op := Go.Op.move (Go.Operand.tmp 9), type := 3, pos := "apart.go:423", after := #[{ on := 20, ground := Go.Ground.guard }], guard := some (20, true) }) (v := undef) rfl (by kernel_rfl) (by kernel_rfl) (by kernel_rfl) (fun _ _ _ h => h) (Or.inr ⟨by rfl, rfl⟩) (by assumption) ?_
                    try simp only [Act.put, List.setIfInBounds_toArray, List.set_cons_zero, List.set_cons_succ]
                    refine wpAnyH_take (i := 23) (oi := { dst := some 111, op := Go.Op.indexAddr 43 (Go.Operand.tmp 109) (Go.Operand.tmp 110), type := 0, pos := "apart.go:423", after := #[{ on := 21, ground := Go.Ground.data }, { on := 22, ground := Go.Ground.data }, { on := 20, ground := Go.Ground.guard }], guard := some (20, true) }) (v := undef) rfl (by kernel_rfl) (by kernel_rfl) (by kernel_rfl) (fun _ _ _ h => h) (Or.inr ⟨by rfl, rfl⟩) (by assumption) ?_
                    try simp only [Act.put, List.setIfInBounds_toArray, List.set_cons_zero, List.set_cons_succ]
                    refine wpAnyH_take (i := 24) (oi := { dst := some 112, op := Go.Op.load 33 (Go.Operand.tmp 111), type := 33, pos := "apart.go:423", after := #[{ on := 23, ground := Go.Ground.data }, { on := 20, ground := Go.Ground.guard }], guard := some (20, true) }) (v := undef) rfl (by kernel_rfl) (by kernel_rfl) (by kernel_rfl) (fun _ _ _ h => h) (Or.inr ⟨by rfl, rfl⟩) (by assumption) ?_
                    try simp only [Act.put, List.setIfInBounds_toArray, List.set_cons_zero, List.set_cons_succ]
                    refine wpAnyH_take (i := 25) (oi := { dst := some 113, op := Go.Op.move (Go.Operand.tmp 10), type := 3, pos := "apart.go:423", after := #[{ on := 20, ground := Go.Ground.guard }], guard := some (20, true) }) (v := undef) rfl (by kernel_rfl) (by kernel_rfl) (by kernel_rfl) (fun _ _ _ h => h) (Or.inr ⟨by rfl, rfl⟩) (by assumption) ?_
                    try simp only [Act.put, List.setIfInBounds_toArray, List.set_cons_zero, List.set_cons_succ]
                    refine wpAnyH_take (i := 26) (oi := { dst := some 114, op := Go.Op.indexAddr 33 (Go.Operand.tmp 112) (Go.Operand.tmp 113), type := 0, pos := "apart.go:423", after := #[{ on := 24, ground := Go.Ground.data }, { on := 25, ground := Go.Ground.data }, { on := 20, ground := Go.Ground.guard }], guard := some (20, true) }) (v := undef) rfl (by kernel_rfl) (by kernel_rfl) (by kernel_rfl) (fun _ _ _ h => h) (Or.inr ⟨by rfl, rfl⟩) (by assumption) ?_
                    try simp only [Act.put, List.setIfInBounds_toArray, List.set_cons_zero, List.set_cons_succ]
                    refine wpAnyH_take (i := 27) (oi := { dst := some 115, op := Go.Op.load 64 (Go.Operand.tmp 114), type := 64, pos := "apart.go:423", after := #[{ on := 26, ground := Go.Ground.data }, { on := 20, ground := Go.Ground.guard }], guard := some (20, true) }) (v := undef) rfl (by kernel_rfl) (by kernel_rfl) (by kernel_rfl) (fun _ _ _ h => h) (Or.inr ⟨by rfl, rfl⟩) (by assumption) ?_
                    try simp only [Act.put, List.setIfInBounds_toArray, List.set_cons_zero, List.set_cons_succ]
                    refine wpAnyH_take (i := 28) (oi := { dst := some 116, op := Go.Op.move (Go.Operand.tmp 9), type := 3, pos := "apart.go:423", after := #[{ on := 20, ground := Go.Ground.guard }], guard := some (20, true) }) (v := undef) rfl (by kernel_rfl) (by kernel_rfl) (by kernel_rfl) (fun _ _ _ h => h) (Or.inr ⟨by rfl, rfl⟩) (by assumption) ?_
                    try simp only [Act.put, List.setIfInBounds_toArray, List.set_cons_zero, List.set_cons_succ]
                    refine wpAnyH_take (i := 29) (oi := { dst := some 117, op := Go.Op.move (Go.Operand.tmp 10), type := 3, pos := "apart.go:423", after := #[{ on := 20, ground := Go.Ground.guard }], guard := some (20, true) }) (v := undef) rfl (by kernel_rfl) (by kernel_rfl) (by kernel_rfl) (fun _ _ _ h => h) (Or.inr ⟨by rfl, rfl⟩) (by assumption) ?_
                    try simp only [Act.put, List.setIfInBounds_toArray, List.set_cons_zero, List.set_cons_succ]
                    refine wpAnyH_take (i := 30) (oi := { dst := some 118, op := Go.Op.call { callee := Go.Callee.value (Go.Operand.func 83), args := #[Go.Operand.tmp 116, Go.Operand.tmp 117], argTypes := #[3, 3] }, type := 64, pos := "apart.go:423", after := #[{ on := 28, ground := Go.Ground.data }, { on := 29, ground := Go.Ground.data }, { on := 20, ground := Go.Ground.chain }, { on := 20, ground := Go.Ground.guard }], guard := some (20, true) }) (v := undef) rfl (by kernel_rfl) (by kernel_rfl) (by kernel_rfl) (fun _ _ _ h => h) (Or.inr ⟨by rfl, rfl⟩) (by assumption) ?_
                    try simp only [Act.put, List.setIfInBounds_toArray, List.set_cons_zero, List.set_cons_succ]
                    refine wpAnyH_take (i := 31) (oi := { dst := some 119, op := Go.Op.binOp Go.BinOp.eql 64 (Go.Operand.tmp 115) (Go.Operand.tmp 118) 64, type := 4, pos := "apart.go:423", after := #[{ on := 27, ground := Go.Ground.data }, { on := 30, ground := Go.Ground.data }, { on := 20, ground := Go.Ground.guard }], guard := some (20, true) }) (v := undef) rfl (by kernel_rfl) (by kernel_rfl) (by kernel_rfl) (fun _ _ _ h => h) (Or.inr ⟨by rfl, rfl⟩) (by assumption) ?_
                    try simp only [Act.put, List.setIfInBounds_toArray, List.set_cons_zero, List.set_cons_succ]
                    refine wpAnyH_take (i := 32) (oi := { dst := some 120, op := Go.Op.unOp Go.UnOp.not 4 (Go.Operand.tmp 119), type := 4, pos := "apart.go:423", after := #[{ on := 31, ground := Go.Ground.data }, { on := 20, ground := Go.Ground.guard }], guard := some (20, true) }) (v := undef) rfl (by kernel_rfl) (by kernel_rfl) (by kernel_rfl) (fun _ _ _ h => h) (Or.inr ⟨by rfl, rfl⟩) (by assumption) ?_
                    try simp only [Act.put, List.setIfInBounds_toArray, List.set_cons_zero, List.set_cons_succ]
                    refine wpAnyH_take (i := 33) (oi := { dst := some 121, op := Go.Op.pick (Go.Operand.tmp 108) (Go.Operand.tmp 120) (Go.Operand.const (Go.Value.bool false)), type := 4, pos := "apart.go:423", after := #[{ on := 20, ground := Go.Ground.data }, { on := 32, ground := Go.Ground.data }, { on := 12, ground := Go.Ground.guard }], guard := some (12, false) }) (v := ?_) rfl (by kernel_rfl) (by kernel_rfl) (by kernel_rfl) (fun _ _ _ h => h) (Or.inl ⟨by rfl, ?_⟩) (by assumption) ?_
                    rotate_left
                    · (intro w hSw; (try dsimp only at hSw); (go_simp <;> with_reducible rfl))
                    try simp only [Act.put, List.setIfInBounds_toArray, List.set_cons_zero, List.set_cons_succ]
                    refine wpAnyH_take (i := 34) (oi := { dst := some 122, op := Go.Op.pick (Go.Operand.tmp 100) (Go.Operand.const (Go.Value.bool true)) (Go.Operand.tmp 121), type := 4, pos := "apart.go:423", after := #[{ on := 12, ground := Go.Ground.data }, { on := 33, ground := Go.Ground.data }], guard := none }) (v := ?_) rfl (by kernel_rfl) (by kernel_rfl) (by kernel_rfl) (fun _ _ _ h => h) (Or.inl ⟨by rfl, ?_⟩) (by assumption) ?_
                    rotate_left
                    · (intro w hSw; (try dsimp only at hSw); (go_simp <;> with_reducible rfl))
                    try simp only [Act.put, List.setIfInBounds_toArray, List.set_cons_zero, List.set_cons_succ]
                    refine wpAnyH_done (by kernel_rfl) ?_ _
                    clear hHeld hS2 hS5 hcg hcl e0 e1
                    go_wp2
                    go_roundg (gk - 1)
                    case measure => omega
                    case rel => exact ⟨t + 1, by omega, by go_num, HQ.out.1.kept Z1.out, HQ.out.2.1.kept Z1.out, HQ.out.2.2.new Z1.out, Nat.le_trans hBz Z1.out.size⟩
                · have ht1 : ¬ (t : Int) < ((n j + 64 : Nat) : Int) := by omega
                  have HQ := hide (And.intro hF (And.intro hGl hG))
                  obtain ⟨nj, hnj⟩ : ∃ x, x = n j := ⟨_, rfl⟩
                  rw [← hnj] at hcl hcg ht1
                  clear hF hGl hG hv hu HS hnb hncu hnj hcl
                  go_wp2
                  go_roundg (K - (j + 1))
                  case measure => omega
                  case rel => exact ⟨j + 1, by omega, by go_num, HQ.out.1, HQ.out.2.1, HQ.out.2.2, hBz⟩
            · have hjK1 : ¬ (j : Int) < (K : Int) := by omega
              have H3 := hide (And.intro hF (And.intro hGl.gs (And.intro hGl.ne hG)))
              clear hF hGl hG
              have hm64 := make_many
              go_wp2
              go_loopg [11, 12, 13] K (fun q i _ _ wx => ∃ (j : Nat) (u : Nat → Value), q + j = K ∧ i = .int .i64 j ∧ Fl wx B K (.slice (some ⟨L, 0, none⟩) K cap) v n (fun k => fv (marks (k : Int) (n k))) ∧ Gl wx B K (.slice (some ⟨G, 0, none⟩) K K) (.slice (some ⟨L, 0, none⟩) K cap) v u n j (fun k => fv (marks (k : Int) (n k) ++ marks ((k + K : Nat) : Int) 64)) ∧ Kp T w0 wx bb cb ∧ B ≤ wx.heap.size)
              case atStart => exact ⟨0, u, by omega, rfl, H3.out.1, ⟨H3.out.2.1, H3.out.2.2.1, (fun k hk => by omega), (fun i k hi => by omega), (fun i k hi => by omega)⟩, H3.out.2.2.2, hBy⟩
              case round =>
                obtain ⟨j, u, hgj, rfl, hF, hGl, hG, hBy⟩ := hrel
                clear H3
                by_cases hk : 0 < gk
                · have hj : j < K := by omega
                  have hjK : (j : Int) < (K : Int) := by omega
                  have HS := hide (And.intro hF (And.intro hGl hG))
                  obtain ⟨S, hS⟩ : ∃ S, S = wr.heap.size := ⟨_, rfl⟩
                  have HSe : Hid (∃ wS, Fl wS B K (.slice (some ⟨L, 0, none⟩) K cap) v n (fun k => fv (marks (k : Int) (n k))) ∧ Gl wS B K (.slice (some ⟨G, 0, none⟩) K K) (.slice (some ⟨L, 0, none⟩) K cap) v u n j (fun k => fv (marks (k : Int) (n k) ++ marks ((k + K : Nat) : Int) 64)) ∧ wS.heap.size ≤ S) := ⟨wr, hF, hGl, Nat.le_of_eq hS.symm⟩
                  have hBS : B ≤ S := by omega
                  have hS0 : w0.heap.size ≤ S := by rw [hS]; exact hG.1.size
                  have HSq := hide hS
                  clear hF hGl hG hS
                  go_wp2
                  rw [← HSq.out]
                  go_loopg [13] 64 (fun q i wx => ∃ t : Nat, q + t = 64 ∧ i = .int .i64 t ∧ wx.ownsRow S 64 2 (.slice (some ⟨S, 0, none⟩) 64 64) 64 (fv (marks ((j + K : Nat) : Int) t ++ List.replicate (64 - t) 0)) ∧ Fl wx B K (.slice (some ⟨L, 0, none⟩) K cap) v n (fun k => fv (marks (k : Int) (n k))) ∧ Gl wx B K (.slice (some ⟨G, 0, none⟩) K K) (.slice (some ⟨L, 0, none⟩) K cap) v u n j (fun k => fv (marks (k : Int) (n k) ++ marks ((k + K : Nat) : Int) 64)) ∧ Kp T w0 wx bb cb ∧ S + 1 ≤ wx.heap.size)
                  case atStart =>
                    obtain ⟨hF, hGl, hG⟩ := HS.out
                    have ga := World.grownBy_alloc wr (Obj.cells (fv (List.replicate 64 0)).toArray 64) none
                    refine ⟨0, rfl, rfl, ?_, hF.kept ga, hGl.kept ga, hG.new ga, by rw [HSq.out]; simp⟩
                    have h := World.ownsRow_lit (base := S) (e := 64) (size := 2) wr (fv (List.replicate 64 0)).toArray 64 (Nat.le_of_eq HSq.out) (by unfold maxLen; omega) (by simp [fv_length])
                    rw [← HSq.out] at h
                    have e : fv (List.replicate 64 0) = fv (marks ((j + K : Nat) : Int) 0 ++ List.replicate (64 - 0) 0) := by simp [marks]
                    rw [← e]
                    simpa using h
                  case round =>
                    obtain ⟨t, hgt, rfl, hmany, hF, hGl, hG, hsz⟩ := hrel
                    clear HS HSq
                    by_cases hk2 : 0 < gk
                    · have ht1 : (t : Int) < 64 := by omega
                      have hml : (marks ((j + K : Nat) : Int) t).length = t := marks_length _ _
                      obtain ⟨e0, e1⟩ := own3_mark hmany (t := t) (m := 0) (by omega) (by rw [List.getElem?_append_right (by omega), hml, Nat.sub_self, List.getElem?_replicate, if_pos (by omega)])
                      have HM : Hid (∀ w, Calls Tryz.prog 83 #[.int .i64 ((j : Int) + (K : Int)), .int .i64 (t : Int)] w fun e w' => e = .returned (fmV (mkN ((j + K : Nat) : Int) t)) ∧ w.grownBy w' none) := fun w => by
                        rw [show (j : Int) + (K : Int) = ((j + K : Nat) : Int) by omega]
                        exact markSpan_any ((j + K : Nat) : Int) t w (by omega) (by omega) (by omega)
                      have hset : put3 (fv (marks ((j + K : Nat) : Int) t ++ List.replicate (64 - t) 0)) (t * 2) (mkN ((j + K : Nat) : Int) t) = fv (marks ((j + K : Nat) : Int) (t + 1) ++ List.replicate (64 - (t + 1)) 0) := by
                        rw [fv_append, show 64 - t = (64 - (t + 1)) + 1 by omega, List.replicate_succ, fv_cons, marks_succ, List.append_assoc, fv_append, fv_append, fv_one]
                        rw [show fv (marks ((j + K : Nat) : Int) t) ++ (fm 0 ++ fv (List.replicate (64 - (t + 1)) 0)) = fv (marks ((j + K : Nat) : Int) t) ++ .int .i64 ((0 : Nat) : Int) :: .int .i64 0 :: fv (List.replicate (64 - (t + 1)) 0) from rfl]
                        rw [put3_append _ _ _ _ _ _ (by rw [fv_length, hml]), List.append_assoc]
                      have HQ := hide (And.intro hmany (And.intro hF (And.intro hGl (And.intro hG (And.intro hset (And.intro e0 e1))))))
                      generalize mkN ((j + K : Nat) : Int) t = mk at *
                      clear hmany hF hGl hG hml hset e0 e1
                      unfold fmV at HM
                      go_wp2_with fail
                      refine (HM.out _).mono ?_
                      rintro e wA ⟨rfl, gA⟩
                      have e0 := gA.cell HQ.out.2.2.2.2.2.1 (by simp)
                      have e1 := gA.cell HQ.out.2.2.2.2.2.2 (by simp)
                      have hmA := HQ.out.1.kept gA (Or.inr (by simp [Value.ownBlock]))
                      have f0 := hmA.frozenAt (t * 2)
                      have f1 := hmA.frozenAt (t * 2 + 1)
                      have RA := hide (And.intro gA hmA)
                      clear gA hmA
                      go_wp2
                      go_roundg (gk - 1)
                      case measure => omega
                      case rel =>
                        obtain ⟨-, hF, hGl, hG, hset, -⟩ := HQ.out
                        obtain ⟨gA, hmany⟩ := RA.out
                        obtain ⟨wS, hFS, hGS, hS⟩ := HSe.out
                        have hst := stored3 hmany (t * 2) mk
                        refine ⟨t + 1, by omega, by go_num, ?_, (hF.kept gA).fresh hFS hS hst.2, (hGl.kept gA).fresh hGS hS hst.2, (hG.new gA).step hst.2 (fun k e => by cases e; exact Or.inl hS0) (own_bag hmany (hG.new gA).2 (by decide)), Nat.le_trans hsz (Nat.le_trans gA.size hst.2.size)⟩
                        rw [← hset]; exact hst.1
                    · have ht : t = 64 := by omega
                      have ht1 : ¬ (t : Int) < 64 := by omega
                      subst ht
                      rw [show 64 - 64 = 0 by omega, List.replicate_zero, List.append_nil] at hmany
                      have hatm := hmany.cells (g := S) rfl
                      have hcl := hF.cell hj
                      obtain ⟨ao, c, hv⟩ := own_len (hF.row j hj)
                      rw [hv] at hcl
                      have hrow := hF.row j hj
                      rw [hv] at hrow
                      have hcg : ∀ w', wr.grownBy w' (v j).ownBlock → w'.cell? ⟨G, j, none⟩ = some (u j) ∧ w'.frozen? ⟨G, j, none⟩ = false := by
                        intro w' hg'
                        have h := hGl.gs.kept hg' (Ap.own_ne hGl.gs (hF.row j hj) (by decide))
                        exact ⟨by rw [h.cellAt j (by omega)]; simp [hj], h.frozenAt j⟩
                      have hnb := HN.out j hj
                      have HQ := hide (And.intro hF (And.intro hGl (And.intro hG (And.intro hv (And.intro hatm (And.intro hrow (And.intro hcg (marks_length ((j + K : Nat) : Int) 64))))))))
                      obtain ⟨nj, hnj⟩ : ∃ x, x = n j := ⟨_, rfl⟩
                      rw [← hnj] at hcl hnb
                      have HNJ := hide hnj
                      clear hF hGl hG hv hatm hrow hcg hmany hnj HSe
                      go_wp2_with (at_builtin; refine wpList_append_keep rfl (.tmp 148) (.tmp 149) rfl B (.slice ao nj c) nj (fv (marks (j : Int) nj)) rfl (by rw [HNJ.out]; exact HQ.out.2.2.2.2.2.1) ⟨S, 0, none⟩ 64 64 (marks ((j + K : Nat) : Int) 64) rfl HQ.out.2.2.2.2.2.2.2 (by decide) HQ.out.2.2.2.2.1 (by omega) (by omega) ?_)
                      intro v' w' hown' hkeep hgr hnew
                      rw [HNJ.out] at hown' hkeep hgr hnew
                      obtain ⟨hF, hGl, hG, hv, hatm, hrow, hcg, -⟩ := HQ.out
                      rw [← hv] at hkeep hgr hnew
                      obtain ⟨hc1, hc2⟩ := hcg w' hgr
                      have hstep := grow_step (g' := v') hF hGl hj hF hGl (Nat.le_refl _) (Nat.le_refl _) (hF.row j hj) (Or.inl rfl) (Nat.le_refl _) (by rw [List.take_of_length_le (by rw [fv_length, marks_length]; exact Nat.le_refl _)]) hkeep hgr hnew
                      rw [← fv_append] at hown'
                      have hput := hstep.2.1.put hstep.1 hj hF hGl (Nat.le_refl _) hstep.2.2 hown'
                      obtain ⟨ax, cx, hxv⟩ := own_len hown'
                      subst hxv
                      have hG1 : Kp T w0 w' bb cb := hG.step hgr (fun k e => HT.out j hj k e) (own_bag (hF.row j hj) hG.2 (by decide))
                      have hG' : Kp T w0 (w'.setCell ⟨G, j, none⟩ (.slice ax (n j + 64) cx)) bb cb := hG1.step hput.2.2 (fun k e => by cases e; exact Or.inl hGw) (own_bag hstep.2.1.gs hG1.2 (by decide))
                      have HQ2 := hide (And.intro hput.1 (And.intro hput.2.1 (And.intro hG' (Nat.le_trans (Nat.le_trans (show B ≤ wr.heap.size by omega) hgr.size) hput.2.2.size))))
                      generalize u j = uj at *
                      clear hF hGl hG hv hatm hrow hcg hstep hput hG1 hG' hown' hkeep hgr hnew HQ HNJ hcl
                      go_wp2
                      go_roundg (K - (j + 1))
                      case measure => omega
                      case rel => exact ⟨j + 1, _, by omega, by go_num, HQ2.out.1, HQ2.out.2.1, HQ2.out.2.2.1, HQ2.out.2.2.2⟩
                · have hjK : j = K := by omega
                  have hjK1 : ¬ (j : Int) < (K : Int) := by omega
                  rw [hjK] at hGl
                  have H4 := hide (And.intro hF (And.intro hGl hG))
                  clear hF hGl hG hjK hm64
                  go_wp2
                  go_loopg [14, 15] K (fun q i _ wx => ∃ j : Nat, q + j = K ∧ i = .int .i64 j ∧ Fl wx B K (.slice (some ⟨L, 0, none⟩) K cap) v n (fun k => fv (marks (k : Int) (n k))) ∧ Gl wx B K (.slice (some ⟨G, 0, none⟩) K K) (.slice (some ⟨L, 0, none⟩) K cap) v u n K (fun k => fv (marks (k : Int) (n k) ++ marks ((k + K : Nat) : Int) 64)) ∧ Kp T w0 wx bb cb)
                  case atStart => exact ⟨0, by omega, rfl, H4.out.1, H4.out.2.1, H4.out.2.2⟩
                  case round =>
                    obtain ⟨j, hgj, rfl, hF, hGl, hG⟩ := hrel
                    clear H4
                    by_cases hk : 0 < gk
                    · have hj : j < K := by omega
                      have hjK : (j : Int) < (K : Int) := by omega
                      obtain ⟨ao, c, hv⟩ := own_len (hF.row j hj)
                      obtain ⟨gu, cu, hu, hBu, hncu, hcmu⟩ := own_place (hGl.row j hj) (by omega)
                      have HS := hide (And.intro hF (And.intro hGl (And.intro hG (And.intro hv hu))))
                      clear hF hGl hG hv hu
                      go_wp2
                      go_loopg [15] (n j) (fun q i wx => ∃ t : Nat, q + t = n j ∧ i = .int .i64 t ∧ Fl wx B K (.slice (some ⟨L, 0, none⟩) K cap) v n (fun k => fv (marks (k : Int) (n k))) ∧ Gl wx B K (.slice (some ⟨G, 0, none⟩) K K) (.slice (some ⟨L, 0, none⟩) K cap) v u n K (fun k => fv (marks (k : Int) (n k) ++ marks ((k + K : Nat) : Int) 64)) ∧ Kp T w0 wx bb cb)
                      case atStart => exact ⟨0, by omega, rfl, HS.out.1, HS.out.2.1, HS.out.2.2.1⟩
                      case round =>
                        obtain ⟨t, hgt, rfl, hF, hGl, hG⟩ := hrel
                        obtain ⟨-, -, -, hv, hu⟩ := HS.out
                        have hcl := hF.cell hj
                        have hcg : wr.cell? ⟨G, j, none⟩ = some (u j) := by rw [hGl.gs.cellAt j (by omega)]; simp [hj]
                        rw [hv] at hcl
                        rw [hu] at hcg
                        have hnb := HN.out j hj
                        by_cases hk2 : 0 < gk
                        · have hrowg := hGl.row j hj
                          rw [hu] at hrowg
                          obtain ⟨e0, e1⟩ := own3_mark hrowg (t := t) (by omega) (show _ = some (mkN (j : Int) t) by rw [List.getElem?_append_left (by rw [marks_length]; omega)]; exact marks_get (j : Int) (n j) t (by omega))
                          have HM := hide (fun w => markSpan_any (j : Int) t w (by omega) (by omega) (by omega))
                          have ht1 : (t : Int) < ((n j + 64 : Nat) : Int) := by omega
                          unfold maxLen at hcmu
                          have hrowv := hF.row j hj
                          obtain ⟨gv, cv, hv2, _, _, _⟩ := own_place hrowv (by omega)
                          rw [hv2] at hrowv
                          obtain ⟨d0, d1⟩ := own3_mark hrowv (t := t) (by omega) (marks_get (j : Int) (n j) t (by omega))
                          rw [hv] at hv2
                          cases hv2
                          have htn1 : (t : Int) < (n j : Int) := by omega
                          have HQ := hide (And.intro hF (And.intro hGl hG))
                          generalize mkN (j : Int) t = mk at *
                          obtain ⟨nj, hnj⟩ : ∃ x, x = n j := ⟨_, rfl⟩
                          rw [← hnj] at hcl hcg ht1 htn1 hnb
                          have hd1 : decide ((t : Int) < (nj : Int)) = true := by simp; omega
                          have hd2 : decide (t < nj) = true := by simp; omega
                          have hS8 := And.intro hcg (And.intro e0 (And.intro e1 (And.intro hcl (And.intro d0 d1))))
                          have ht2 : (t : Int) < (nj : Int) + 64 := by omega
                          have ht3 : t < nj + 64 := by omega
                          have ht0 : (0 : Int) ≤ (t : Int) := by omega
                          clear hF hGl hG hv hu hrowg hrowv hnj
                          unfold fmV at HM
                          go_wp2_with fail
                          refine wp_region_held_drew (S := (fun w' => w'.cell? ⟨G, j, none⟩ = some (.slice (some ⟨gu, 0, none⟩) (nj + 64) cu) ∧ w'.cell? ⟨gu, t * 2, none⟩ = some (.int .i64 (mk : Int)) ∧ w'.cell? ⟨gu, t * 2 + 1, none⟩ = some (.int .i64 0) ∧ w'.cell? ⟨L, j, none⟩ = some (.slice (some ⟨gv, 0, none⟩) nj c) ∧ w'.cell? ⟨gv, t * 2, none⟩ = some (.int .i64 (mk : Int)) ∧ w'.cell? ⟨gv, t * 2 + 1, none⟩ = some (.int .i64 0))) (by kernel_rfl) ?_ (fun hHeld => ?_)
                          · (exact hS8)
                          refine wpAnyH_take (i := 0) (oi := { dst := some 167, op := Go.Op.move (Go.Operand.tmp 0), type := 43, pos := "apart.go:437", after := #[], guard := none }) (v := ?_) rfl (by kernel_rfl) (by kernel_rfl) (by kernel_rfl) (fun _ _ _ h => h) (Or.inl ⟨by rfl, ?_⟩) (by assumption) ?_
                          rotate_left
                          · (intro w hSw; (try dsimp only at hSw); (go_simp <;> with_reducible rfl))
                          try simp only [Act.put, List.setIfInBounds_toArray, List.set_cons_zero, List.set_cons_succ]
                          refine wpAnyH_take (i := 1) (oi := { dst := some 168, op := Go.Op.move (Go.Operand.tmp 14), type := 3, pos := "apart.go:437", after := #[], guard := none }) (v := ?_) rfl (by kernel_rfl) (by kernel_rfl) (by kernel_rfl) (fun _ _ _ h => h) (Or.inl ⟨by rfl, ?_⟩) (by assumption) ?_
                          rotate_left
                          · (intro w hSw; (try dsimp only at hSw); (go_simp <;> with_reducible rfl))
                          try simp only [Act.put, List.setIfInBounds_toArray, List.set_cons_zero, List.set_cons_succ]
                          refine wpAnyH_take (i := 2) (oi := { dst := some 169, op := Go.Op.indexAddr 43 (Go.Operand.tmp 167) (Go.Operand.tmp 168), type := 0, pos := "apart.go:437", after := #[{ on := 0, ground := Go.Ground.data }, { on := 1, ground := Go.Ground.data }], guard := none }) (v := ?_) rfl (by kernel_rfl) (by kernel_rfl) (by kernel_rfl) (fun _ _ _ h => h) (Or.inl ⟨by rfl, ?_⟩) (by assumption) ?_
                          rotate_left
                          · (intro w hSw; (try dsimp only at hSw); (go_simp <;> with_reducible rfl))
                          try simp only [Act.put, List.setIfInBounds_toArray, List.set_cons_zero, List.set_cons_succ]
                          refine wpAnyH_take (i := 3) (oi := { dst := some 170, op := Go.Op.load 33 (Go.Operand.tmp 169), type := 33, pos := "apart.go:437", after := #[{ on := 2, ground := Go.Ground.data }], guard := none }) (v := ?_) rfl (by kernel_rfl) (by kernel_rfl) (by kernel_rfl) (fun _ _ _ h => h) (Or.inl ⟨by rfl, ?_⟩) (by assumption) ?_
                          rotate_left
                          · (intro w hSw; (try dsimp only at hSw); (go_simp <;> with_reducible rfl))
                          try simp only [Act.put, List.setIfInBounds_toArray, List.set_cons_zero, List.set_cons_succ]
                          refine wpAnyH_take (i := 4) (oi := { dst := some 171, op := Go.Op.move (Go.Operand.tmp 15), type := 3, pos := "apart.go:437", after := #[], guard := none }) (v := ?_) rfl (by kernel_rfl) (by kernel_rfl) (by kernel_rfl) (fun _ _ _ h => h) (Or.inl ⟨by rfl, ?_⟩) (by assumption) ?_
                          rotate_left
                          · (intro w hSw; (try dsimp only at hSw); (go_simp <;> with_reducible rfl))
                          try simp only [Act.put, List.setIfInBounds_toArray, List.set_cons_zero, List.set_cons_succ]
                          refine wpAnyH_take (i := 5) (oi := { dst := some 172, op := Go.Op.indexAddr 33 (Go.Operand.tmp 170) (Go.Operand.tmp 171), type := 0, pos := "apart.go:437", after := #[{ on := 3, ground := Go.Ground.data }, { on := 4, ground := Go.Ground.data }], guard := none }) (v := ?_) rfl (by kernel_rfl) (by kernel_rfl) (by kernel_rfl) (fun _ _ _ h => h) (Or.inl ⟨by rfl, ?_⟩) (by assumption) ?_
                          rotate_left
                          · (intro w hSw; (try dsimp only at hSw); (go_simp <;> with_reducible rfl))
                          try simp only [Act.put, List.setIfInBounds_toArray, List.set_cons_zero, List.set_cons_succ]
                          refine wpAnyH_take (i := 6) (oi := { dst := some 173, op := Go.Op.load 64 (Go.Operand.tmp 172), type := 64, pos := "apart.go:437", after := #[{ on := 5, ground := Go.Ground.data }], guard := none }) (v := ?_) rfl (by kernel_rfl) (by kernel_rfl) (by kernel_rfl) (fun _ _ _ h => h) (Or.inl ⟨by rfl, ?_⟩) (by assumption) ?_
                          rotate_left
                          · (intro w hSw; (try dsimp only at hSw); (go_simp <;> with_reducible rfl))
                          try simp only [Act.put, List.setIfInBounds_toArray, List.set_cons_zero, List.set_cons_succ]
                          refine wpAnyH_take (i := 7) (oi := { dst := some 174, op := Go.Op.move (Go.Operand.tmp 14), type := 3, pos := "apart.go:437", after := #[], guard := none }) (v := ?_) rfl (by kernel_rfl) (by kernel_rfl) (by kernel_rfl) (fun _ _ _ h => h) (Or.inl ⟨by rfl, ?_⟩) (by assumption) ?_
                          rotate_left
                          · (intro w hSw; (try dsimp only at hSw); (go_simp <;> with_reducible rfl))
                          try simp only [Act.put, List.setIfInBounds_toArray, List.set_cons_zero, List.set_cons_succ]
                          refine wpAnyH_take (i := 8) (oi := { dst := some 175, op := Go.Op.move (Go.Operand.tmp 15), type := 3, pos := "apart.go:437", after := #[], guard := none }) (v := ?_) rfl (by kernel_rfl) (by kernel_rfl) (by kernel_rfl) (fun _ _ _ h => h) (Or.inl ⟨by rfl, ?_⟩) (by assumption) ?_
                          rotate_left
                          · (intro w hSw; (try dsimp only at hSw); (go_simp <;> with_reducible rfl))
                          try simp only [Act.put, List.setIfInBounds_toArray, List.set_cons_zero, List.set_cons_succ]
                          refine wpAnyH_ready (rs := [9]) (by kernel_rfl) (by simp) ?_
                          refine AllReadyH.cons (o := { dst := some 176, op := Go.Op.call { callee := Go.Callee.value (Go.Operand.func 83), args := #[Go.Operand.tmp 174, Go.Operand.tmp 175], argTypes := #[3, 3] }, type := 64, pos := "apart.go:437", after := #[{ on := 7, ground := Go.Ground.data }, { on := 8, ground := Go.Ground.data }], guard := none }) rfl (fun K hK => ?_) ?_
                          rotate_left
                          · exact AllReadyH.nil
                          go_simp
                          refine (HM.out _).mono ?_
                          rintro e w2 ⟨rfl, g2⟩
                          have Z0 := hide (grown_trans (grown_drew wr none) g2)
                          have hS2 := keep6 Z0.out hS8
                          clear g2
                          go_wp2_with fail
                          refine hK.out _ _ ?_ (fun hHeld => ?_)
                          · ((try dsimp only); first | assumption | go_keep)
                          clear hK K
                          try simp only [Act.put, List.setIfInBounds_toArray, List.set_cons_zero, List.set_cons_succ]
                          refine wpAnyH_take (i := 10) (oi := { dst := some 177, op := Go.Op.binOp Go.BinOp.eql 64 (Go.Operand.tmp 173) (Go.Operand.tmp 176) 64, type := 4, pos := "apart.go:437", after := #[{ on := 6, ground := Go.Ground.data }, { on := 9, ground := Go.Ground.data }], guard := none }) (v := ?_) rfl (by kernel_rfl) (by kernel_rfl) (by kernel_rfl) (fun _ _ _ h => h) (Or.inl ⟨by rfl, ?_⟩) (by assumption) ?_
                          rotate_left
                          · (intro w hSw; refine eq_op (x := .tmp 173) (y := .tmp 176) (p := (mk : Int)) (z := 0) ?_ ?_ ?_ w <;> rfl)
                          try simp only [Act.put, List.setIfInBounds_toArray, List.set_cons_zero, List.set_cons_succ]
                          refine wpAnyH_take (i := 11) (oi := { dst := some 178, op := Go.Op.unOp Go.UnOp.not 4 (Go.Operand.tmp 177), type := 4, pos := "apart.go:437", after := #[{ on := 10, ground := Go.Ground.data }], guard := none }) (v := ?_) rfl (by kernel_rfl) (by kernel_rfl) (by kernel_rfl) (fun _ _ _ h => h) (Or.inl ⟨by rfl, ?_⟩) (by assumption) ?_
                          rotate_left
                          · (intro w hSw; (try dsimp only at hSw); (go_simp <;> with_reducible rfl))
                          try simp only [Act.put, List.setIfInBounds_toArray, List.set_cons_zero, List.set_cons_succ]
                          refine wpAnyH_take (i := 12) (oi := { dst := some 179, op := Go.Op.move (Go.Operand.tmp 178), type := 4, pos := "apart.go:437", after := #[{ on := 11, ground := Go.Ground.data }, { on := 9, ground := Go.Ground.chain }], guard := none }) (v := ?_) rfl (by kernel_rfl) (by kernel_rfl) (by kernel_rfl) (fun _ _ _ h => h) (Or.inl ⟨by rfl, ?_⟩) (by assumption) ?_
                          rotate_left
                          · (intro w hSw; (try dsimp only at hSw); (go_simp <;> with_reducible rfl))
                          try simp only [Act.put, List.setIfInBounds_toArray, List.set_cons_zero, List.set_cons_succ]
                          refine wpAnyH_take (i := 13) (oi := { dst := some 180, op := Go.Op.move (Go.Operand.tmp 5), type := 43, pos := "apart.go:437", after := #[{ on := 12, ground := Go.Ground.guard }], guard := some (12, false) }) (v := ?_) rfl (by kernel_rfl) (by kernel_rfl) (by kernel_rfl) (fun _ _ _ h => h) (Or.inl ⟨by rfl, ?_⟩) (by assumption) ?_
                          rotate_left
                          · (intro w hSw; (try dsimp only at hSw); (go_simp <;> with_reducible rfl))
                          try simp only [Act.put, List.setIfInBounds_toArray, List.set_cons_zero, List.set_cons_succ]
                          refine wpAnyH_take (i := 14) (oi := { dst := some 181, op := Go.Op.move (Go.Operand.tmp 14), type := 3, pos := "apart.go:437", after := #[{ on := 12, ground := Go.Ground.guard }], guard := some (12, false) }) (v := ?_) rfl (by kernel_rfl) (by kernel_rfl) (by kernel_rfl) (fun _ _ _ h => h) (Or.inl ⟨by rfl, ?_⟩) (by assumption) ?_
                          rotate_left
                          · (intro w hSw; (try dsimp only at hSw); (go_simp <;> with_reducible rfl))
                          try simp only [Act.put, List.setIfInBounds_toArray, List.set_cons_zero, List.set_cons_succ]
                          refine wpAnyH_take (i := 15) (oi := { dst := some 182, op := Go.Op.indexAddr 43 (Go.Operand.tmp 180) (Go.Operand.tmp 181), type := 0, pos := "apart.go:437", after := #[{ on := 13, ground := Go.Ground.data }, { on := 14, ground := Go.Ground.data }, { on := 12, ground := Go.Ground.guard }], guard := some (12, false) }) (v := ?_) rfl (by kernel_rfl) (by kernel_rfl) (by kernel_rfl) (fun _ _ _ h => h) (Or.inl ⟨by rfl, ?_⟩) (by assumption) ?_
                          rotate_left
                          · (intro w hSw; (try dsimp only at hSw); (go_simp <;> with_reducible rfl))
                          try simp only [Act.put, List.setIfInBounds_toArray, List.set_cons_zero, List.set_cons_succ]
                          refine wpAnyH_take (i := 16) (oi := { dst := some 183, op := Go.Op.load 33 (Go.Operand.tmp 182), type := 33, pos := "apart.go:437", after := #[{ on := 15, ground := Go.Ground.data }, { on := 12, ground := Go.Ground.guard }], guard := some (12, false) }) (v := ?_) rfl (by kernel_rfl) (by kernel_rfl) (by kernel_rfl) (fun _ _ _ h => h) (Or.inl ⟨by rfl, ?_⟩) (by assumption) ?_
                          rotate_left
                          · (intro w hSw; (try dsimp only at hSw); (go_simp <;> with_reducible rfl))
                          try simp only [Act.put, List.setIfInBounds_toArray, List.set_cons_zero, List.set_cons_succ]
                          refine wpAnyH_take (i := 17) (oi := { dst := some 184, op := Go.Op.move (Go.Operand.tmp 15), type := 3, pos := "apart.go:437", after := #[{ on := 12, ground := Go.Ground.guard }], guard := some (12, false) }) (v := ?_) rfl (by kernel_rfl) (by kernel_rfl) (by kernel_rfl) (fun _ _ _ h => h) (Or.inl ⟨by rfl, ?_⟩) (by assumption) ?_
                          rotate_left
                          · (intro w hSw; (try dsimp only at hSw); (go_simp <;> with_reducible rfl))
                          try simp only [Act.put, List.setIfInBounds_toArray, List.set_cons_zero, List.set_cons_succ]
                          refine wpAnyH_take (i := 18) (oi := { dst := some 185, op := Go.Op.indexAddr 33 (Go.Operand.tmp 183) (Go.Operand.tmp 184), type := 0, pos := "apart.go:437", after := #[{ on := 16, ground := Go.Ground.data }, { on := 17, ground := Go.Ground.data }, { on := 12, ground := Go.Ground.guard }], guard := some (12, false) }) (v := ?_) rfl (by kernel_rfl) (by kernel_rfl) (by kernel_rfl) (fun _ _ _ h => h) (Or.inl ⟨by rfl, ?_⟩) (by assumption) ?_
                          rotate_left
                          · (intro w hSw; (try dsimp only at hSw); (go_simp <;> with_reducible rfl))
                          try simp only [Act.put, List.setIfInBounds_toArray, List.set_cons_zero, List.set_cons_succ]
                          refine wpAnyH_take (i := 19) (oi := { dst := some 186, op := Go.Op.load 64 (Go.Operand.tmp 185), type := 64, pos := "apart.go:437", after := #[{ on := 18, ground := Go.Ground.data }, { on := 12, ground := Go.Ground.guard }], guard := some (12, false) }) (v := ?_) rfl (by kernel_rfl) (by kernel_rfl) (by kernel_rfl) (fun _ _ _ h => h) (Or.inl ⟨by rfl, ?_⟩) (by assumption) ?_
                          rotate_left
                          · (intro w hSw; (try dsimp only at hSw); (go_simp <;> with_reducible rfl))
                          try simp only [Act.put, List.setIfInBounds_toArray, List.set_cons_zero, List.set_cons_succ]
                          refine wpAnyH_take (i := 20) (oi := { dst := some 187, op := Go.Op.move (Go.Operand.tmp 14), type := 3, pos := "apart.go:437", after := #[{ on := 12, ground := Go.Ground.guard }], guard := some (12, false) }) (v := ?_) rfl (by kernel_rfl) (by kernel_rfl) (by kernel_rfl) (fun _ _ _ h => h) (Or.inl ⟨by rfl, ?_⟩) (by assumption) ?_
                          rotate_left
                          · (intro w hSw; (try dsimp only at hSw); (go_simp <;> with_reducible rfl))
                          try simp only [Act.put, List.setIfInBounds_toArray, List.set_cons_zero, List.set_cons_succ]
                          refine wpAnyH_take (i := 21) (oi := { dst := some 188, op := Go.Op.move (Go.Operand.tmp 15), type := 3, pos := "apart.go:437", after := #[{ on := 12, ground := Go.Ground.guard }], guard := some (12, false) }) (v := ?_) rfl (by kernel_rfl) (by kernel_rfl) (by kernel_rfl) (fun _ _ _ h => h) (Or.inl ⟨by rfl, ?_⟩) (by assumption) ?_
                          rotate_left
                          · (intro w hSw; (try dsimp only at hSw); (go_simp <;> with_reducible rfl))
                          try simp only [Act.put, List.setIfInBounds_toArray, List.set_cons_zero, List.set_cons_succ]
                          refine wpAnyH_ready (rs := [22]) (by kernel_rfl) (by simp) ?_
                          refine AllReadyH.cons (o := { dst := some 189, op := Go.Op.call { callee := Go.Callee.value (Go.Operand.func 83), args := #[Go.Operand.tmp 187, Go.Operand.tmp 188], argTypes := #[3, 3] }, type := 64, pos := "apart.go:437", after := #[{ on := 20, ground := Go.Ground.data }, { on := 21, ground := Go.Ground.data }, { on := 12, ground := Go.Ground.chain }, { on := 12, ground := Go.Ground.guard }], guard := some (12, false) }) rfl (fun K hK => ?_) ?_
                          rotate_left
                          · exact AllReadyH.nil
                          go_simp
                          refine (HM.out _).mono ?_
                          rintro e w4 ⟨rfl, g4⟩
                          have Z3 := hide (grown_trans Z0.out g4)
                          have hS4 := keep6 Z3.out hS8
                          clear g4
                          go_wp2_with fail
                          refine hK.out _ _ ?_ (fun hHeld => ?_)
                          · ((try dsimp only); first | assumption | go_keep)
                          clear hK K
                          try simp only [Act.put, List.setIfInBounds_toArray, List.set_cons_zero, List.set_cons_succ]
                          refine wpAnyH_take (i := 23) (oi := { dst := some 190, op := Go.Op.binOp Go.BinOp.eql 64 (Go.Operand.tmp 186) (Go.Operand.tmp 189) 64, type := 4, pos := "apart.go:437", after := #[{ on := 19, ground := Go.Ground.data }, { on := 22, ground := Go.Ground.data }, { on := 12, ground := Go.Ground.guard }], guard := some (12, false) }) (v := ?_) rfl (by kernel_rfl) (by kernel_rfl) (by kernel_rfl) (fun _ _ _ h => h) (Or.inl ⟨by rfl, ?_⟩) (by assumption) ?_
                          rotate_left
                          · (intro w hSw; refine eq_op (x := .tmp 186) (y := .tmp 189) (p := (mk : Int)) (z := 0) ?_ ?_ ?_ w <;> rfl)
                          try simp only [Act.put, List.setIfInBounds_toArray, List.set_cons_zero, List.set_cons_succ]
                          refine wpAnyH_take (i := 24) (oi := { dst := some 191, op := Go.Op.unOp Go.UnOp.not 4 (Go.Operand.tmp 190), type := 4, pos := "apart.go:437", after := #[{ on := 23, ground := Go.Ground.data }, { on := 12, ground := Go.Ground.guard }], guard := some (12, false) }) (v := ?_) rfl (by kernel_rfl) (by kernel_rfl) (by kernel_rfl) (fun _ _ _ h => h) (Or.inl ⟨by rfl, ?_⟩) (by assumption) ?_
                          rotate_left
                          · (intro w hSw; (try dsimp only at hSw); (go_simp <;> with_reducible rfl))
                          try simp only [Act.put, List.setIfInBounds_toArray, List.set_cons_zero, List.set_cons_succ]
                          refine wpAnyH_take (i := 25) (oi := { dst := some 192, op := Go.Op.pick (Go.Operand.tmp 179) (Go.Operand.const (Go.Value.bool true)) (Go.Operand.tmp 191), type := 4, pos := "apart.go:437", after := #[{ on := 12, ground := Go.Ground.data }, { on := 24, ground := Go.Ground.data }], guard := none }) (v := ?_) rfl (by kernel_rfl) (by kernel_rfl) (by kernel_rfl) (fun _ _ _ h => h) (Or.inl ⟨by rfl, ?_⟩) (by assumption) ?_
                          rotate_left
                          · (intro w hSw; (try dsimp only at hSw); (go_simp <;> with_reducible rfl))
                          try simp only [Act.put, List.setIfInBounds_toArray, List.set_cons_zero, List.set_cons_succ]
                          refine wpAnyH_done (by kernel_rfl) ?_ _
                          clear hHeld hS2 hS4 hS8 hcg hcl e0 e1 d0 d1
                          go_wp2
                          go_roundg (gk - 1)
                          case measure => omega
                          case rel => exact ⟨t + 1, by omega, by go_num, HQ.out.1.kept Z3.out, HQ.out.2.1.kept Z3.out, HQ.out.2.2.new Z3.out⟩
                        · have ht1 : ¬ (t : Int) < (n j : Int) := by omega
                          have HQ := hide (And.intro hF (And.intro hGl hG))
                          obtain ⟨nj, hnj⟩ : ∃ x, x = n j := ⟨_, rfl⟩
                          rw [← hnj] at hcl hcg ht1
                          clear hF hGl hG hv hu HS hnb hncu hnj hcg
                          go_wp2
                          go_roundg (K - (j + 1))
                          case measure => omega
                          case rel => exact ⟨j + 1, by omega, by go_num, HQ.out.1, HQ.out.2.1, HQ.out.2.2⟩
                    · have hjK1 : ¬ (j : Int) < (K : Int) := by omega
                      have HQ := hide hG
                      clear hF hGl hG
                      go_wp2
                      go_ret
                      exact ⟨rfl, HQ.out⟩
end Go.Proofs.YtnnmaknjhfjojaaGreatDoor.Af
