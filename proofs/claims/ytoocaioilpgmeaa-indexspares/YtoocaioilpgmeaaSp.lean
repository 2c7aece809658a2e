/- The walk of IndexSpares. -/
import Derived.Test.YtoocaioilpgmeaaAw
import Derived.RangeFuncNested
import Derived.RangeFuncWrites
import Derived.Deep.CutRange
import Derived.Deep.DeepCutAuto
import Derived.Laws.EntriesVeiled
namespace Go.Proofs.Ytoocaioilpgmeaa
open Go.RowKit Ix Go.Shelf
attribute [local go_sem ↓] Go.wp_at_zero Go.wp_at_succ
attribute [local go_sem] Oper.semAt_some
theorem idV_get {M : List (Nat × Int)} {i : Nat} (h : i < M.length) : (idV M)[i]? = some (.int .u64 ((en M i).1 : Int)) := by simp [idV, en, h]
theorem vlV_get {M : List (Nat × Int)} {i : Nat} (h : i < M.length) : (vlV M)[i]? = some (.int .i64 (en M i).2) := by simp [vlV, en, h]
theorem en_mem {E : List (Nat × Int)} {i : Nat} (h : i < E.length) : en E i ∈ E := by
  unfold en
  rw [List.getElem?_eq_getElem h]
  exact List.getElem_mem h
/-- A range whose body may be left by break, or by a return that cannot be. -/
theorem wpIn_rangeFunc_brkH {F : Fence} {n : Nat} {P : Program} {α : Type} {g : Operand} {ps : Array Tmp} {assign body : Code} {Q : Exit → Act → World → Prop} {a : Act} {w : World} (id : Nat)
    (hro : F.round = none) (h1 : 1 ≤ n) {gf : Nat} {lb : Array Value} (hg : a.eval g = .func (.func gf) #[] lb) (hFg : F.fn gf) (eg : ∀ args w, (callFunc gf args).run P w = .ok (.enter gf args) w)
    {encs : α → Array Value} {Kp : World → World → Prop} {S Sp : List α → Prop} {N : Nat} {w0 : World} (hseq : SeqStopsK F (n - 1) P gf lb encs Kp S Sp N w0)
    (hKt : ∀ {A B C : World}, Kp A B → Kp B C → Kp A C) (hKr : ∀ A, Kp A A) (hKb : ∀ (W : World) (l : Nat) (o o' : Obj), w.heap.size ≤ l → W.heap[l]? = some o → o.isCells = false → o.isWalk = false → Kp W (W.putObj l o')) (hb0 : Below w0.heap.size w0 w) (hps : ∀ x, (encs x).size = ps.size)
    (I : List α → World → Prop) (X : World → Prop) (hI : OwnFrom w.heap.size I) (hX : OwnFrom w.heap.size (fun (_ : Unit) => X)) (h0 : I [] w) (hIX : ∀ pre W, I pre W → X W) (a₁ : α → Act)
    (hassign : ∀ (l : Nat) (x : α) (W : World) (K : Act → World → Prop), K (a₁ x) W →
      assign.wpIn (F.inRound l) (n - 1 - 1) P (Exit.then K (fun _ _ _ => False)) { tmps := (ps.zip (encs x)).foldl (fun t (p, v) => t.setIfInBounds p v) a.tmps, defers := [] } W)
    (hbody : ∀ (l : Nat) (pre : List α) (x : α) (W : World), w.heap.size ≤ l → (∃ r, W.heap[l]? = some (.loop r)) → I pre W → pre.length < N → body.wpIn (F.inRound l) (n - 1 - 1) P (ownPostG w.heap.size Kp I (fun c s W => (c = .exit id ∧ X W) ∨ (c = .ret ∧ ¬ Sp s)) (pre ++ [x]) W) (a₁ x) W)
    (hend : ∀ (D : Nat) (W : World), w.heap.size ≤ D → X W → W.heap[D]? = some (.deferred (some [])) → Q .normal { a with defers := { target := .collected D, args := #[] } :: a.defers } W) :
    (Code.rangeFunc g ps assign body).wpIn F n P (Exit.inBlock id Q) a w := by
  refine wpIn_rangeFunc_ownH hro h1 hg hFg eg hseq (fun h k => hKt h k) hKb hb0 hps I (fun c s W => (c = .exit id ∧ X W) ∨ (c = .ret ∧ ¬ Sp s)) hI (fun c s W W' row hs hgr hr => hs.imp (fun h => ⟨h.1, hX () W W' row h.2 hgr hr⟩) (fun h => h)) h0 (fun x a' _ => a' = a₁ x) (fun _ _ _ _ _ _ hs _ _ => hs)
    (fun l pre x W K hi hK => hassign l x W K (hK _ _ (KeepsFrom.refl _ _) (hKr W) hi rfl)) (fun l pre x a' W hl hr hi e hlt => by subst e; exact hbody l pre x W hl hr hi hlt) ?_ ?_
  · intro D xs W hD _ hi hK
    exact hend D W hD (hIX xs W hi) hK
  · rintro D c pre W hD hsp (⟨rfl, hx⟩ | ⟨_, hx⟩) hK
    · refine wpIn_exit ?_
      show (if id = id then Q .normal _ W else Q (.exit id) _ W)
      rw [if_pos rfl]
      exact hend D W hD hx hK
    · exact absurd hsp hx
theorem results_cell4 {fn : Func} {p : Tmp} (h : fn.results = #[.cell p 4]) (tmps : Array Value) (w : World) (g : Nat) (v : Value) (hp : tmps.getD p undef = .pointer (some ⟨g, 0, none⟩)) (hc : w.cell? ⟨g, 0, none⟩ = some v) :
    (results fn tmps).run Try.prog w = .ok v w := by
  have hp' : tmps[p]?.getD undef = .pointer (some ⟨g, 0, none⟩) := by simpa using hp
  simp [results, h, hp', asAddr]
  go_simp
theorem KpE.refl (B : Nat) (so : Option Addr) (n : Nat) (W : World) : KpE B so n W W := ⟨rfl, fun _ _ _ => rfl⟩
theorem kept_own {β : Type} {wR : World} {B : Nat} (hB : wR.heap.size ≤ B) (S : Nat → Prop) : OwnFrom B (fun (_ : β) W => Kept wR W S) := fun _ W W' row h hg hr =>
  ⟨hg.os.trans h.os, hg.tape.trans h.tape, hg.output.trans h.output, Nat.le_trans h.size hg.size, fun i hi hn => (hg.block i (Nat.lt_of_lt_of_le hi h.size) (fun e => by have := (hr i e.symm).1; omega)).trans (h.block i hi hn)⟩
theorem box_own {β : Type} {B b : Nat} {t : TypeId} (f : β → Value) : OwnFrom B (fun s W => Boxed W b t (f s)) := Own.from (boxed_own _ _ _) _
set_option maxRecDepth 100000 in
set_option maxHeartbeats 8000000 in
theorem indexSpares_any (n : Int) (ao : Option Addr) (len cap : Nat) (os : List OpD) (bo : Option Addr) (len2 cap2 : Nat) (os2 : List OpD) (k : Int) (w : World) (hS : Scr w ao len cap os) (hS2 : Scr w bo len2 cap2 os2) :
    Calls Try.prog 7 #[.int .i64 n, .slice ao len cap, .slice bo len2 cap2, .int .i64 k] w fun e w' => e = .returned (.bool true) ∧ w.grownBy w' none := by
  obtain ⟨w1, hw1⟩ : ∃ w1, w1 = (w.alloc (.cells #[.int .i64 k] 3)).alloc (.cells #[.bool false] 4) := ⟨_, rfl⟩
  have g1 : w.grownBy w1 none := by rw [hw1]; exact grown_trans (World.grownBy_alloc w _ none) (World.grownBy_alloc _ _ none)
  have x7 : Boxed w1 w.heap.size 3 (.int .i64 k) := by rw [hw1]; exact (Boxed.new w 3 (.int .i64 k)).alloc _
  have x8 : Boxed w1 (w.heap.size + 1) 4 (.bool false) := by
    have := Boxed.new (w.alloc (.cells #[.int .i64 k] 3)) 4 (.bool false)
    rw [World.size_alloc] at this
    rw [hw1]; exact this
  have hmd := made_any n ao len cap os w1 (hS.grown g1)
  have H1 := hide (And.intro hw1 (And.intro g1 (And.intro x7 (And.intro x8 (And.intro hS hS2)))))
  have hnil := eqlNil64
  clear hw1 g1 x7 x8 hS hS2
  refine (callsIn_wide (n := 8)).1 (callsIn_of_wp_marks Try.func7 rfl trivial ?_ rfl)
  simp only [Try.ntmps7, List.size_toArray, List.length_cons, List.length_nil, Nat.reduceAdd, Nat.reduceSub, Array.replicate_succ, Array.replicate_zero, List.push_toArray, List.append_toArray, List.nil_append, List.cons_append]
  refine wpIn_wide.2 ?_
  go_wp2_with fail
  rw [← H1.out.1]
  refine hmd.mono ?_
  clear hmd
  rintro e w2 ⟨p, rfl, hpm, hx2, g2, hpo⟩
  have hmd := made_any n ao len cap os w2 (H1.out.2.2.2.2.1.grown (grown_trans H1.out.2.1 g2))
  have H2 := hide (And.intro hpm (And.intro hx2 (And.intro g2 hpo)))
  clear hpm hx2 g2 hpo
  go_wp2_with fail
  refine hmd.mono ?_
  clear hmd
  rintro e w3 ⟨q, rfl, hqm, hy3, g3, hqo⟩
  have hpq : q.m = p.m := by have h1 := H2.out.1; rw [← hqm] at h1; omega
  rw [hpq] at hy3
  have hx3 := H2.out.2.1.then g3
  generalize plM p.m (os.take 3000) = M at *
  generalize plL (os.take 3000) = lo at *
  have htl := told_io hx3
  have hMl : M.length ≤ 4096 := by have := hx3.few; omega
  have H3 := hide (And.intro hx3 (And.intro hy3 (And.intro (grown_trans (grown_trans H1.out.2.1 H2.out.2.2.1) g3) (And.intro hqo (And.intro g3 hMl)))))
  clear hqm hpq hx3 hy3 g3 hqo
  go_wp2_with fail
  refine htl.mono ?_
  clear htl
  rintro e w4 ⟨va, vb, rfl, hr1, hr2, g4⟩
  obtain ⟨sa, ca, rfl, -⟩ := own_form hr1
  obtain ⟨sb, cb, rfl, -⟩ := own_form hr2
  obtain ⟨L, hL⟩ : ∃ L, L = M.length := ⟨_, rfl⟩
  rw [← hL] at hr1 hr2 hMl ⊢
  obtain ⟨w5, hw5⟩ : ∃ w5, w5 = (w4.alloc (.cells #[.slice sa L ca] 30)).alloc (.cells #[.slice sb L cb] 31) := ⟨_, rfl⟩
  have g5 : w4.grownBy w5 none := by rw [hw5]; exact grown_trans (World.grownBy_alloc w4 _ none) (World.grownBy_alloc _ _ none)
  have x13 : Boxed w5 w4.heap.size 30 (.slice sa L ca) := by rw [hw5]; exact (Boxed.new w4 30 (.slice sa L ca)).alloc _
  have x14 : Boxed w5 (w4.heap.size + 1) 31 (.slice sb L cb) := by
    have := Boxed.new (w4.alloc (.cells #[.slice sa L ca] 30)) 31 (.slice sb L cb)
    rw [World.size_alloc] at this
    rw [hw5]; exact this
  have hx5 := H3.out.1.then (grown_trans g4 g5)
  have hal := all_io hx5
  have H5 := hide (And.intro hw5 (And.intro (grown_trans g4 g5) (And.intro x13 (And.intro x14 (And.intro (own_grown hr1 g5) (And.intro (own_grown hr2 g5) (And.intro hx5 (And.intro hL g4.size))))))))
  clear hw5 g5 x13 x14 hx5 hr1 hr2 g4 hL
  go_wp2_with fail
  rw [← H5.out.1]
  refine hal.mono ?_
  clear hal
  rintro e w6 ⟨v, rfl, ⟨B, so, ic, rfl, hI, hB0, hso⟩, g6⟩
  have hBl := row_lt hI.box
  obtain ⟨F, hF⟩ : ∃ F, F = Value.func (.func 41) #[] #[.pointer (some ⟨B, 0, none⟩)] := ⟨_, rfl⟩
  obtain ⟨w7, hw7⟩ : ∃ w7, w7 = w6.alloc (.cells #[.func (.func 41) #[] #[.pointer (some ⟨B, 0, none⟩)]] 64) := ⟨_, rfl⟩
  have g7 : w6.grownBy w7 none := by rw [hw7]; exact World.grownBy_alloc w6 _ none
  have x16 : Boxed w7 w6.heap.size 64 (.func (.func 41) #[] #[.pointer (some ⟨B, 0, none⟩)]) := by rw [hw7]; exact Boxed.new w6 64 _
  have y16 := x16.cell
  rw [hw7] at y16
  have g57 := grown_trans g6 g7
  have hsl : ∀ a, so = some a → L ≠ 0 → a.block < w6.heap.size := fun a ha hm => by
    have hLM := H5.out.2.2.2.2.2.2.2.1
    obtain ⟨qq, h1, h2, _⟩ := hI.row 0 (by omega)
    rw [h1] at ha
    cases ha
    unfold World.cell? at h2
    cases hq : w6.heap[qq]? with
    | none => simp [hq] at h2
    | some o => exact row_lt hq
  have H7 := hide (And.intro hw7 (And.intro g57 (And.intro x16 (And.intro (hI.grown g7) (And.intro hB0 (And.intro hso (And.intro hBl (And.intro hsl (And.intro g6.size g7.size)))))))))
  clear hw7 g7 x16 hI hB0 hso g6 hBl hF g57 hsl F
  go_wp2
  rw [← H7.out.1]
  clear y16
  go_loopg [17] len2 (fun gq v wr => ∃ i : Nat, v = .int .i64 (i : Int) ∧ Hid (gq = len2 - i ∧ i ≤ len2 ∧ i ≤ 3000 ∧ (∃ M' lo', Io wr p M' lo') ∧ Kept w7 wr p.own))
  case atStart => exact ⟨0, rfl, by simp, Nat.zero_le _, Nat.zero_le _, ⟨_, _, H5.out.2.2.2.2.2.2.1.then H7.out.2.1⟩, Kept.refl _ _⟩
  case round =>
    obtain ⟨i, rfl, HR⟩ := hrel
    by_cases hlt : i < len2 ∧ i < 3000
    · obtain ⟨hl1, hl2⟩ := hlt
      obtain ⟨o, hoi⟩ : ∃ o, os2[i]? = some o := ⟨os2[i]'(by rw [H1.out.2.2.2.2.2.len]; exact hl1), by simp⟩
      obtain ⟨blk, off, hbo, c1, c2, c3⟩ := H1.out.2.2.2.2.2.at_ i o hoi
      have hblk : blk < w.heap.size := by
        unfold World.cell? at c1
        cases hq : w.heap[blk]? with
        | none => simp [hq] at c1
        | some ob => exact row_lt hq
      have hcl : ∀ j u, w.cell? ⟨blk, j, none⟩ = some u → wr.cell? ⟨blk, j, none⟩ = some u := fun j u hc => by
        have hb7 : wr.heap[blk]? = w.heap[blk]? := (HR.out.2.2.2.2.block blk (by have := H3.out.2.2.1.size; have := H5.out.2.1.size; have := H7.out.2.1.size; omega) (fun e => by have := H2.out.2.2.2 _ e; have := H1.out.2.1.size; omega)).trans ((H7.out.2.1.block blk (by have := H3.out.2.2.1.size; have := H5.out.2.1.size; omega) (by simp)).trans ((H5.out.2.1.block blk (by have := H3.out.2.2.1.size; omega) (by simp)).trans (H3.out.2.2.1.block blk hblk (by simp))))
        unfold World.cell? at hc ⊢
        simp only [hb7]
        exact hc
      have c1 := hcl _ _ c1
      have c2 := hcl _ _ c2
      have c3 := hcl _ _ c3
      subst hbo
      have hok := H1.out.2.2.2.2.2.ok o (List.mem_of_getElem? hoi)
      obtain ⟨M', lo', hio⟩ := HR.out.2.2.2.1
      have hd := does_io hio o hok
      have b1 : ((i : Int) < (len2 : Int)) = True := by simp; omega
      have b2 : ((i : Int) < 3000) = True := by simp; omega
      have hwr : IntKind.i64.wrap ((i : Int) + 1) = ((i : Int) + 1) := by rw [IntKind.wrap_i64]; omega
      clear hoi hok hblk hcl hio
      obtain ⟨K, I, V⟩ := o
      simp only at c1 c2 c3 hd
      go_wp2_with fail
      refine hd.mono ?_
      clear hd
      rintro e w8 ⟨rfl, h8, k8⟩
      have H8 := hide (And.intro h8 k8)
      clear h8 k8
      go_wp2
      go_roundg (gk - 1)
      case rel => exact ⟨i + 1, by simp, by have := HR.out.1; omega, by omega, by omega, ⟨_, _, H8.out.1⟩, HR.out.2.2.2.2.trans H8.out.2 (fun _ _ e => e)⟩
      case measure => have := HR.out.1; omega
    · obtain ⟨wk, hwk⟩ : ∃ wk, wk = wr := ⟨_, rfl⟩
      have HK := hide HR.out.2.2.2.2
      clear HR
      by_cases hl1 : i < len2
      case' pos =>
        have b1 : ((i : Int) < (len2 : Int)) = True := by simp; omega
        have b2 : ((i : Int) < 3000) = False := by simp; omega
        clear hlt hl1
        go_upto_region 13 with fail
      case' neg =>
        have b1 : ((i : Int) < (len2 : Int)) = False := by simp; omega
        clear hlt hl1
        go_upto_region 13 with fail
      all_goals
        go_cut [18] from 54 to 61 (fun s18 wx => s18 = .pointer (some ⟨wr.heap.size, 0, none⟩) ∧ wx = wr.alloc (.cells #[.int .i64 0] 3))
        case first =>
          go_wp2
          go_meet
          case rel => exact ⟨rfl, rfl⟩
        case rest =>
        obtain ⟨rfl, hwc⟩ := hcut
        have ga := World.grownBy_alloc wr (.cells #[.int .i64 0] 3) none
        have x18 : Boxed wc wr.heap.size 3 (.int .i64 0) := by rw [hwc]; exact Boxed.new wr 3 _
        rw [← hwc] at ga
        clear hwc
        obtain ⟨b18, hb18⟩ : ∃ b18, b18 = wr.heap.size := ⟨_, rfl⟩
        rw [← hb18] at x18 ⊢
        have hs1 := H1.out.2.1.size
        have hs1' : w1.heap.size = w.heap.size + 2 := by rw [H1.out.1]; simp
        have hs2 := H2.out.2.2.1.size
        have hs3 := H3.out.2.2.2.2.1.size
        have hs5 := H5.out.2.2.2.2.2.2.2.2
        have hs5' : w5.heap.size = w4.heap.size + 2 := by rw [H5.out.1]; simp
        have hs6 := H7.out.2.2.2.2.2.2.2.2.1
        have hs7' : w7.heap.size = w6.heap.size + 1 := by rw [H7.out.1]; simp
        have hsr := HK.out.size
        have hpo : ∀ i, p.own i → w1.heap.size ≤ i ∧ i < w2.heap.size := fun i hi => ⟨H2.out.2.2.2 i hi, H2.out.2.1.lt i hi⟩
        have hqo : ∀ i, q.own i → w2.heap.size ≤ i ∧ i < w3.heap.size := fun i hi => ⟨H3.out.2.2.2.1 i hi, H3.out.2.1.lt i hi⟩
        have kw7 : w.grownBy w7 none := grown_trans H3.out.2.2.1 (grown_trans H5.out.2.1 H7.out.2.1)
        have k17 : w1.grownBy w7 none := grown_trans H2.out.2.2.1 (grown_trans H3.out.2.2.2.2.1 (grown_trans H5.out.2.1 H7.out.2.1))
        have k37 : w3.grownBy w7 none := grown_trans H5.out.2.1 H7.out.2.1
        have kwc : Kept w7 wc p.own := HK.out.trans (Kept.new ga p.own) (fun _ _ e => e)
        have hnot : ∀ i, (i < w1.heap.size ∨ w2.heap.size ≤ i) → ¬ p.own i := fun i hi e => by have := hpo i e; omega
        have x7 : Boxed wc w.heap.size 3 (.int .i64 k) := kwc.at (H1.out.2.2.1.kept k17 (by simp)) (hnot _ (by omega))
        have x8 : Boxed wc (w.heap.size + 1) 4 (.bool false) := kwc.at (H1.out.2.2.2.1.kept k17 (by simp)) (hnot _ (by omega))
        have x13 : Boxed wc w4.heap.size 30 (.slice sa L ca) := kwc.at (H5.out.2.2.1.kept H7.out.2.1 (by simp)) (hnot _ (by omega))
        have x14 : Boxed wc (w4.heap.size + 1) 31 (.slice sb L cb) := kwc.at (H5.out.2.2.2.1.kept H7.out.2.1 (by simp)) (hnot _ (by omega))
        have x16 : Boxed wc w6.heap.size 64 (.func (.func 41) #[] #[.pointer (some ⟨B, 0, none⟩)]) := kwc.at H7.out.2.2.1 (hnot _ (by omega))
        have r1 : wc.ownsRow w3.heap.size 56 1 (.slice sa L ca) L (idV M) := row_keep (own_grown H5.out.2.2.2.2.1 H7.out.2.1) (fun g hg => by
          obtain ⟨h1, cur, hc⟩ := own_block (own_grown H5.out.2.2.2.2.1 H7.out.2.1) hg
          exact kwc.block g (row_lt hc) (hnot _ (by omega)))
        have r2 : wc.ownsRow w3.heap.size 3 1 (.slice sb L cb) L (vlV M) := row_keep (own_grown H5.out.2.2.2.2.2.1 H7.out.2.1) (fun g hg => by
          obtain ⟨h1, cur, hc⟩ := own_block (own_grown H5.out.2.2.2.2.2.1 H7.out.2.1) hg
          exact kwc.block g (row_lt hc) (hnot _ (by omega)))
        have it : ItE wc B so ic M := H7.out.2.2.2.1.keep (KpE.of kwc (by have := H7.out.2.2.2.2.2.2.1; omega) (hnot _ (by have := H7.out.2.2.2.2.1; omega)) (fun a ha hn => ⟨by have := H7.out.2.2.2.2.2.2.2.1 a ha (by rw [H5.out.2.2.2.2.2.2.2.1]; exact hn); omega, hnot _ (by have := H7.out.2.2.2.2.2.1 a ha; omega)⟩))
        have yq : Io wc q M lo := (H3.out.2.1.then k37).far kwc (fun i hi e => by have := hqo i hi; have := hpo i e; omega)
        have gw : w.grownBy wc none := Kept.grown ((Kept.new kw7 (fun i => w.heap.size ≤ i)).trans kwc (fun i _ e => by have := hpo i e; omega)) (fun i hi e => by omega)
        obtain ⟨kk, hkk⟩ : ∃ kk : Nat, k % ((L + 1 : Nat) : Int) = (kk : Int) := ⟨(k % ((L + 1 : Nat) : Int)).toNat, by have := Int.emod_nonneg k (show ((L + 1 : Nat) : Int) ≠ 0 by omega); omega⟩
        have hpk := pick_any k ((L : Int) + 1) (L + 1) wc (by omega) (by omega) (by omega)
        rw [hkk] at hpk
        have hLw : IntKind.i64.wrap ((L : Int) + 1) = (L : Int) + 1 := by rw [IntKind.wrap_i64]; omega
        have c7 := x7.cell
        have f7 := x7.frozen
        have c13 := x13.cell
        have k7 := kept_setCell wc w.heap.size 0 (.int .i64 (kk : Int))
        have hb18l := x18.lt
        have hb18w : w7.heap.size ≤ b18 := by omega
        have hn7 : ∀ i, w1.heap.size ≤ i → ¬ i = w.heap.size := fun i hi e => by omega
        have HB : Hid (∀ wR, wc.setCell ⟨w.heap.size, 0, none⟩ (.int .i64 (kk : Int)) = wR → Boxed wR w.heap.size 3 (.int .i64 (kk : Int)) ∧ Boxed wR (w.heap.size + 1) 4 (.bool false) ∧ Boxed wR w4.heap.size 30 (.slice sa L ca) ∧ Boxed wR (w4.heap.size + 1) 31 (.slice sb L cb) ∧ Boxed wR w6.heap.size 64 (.func (.func 41) #[] #[.pointer (some ⟨B, 0, none⟩)]) ∧ Boxed wR b18 3 (.int .i64 0) ∧ wR.ownsRow w3.heap.size 56 1 (.slice sa L ca) L (idV M) ∧ wR.ownsRow w3.heap.size 3 1 (.slice sb L cb) L (vlV M) ∧ ItE wR B so ic M ∧ Io wR q M lo ∧ w.grownBy wR none ∧ b18 < wR.heap.size) := by
          rintro wR rfl
          refine ⟨x7.set _, k7.at x8 (by omega), k7.at x13 (hn7 _ (by omega)), k7.at x14 (hn7 _ (by omega)), k7.at x16 (hn7 _ (by omega)), k7.at x18 (hn7 _ (by omega)), row_keep r1 (fun g hg => ?_), row_keep r2 (fun g hg => ?_), it.keep (KpE.of k7 (row_lt it.box) (hn7 _ (by have := H7.out.2.2.2.2.1; omega)) (fun a ha hn => ⟨?_, hn7 _ (by have := H7.out.2.2.2.2.2.1 a ha; omega)⟩)), yq.far k7 (fun i hi e => by have := hqo i hi; omega), ?_, Nat.lt_of_lt_of_le hb18l k7.size⟩
          · obtain ⟨h1, cur, hc⟩ := own_block r1 hg
            exact k7.block g (row_lt hc) (hn7 _ (by omega))
          · obtain ⟨h1, cur, hc⟩ := own_block r2 hg
            exact k7.block g (row_lt hc) (hn7 _ (by omega))
          · have := H7.out.2.2.2.2.2.2.2.1 a ha (by rw [H5.out.2.2.2.2.2.2.2.1]; exact hn)
            omega
          · exact Kept.grown ((Kept.new gw (fun i => w.heap.size ≤ i)).trans k7 (fun i _ e => by omega)) (fun i hi e => by omega)
        have HSz : Hid (w1.heap.size = w.heap.size + 2 ∧ w1.heap.size ≤ w2.heap.size ∧ w2.heap.size ≤ w3.heap.size ∧ w3.heap.size ≤ w4.heap.size ∧ w5.heap.size = w4.heap.size + 2 ∧ w5.heap.size ≤ w6.heap.size ∧ w7.heap.size = w6.heap.size + 1 ∧ w7.heap.size ≤ b18 ∧ w5.heap.size ≤ B ∧ B < w6.heap.size ∧ (∀ a, so = some a → w5.heap.size ≤ a.block ∧ (L ≠ 0 → a.block < w6.heap.size)) ∧ L = M.length) := ⟨hs1', hs2, hs3, hs5, hs5', hs6, hs7', hb18w, H7.out.2.2.2.2.1, H7.out.2.2.2.2.2.2.1, fun a ha => ⟨H7.out.2.2.2.2.2.1 a ha, H7.out.2.2.2.2.2.2.2.1 a ha⟩, H5.out.2.2.2.2.2.2.2.1⟩
        clear hb18 hs1 hs1' hs2 hs3 hs5 hs5' hs6 hs7' hsr hpo hqo kw7 k17 k37 kwc hnot x8 x13 x14 x16 r1 r2 it yq gw hkk k7 hb18l hb18w hn7 x7 x18 ga
        go_wp2_with fail
        refine hpk.mono ?_
        clear hpk
        rintro e wx ⟨rfl, hwx⟩
        obtain rfl := hwx.symm
        obtain ⟨wR, hwR⟩ : ∃ wR, wc.setCell ⟨w.heap.size, 0, none⟩ (.int .i64 (kk : Int)) = wR := ⟨_, rfl⟩
        have HBR := hide (HB.out wR hwR)
        have c16 := HBR.out.2.2.2.2.1.cell
        rw [← hwR] at c16
        have HWR := hide hwR
        clear HB hwR
        go_wp2
        rw [HWR.out]
        clear c16 c7 f7 c13 HWR
        have hM9 : M.length ≤ 65536 := by have := HSz.out.2.2.2.2.2.2.2.2.2.2.2; omega
        have hBR : B < wR.heap.size := row_lt HBR.out.2.2.2.2.2.2.2.2.1.box
        have hsoR : ∀ a, so = some a → M.length ≠ 0 → a.block < wR.heap.size := fun a ha hn => by
          have h1 := (HSz.out.2.2.2.2.2.2.2.2.2.2.1 a ha).2 (by rw [HSz.out.2.2.2.2.2.2.2.2.2.2.2]; exact hn)
          have h2 := HSz.out.2.2.2.2.2.2.1
          have h3 := HSz.out.2.2.2.2.2.2.2.1
          have h4 := HBR.out.2.2.2.2.2.2.2.2.2.2.2
          omega
        have HRR := hide (And.intro hBR hsoR)
        clear hBR hsoR
        refine (wpIn_wide (n := 8)).1 (wpIn_rangeFunc_brkH (w := wR) 2 rfl (by decide) (gf := 41) (lb := #[.pointer (some ⟨B, 0, none⟩)]) rfl trivial (enters_of Try.func41 (by kernel_rfl) rfl)
          (it_stops (KpE B so M.length) (fun W => ItE W B so ic M) 7 (by decide) B so ic M hM9 wR (fun _ h => h) (fun W W' k h => h.keep k) (fun W W' g h => h.grown g) (fun W hW => HBR.out.2.2.2.2.2.2.2.2.1.grown (below_grown hW)))
          (fun h k => h.trans k) (KpE.refl B so M.length) ?put (Below.refl _ _) (fun _ => rfl)
          (fun pre W => Kept wR W (fun i => i = b18) ∧ Boxed W b18 3 (.int .i64 (pre.length : Int))) (fun W => Kept wR W (fun i => i = b18))
          (OwnFrom.and (kept_own (Nat.le_refl _) _) (box_own _)) (kept_own (Nat.le_refl _) _) ⟨Kept.refl _ _, HBR.out.2.2.2.2.2.1⟩ (fun pre W h => h.1)
          (fun x => { tmps := #[Value.int IntKind.i64 n, Value.slice ao len cap, Value.slice bo len2 cap2, Value.int IntKind.i64 k, undef, undef, undef, Value.pointer (some ⟨w.heap.size, 0, none⟩), Value.pointer (some ⟨w.heap.size + 1, 0, none⟩), Value.pointer (some ⟨p.x, 0, none⟩), Value.bool true, Value.pointer (some ⟨q.x, 0, none⟩), Value.bool true, Value.pointer (some ⟨w4.heap.size, 0, none⟩), Value.pointer (some ⟨w4.heap.size + 1, 0, none⟩), Value.bool true, Value.pointer (some ⟨w6.heap.size, 0, none⟩), Value.int IntKind.i64 (i : Int), Value.pointer (some ⟨b18, 0, none⟩), .int .u32 (x.1 : Int), .int .i64 x.2, undef, undef, undef, undef, undef, Value.tuple #[Value.pointer (some ⟨p.x, 0, none⟩), Value.bool true], Value.int IntKind.i64 n, Value.slice ao len cap, Value.tuple #[Value.pointer (some ⟨p.x, 0, none⟩), Value.bool true], Value.pointer (some ⟨p.x, 0, none⟩), Value.bool true, Value.tuple #[Value.pointer (some ⟨q.x, 0, none⟩), Value.bool true], Value.int IntKind.i64 n, Value.slice ao len cap, Value.tuple #[Value.pointer (some ⟨q.x, 0, none⟩), Value.bool true], Value.pointer (some ⟨q.x, 0, none⟩), Value.bool true, Value.bool true, Value.bool false, Value.bool false, Value.bool true, Value.bool false, Value.bool false, Value.tuple #[Value.slice sa L ca, Value.slice sb L cb, Value.bool true], Value.pointer (some ⟨p.x, 0, none⟩), Value.tuple #[Value.slice sa L ca, Value.slice sb L cb, Value.bool true], Value.slice sa L ca, Value.slice sb L cb, Value.bool true, Value.pointer (some ⟨p.x, 0, none⟩), Value.func (Fn.func 41) #[] #[Value.pointer (some ⟨B, 0, none⟩)], Value.func (Fn.func 41) #[] #[Value.pointer (some ⟨B, 0, none⟩)], Value.bool false, u54, u55, u56, u57, u58, u59, u60, u61, u62, u63, u64, u65, u66, u67, u68, u69, Value.int IntKind.i64 k, Value.slice sa L ca, Value.int IntKind.i64 (L : Int), Value.int IntKind.i64 ((L : Int) + 1), Value.int IntKind.i64 (kk : Int), Value.func (Fn.func 41) #[] #[Value.pointer (some ⟨B, 0, none⟩)], .int .u32 (x.1 : Int), .int .i64 x.2, undef, undef, undef, undef, undef, undef, undef, undef, undef, undef, undef, undef, undef, undef, undef, undef, undef, undef, undef, undef, undef, undef, undef, undef, undef, undef, undef, undef, undef, undef, undef, undef, undef, undef, undef, undef, undef, undef, undef, undef, undef, undef, undef, undef, undef, undef, undef, undef, undef, undef, undef, undef, undef, undef, undef, undef, undef, undef, undef, undef, undef, undef, undef, undef, undef, undef, undef, undef], defers := [] }) ?assign ?body ?hend)
        case put =>
          intro W l o o' hl ho _ _
          have hll := row_lt ho
          refine KpE.of (Kept.of (grownBy_putObj' W l o') (S := fun i => i = l) (fun j e _ => (Option.some.inj e).symm)) (by have := HRR.out.1; omega) (by have := HRR.out.1; omega) (fun a ha hn => ?_)
          have := HRR.out.2 a ha hn
          constructor <;> omega
        case assign =>
          intro l x W K hK
          simp only [encE]
          gi_wp2
          exact hK
        case body =>
          rintro l pre ⟨x1, x2⟩ W hlR ⟨rl, hrl⟩ ⟨hK, hb⟩ hlt
          have hsz := HSz.out
          have hne : ∀ i, i < b18 → ¬ i = b18 := fun i hi => by omega
          have y7 : Boxed W w.heap.size 3 (.int .i64 (kk : Int)) := hK.at HBR.out.1 (hne _ (by omega))
          have y8 : Boxed W (w.heap.size + 1) 4 (.bool false) := hK.at HBR.out.2.1 (hne _ (by omega))
          have y13 : Boxed W w4.heap.size 30 (.slice sa L ca) := hK.at HBR.out.2.2.1 (hne _ (by omega))
          have y14 : Boxed W (w4.heap.size + 1) 31 (.slice sb L cb) := hK.at HBR.out.2.2.2.1 (hne _ (by omega))
          have y16 : Boxed W w6.heap.size 64 (.func (.func 41) #[] #[.pointer (some ⟨B, 0, none⟩)]) := hK.at HBR.out.2.2.2.2.1 (hne _ (by omega))
          obtain ⟨ga, _, cua, e1, hga, hga2, -, -, -, hta⟩ := own_row HBR.out.2.2.2.2.2.2.1 (by have := hsz.2.2.2.2.2.2.2.2.2.2.2; omega)
          obtain ⟨gb, _, cub, e2, hgb, hgb2, -, -, -, htb⟩ := own_row HBR.out.2.2.2.2.2.2.2.1 (by have := hsz.2.2.2.2.2.2.2.2.2.2.2; omega)
          cases e1
          cases e2
          have hal : ga < w5.heap.size := (H5.out.2.2.2.2.1.lt ga rfl).2
          have hbl : gb < w5.heap.size := (H5.out.2.2.2.2.2.1.lt gb rfl).2
          have hlM : pre.length < M.length := hlt
          have z1 : W.cell? ⟨ga, pre.length, none⟩ = some (.int .u64 ((en M pre.length).1 : Int)) := by
            have hbk := hK.block ga (row_lt hga2) (hne _ (by omega))
            have := own_cell hga2 hta (idV_get hlM)
            unfold World.cell? at this ⊢
            simp only [hbk]
            exact this
          have z2 : W.cell? ⟨gb, pre.length, none⟩ = some (.int .i64 (en M pre.length).2) := by
            have hbk := hK.block gb (row_lt hgb2) (hne _ (by omega))
            have := own_cell hgb2 htb (vlV_get hlM)
            unfold World.cell? at this ⊢
            simp only [hbk]
            exact this
          have c7 := y7.cell
          have c8 := y8.cell
          have f8 := y8.frozen
          have c13 := y13.cell
          have c14 := y14.cell
          have c16 := y16.cell
          have c18 := hb.cell
          have f18 := hb.frozen
          have hbt := (H3.out.1.ids _ (en_mem hlM)).1
          have hWs : wR.heap.size ≤ W.heap.size := hK.size
          have hb18W : b18 < wR.heap.size := HBR.out.2.2.2.2.2.2.2.2.2.2.2
          have hpre : ∀ y : Nat × Int, (pre ++ [y]) <+: M → y = en M pre.length := by
            rintro y ⟨r, hr⟩
            unfold en
            rw [← hr]
            simp
          have HX := hide (And.intro hK (And.intro hb (And.intro hrl (And.intro hlR (And.intro hpre hlM)))))
          obtain ⟨pl, hpl⟩ : ∃ pl, pl = pre.length := ⟨_, rfl⟩
          rw [← hpl] at z1 z2 c18
          have hplL : pl < L := by have := hsz.2.2.2.2.2.2.2.2.2.2.2; omega
          have HPL := hide (And.intro hpl hplL)
          obtain ⟨yk, hyk⟩ : ∃ yk, yk = (en M pre.length).1 := ⟨_, rfl⟩
          obtain ⟨yv, hyv⟩ : ∃ yv, yv = (en M pre.length).2 := ⟨_, rfl⟩
          rw [hpl, ← hyk, ← hpl] at z1
          rw [hpl, ← hyv, ← hpl] at z2
          rw [← hyk] at hbt
          have HYY := hide (And.intro hyk hyv)
          clear hK hb hrl hpl hyk hyv hga2 hta hgb2 htb y7 y8 y13 y14 y16 hlM hlt hsz hne hga hgb
          obtain ⟨z, hz⟩ : ∃ z, IntKind.u64.wrap (x1 : Int) = z := ⟨_, rfl⟩
          have bL : decide (L ≤ pl) = false := by simp; omega
          have bL2 : ((L : Int) ≤ (pl : Int)) = False := by simp; omega
          have bL3 : ((pl : Int) < (L : Int)) = True := by simp; omega
          have HRet : Hid (∀ W', ¬ (z = (yk : Int) ∧ x2 = yv) → W' = W.setCell ⟨w.heap.size + 1, 0, none⟩ (.bool false) → KeepsFrom wR.heap.size W W' ∧ ¬ (pre ++ [(x1, x2)]) <+: M) := by
            rintro W' hno rfl
            refine ⟨(KeepsOthers.setCell _ _ _).from _, fun hp => hno ?_⟩
            have he := HX.out.2.2.2.2.1 _ hp
            have e1 : x1 = yk := by rw [HYY.out.1, ← he]
            have e2 : x2 = yv := by rw [HYY.out.2, ← he]
            refine ⟨?_, e2⟩
            rw [← hz, e1, wrap_u64]
            omega
          by_cases hA : z = (yk : Int)
          · by_cases hB : x2 = yv
            · have HAB := hide (And.intro hA hB)
              have bA : (z == (yk : Int)) = true := by simpa using hA
              rw [hA] at hz
              rw [hB]
              clear hA hB HRet
              have HEnd : Hid (∀ W2, Kept wR W2 (fun i => i = b18) → Boxed W2 b18 3 (.int .i64 (pl : Int)) → KeepsFrom wR.heap.size W W2 → KpE B so M.length W W2 →
                  (∀ W3, W3 = W2.setCell ⟨b18, 0, none⟩ (.int .i64 ((pl : Int) + 1)) → KeepsFrom wR.heap.size W W3 ∧ KpE B so M.length W W3 ∧ Kept wR W3 (fun i => i = b18) ∧ Boxed W3 b18 3 (.int .i64 (((pre ++ [(x1, yv)]).length : Nat) : Int)))) := by
                rintro W2 hk2 hb2 hkf2 hkp2 W3 rfl
                have ks := kept_setCell W2 b18 0 (.int .i64 ((pl : Int) + 1))
                refine ⟨hkf2.trans ((KeepsOthers.setCell _ _ _).from _), hkp2.trans (KpE.of ks (by have := HRR.out.1; have := hk2.size; omega) (by have := HSz.out; omega) (fun a ha hn => ⟨by have := HRR.out.2 a ha hn; have := hk2.size; omega, by have h1 := (HSz.out.2.2.2.2.2.2.2.2.2.2.1 a ha).2 (by rw [HSz.out.2.2.2.2.2.2.2.2.2.2.2]; exact hn); have := HSz.out; omega⟩)), hk2.trans ks (fun _ _ e => e), ?_⟩
                have hl : (((pre ++ [(x1, yv)]).length : Nat) : Int) = (pl : Int) + 1 := by rw [List.length_append, ← HPL.out.1]; simp
                rw [hl]
                exact hb2.set _
              have hwp : IntKind.i64.wrap ((pl : Int) + 1) = (pl : Int) + 1 := by rw [IntKind.wrap_i64]; omega
              by_cases h3 : pl < 3
              · have b3 : decide (pl < 3) = true := by simpa using h3
                have b4 : ((pl : Int) < 3) = True := by simp; omega
                have c16a : (W.alloc (.cells #[.int .i64 0] 3)).cell? ⟨w6.heap.size, 0, none⟩ = some (.func (.func 41) #[] #[.pointer (some ⟨B, 0, none⟩)]) := (World.grownBy_alloc W _ none).cell c16 (by simp)
                gi_wp2
                have ga1 := World.grownBy_alloc W (.cells #[.int .i64 0] 3) none
                have x21 := Boxed.new W 3 (.int .i64 0)
                have k1 : Kept wR (W.alloc (.cells #[.int .i64 0] 3)) (fun i => i = b18) := HX.out.1.trans (Kept.new ga1 (fun i => i = b18)) (fun _ _ e => e)
                have it1 : ItE (W.alloc (.cells #[.int .i64 0] 3)) B so ic M := HBR.out.2.2.2.2.2.2.2.2.1.keep (KpE.of k1 HRR.out.1 (by have := HSz.out; omega) (fun a ha hn => ⟨HRR.out.2 a ha hn, by have h1 := (HSz.out.2.2.2.2.2.2.2.2.2.2.1 a ha).2 (by rw [HSz.out.2.2.2.2.2.2.2.2.2.2.2]; exact hn); have := HSz.out; omega⟩))
                have hrl1 : (W.alloc (.cells #[.int .i64 0] 3)).heap[l]? = some (.loop rl) := (ga1.block l (row_lt HX.out.2.2.1) (by simp)).trans HX.out.2.2.1
                have hb1 : Boxed (W.alloc (.cells #[.int .i64 0] 3)) b18 3 (.int .i64 (pl : Int)) := by have := HX.out.2.1.alloc (.cells #[.int .i64 0] 3); rw [← HPL.out.1] at this; exact this
                have hsW1 : (W.alloc (.cells #[.int .i64 0] 3)).heap.size = W.heap.size + 1 := by simp
                have y7a := c7
                have HI := hide (And.intro k1 (And.intro it1 (And.intro hb1 (And.intro ga1 x21))))
                have hkf1 : KeepsFrom wR.heap.size W (W.alloc (.cells #[.int .i64 0] 3)) := (KeepsOthers.alloc _ _).from _
                clear k1 it1 hb1 ga1
                generalize hW1 : W.alloc (.cells #[.int .i64 0] 3) = W1 at *
                refine wpIn_rangeFunc_ownN (l₀ := l) (r₀ := rl) rfl hrl1 (by decide) (gf := 41) (lb := #[.pointer (some ⟨B, 0, none⟩)]) rfl trivial (enters_of Try.func41 (by kernel_rfl) rfl)
                  ((it_stops (KpE B so M.length) (fun W => ItE W B so ic M) 5 (by decide) B so ic M hM9 W1 (fun _ h => h) (fun W W' k h => h.keep k) (fun W W' g h => h.grown g) (fun W hW => HI.out.2.1.grown (below_grown hW))).inRound l)
                  (fun h k => h.trans k) ?put2 (Below.refl _ _) (fun _ => rfl)
                  (fun pre' W' => (Kept W1 W' (fun i => i = W.heap.size) ∧ Boxed W' W.heap.size 3 (.int .i64 (pre'.length : Int))) ∧ KeepsFrom wR.heap.size W W') (fun _ _ _ => False)
                  (OwnFrom.and (OwnFrom.and (kept_own (Nat.le_refl _) _) (box_own _)) (ownFrom_keepsFrom (by omega))) (fun _ _ _ _ _ h _ _ => h)
                  ⟨⟨Kept.refl _ _, HI.out.2.2.2.2⟩, hkf1⟩
                  (fun y a'' _ => a'' = { tmps := #[Value.int IntKind.i64 n, Value.slice ao len cap, Value.slice bo len2 cap2, Value.int IntKind.i64 k, undef, undef, undef, Value.pointer (some ⟨w.heap.size, 0, none⟩), Value.pointer (some ⟨w.heap.size + 1, 0, none⟩), Value.pointer (some ⟨p.x, 0, none⟩), Value.bool true, Value.pointer (some ⟨q.x, 0, none⟩), Value.bool true, Value.pointer (some ⟨w4.heap.size, 0, none⟩), Value.pointer (some ⟨w4.heap.size + 1, 0, none⟩), Value.bool true, Value.pointer (some ⟨w6.heap.size, 0, none⟩), Value.int IntKind.i64 (i : Int), Value.pointer (some ⟨b18, 0, none⟩), Value.int IntKind.u32 (x1 : Int), Value.int IntKind.i64 yv, Value.pointer (some ⟨W.heap.size, 0, none⟩), undef, undef, undef, undef, Value.tuple #[Value.pointer (some ⟨p.x, 0, none⟩), Value.bool true], Value.int IntKind.i64 n, Value.slice ao len cap, Value.tuple #[Value.pointer (some ⟨p.x, 0, none⟩), Value.bool true], Value.pointer (some ⟨p.x, 0, none⟩), Value.bool true, Value.tuple #[Value.pointer (some ⟨q.x, 0, none⟩), Value.bool true], Value.int IntKind.i64 n, Value.slice ao len cap, Value.tuple #[Value.pointer (some ⟨q.x, 0, none⟩), Value.bool true], Value.pointer (some ⟨q.x, 0, none⟩), Value.bool true, Value.bool true, Value.bool false, Value.bool false, Value.bool true, Value.bool false, Value.bool false, Value.tuple #[Value.slice (some ⟨ga, 0, none⟩) L ca, Value.slice (some ⟨gb, 0, none⟩) L cb, Value.bool true], Value.pointer (some ⟨p.x, 0, none⟩), Value.tuple #[Value.slice (some ⟨ga, 0, none⟩) L ca, Value.slice (some ⟨gb, 0, none⟩) L cb, Value.bool true], Value.slice (some ⟨ga, 0, none⟩) L ca, Value.slice (some ⟨gb, 0, none⟩) L cb, Value.bool true, Value.pointer (some ⟨p.x, 0, none⟩), Value.func (Fn.func 41) #[] #[Value.pointer (some ⟨B, 0, none⟩)], Value.func (Fn.func 41) #[] #[Value.pointer (some ⟨B, 0, none⟩)], Value.bool false, u54, u55, u56, u57, u58, u59, u60, u61, u62, u63, u64, u65, u66, u67, u68, u69, Value.int IntKind.i64 k, Value.slice (some ⟨ga, 0, none⟩) L ca, Value.int IntKind.i64 (L : Int), Value.int IntKind.i64 ((L : Int) + 1), Value.int IntKind.i64 (kk : Int), Value.func (Fn.func 41) #[] #[Value.pointer (some ⟨B, 0, none⟩)], Value.int IntKind.u32 (x1 : Int), Value.int IntKind.i64 yv, Value.int IntKind.i64 (pl : Int), Value.slice (some ⟨ga, 0, none⟩) L ca, Value.int IntKind.i64 (L : Int), Value.bool false, Value.bool false, Value.int IntKind.u32 (x1 : Int), Value.int IntKind.u64 (yk : Int), Value.slice (some ⟨ga, 0, none⟩) L ca, Value.int IntKind.i64 (pl : Int), Value.pointer (some ⟨ga, pl, none⟩), Value.int IntKind.u64 (yk : Int), Value.bool false, Value.bool false, Value.bool false, Value.int IntKind.i64 yv, Value.slice (some ⟨gb, 0, none⟩) L cb, Value.int IntKind.i64 (pl : Int), Value.pointer (some ⟨gb, pl, none⟩), Value.int IntKind.i64 yv, Value.bool false, Value.bool false, Value.int IntKind.i64 (pl : Int), Value.bool true, Value.func (Fn.func 41) #[] #[Value.pointer (some ⟨B, 0, none⟩)], .int .u32 (y.1 : Int), .int .i64 y.2, undef, undef, undef, undef, undef, undef, undef, undef, undef, undef, undef, undef, undef, undef, undef, undef, undef, undef, undef, undef, undef, undef, undef, undef, undef, undef, undef, undef, undef, undef, undef, undef, undef, undef, undef, undef, undef, undef, undef, undef, undef, undef], defers := [] }) (fun _ _ _ _ _ _ hs _ _ => hs) ?assign2 ?body2 ?done2 (fun _ _ _ _ h => h.elim)
                case put2 =>
                  intro W' l' o o' hl ho _ _
                  have hll := row_lt ho
                  refine KpE.of (Kept.of (grownBy_putObj' W' l' o') (S := fun i => i = l') (fun j e _ => (Option.some.inj e).symm)) (by have := HRR.out.1; omega) (by have := HRR.out.1; omega) (fun a ha hn => ?_)
                  have := HRR.out.2 a ha hn
                  constructor <;> omega
                case assign2 =>
                  intro l2 pre' y W' K' hi hK'
                  simp only [encE]
                  gi_wp2
                  exact hK' _ _ (KeepsFrom.refl _ _) (KpE.refl _ _ _ _) hi rfl
                case body2 =>
                  rintro l2 pre' y a'' W' _ _ ⟨⟨hk', hb'⟩, hkf'⟩ rfl hlt'
                  have c21 := hb'.cell
                  have f21 := hb'.frozen
                  have hwq : IntKind.i64.wrap ((pre'.length : Int) + 1) = (pre'.length : Int) + 1 := by rw [IntKind.wrap_i64]; omega
                  have ks := kept_setCell W' W.heap.size 0 (.int .i64 ((pre'.length : Int) + 1))
                  have HQ : Hid (KeepsFrom W1.heap.size W' (W'.setCell ⟨W.heap.size, 0, none⟩ (.int .i64 ((pre'.length : Int) + 1))) ∧ KpE B so M.length W' (W'.setCell ⟨W.heap.size, 0, none⟩ (.int .i64 ((pre'.length : Int) + 1))) ∧ ((Kept W1 (W'.setCell ⟨W.heap.size, 0, none⟩ (.int .i64 ((pre'.length : Int) + 1))) (fun i => i = W.heap.size) ∧ Boxed (W'.setCell ⟨W.heap.size, 0, none⟩ (.int .i64 ((pre'.length : Int) + 1))) W.heap.size 3 (.int .i64 ((pre' ++ [y]).length : Int))) ∧ KeepsFrom wR.heap.size W (W'.setCell ⟨W.heap.size, 0, none⟩ (.int .i64 ((pre'.length : Int) + 1))))) := by
                    refine ⟨(KeepsOthers.setCell _ _ _).from _, KpE.of ks (by have := HRR.out.1; have := hk'.size; omega) (by have := HRR.out.1; omega) (fun a ha hn => ?_), ⟨hk'.trans ks (fun _ _ e => e), ?_⟩, hkf'.trans ((KeepsOthers.setCell _ _ _).from _)⟩
                    · have := HRR.out.2 a ha hn
                      have := hk'.size
                      constructor <;> omega
                    · have hl : ((pre' ++ [y]).length : Int) = (pre'.length : Int) + 1 := by rw [List.length_append]; simp
                      rw [hl]
                      exact hb'.set _
                  clear hk' hb' hkf' ks
                  gi_wp2
                  exact HQ.out
                case done2 =>
                  rintro ys W2 rfl ⟨⟨hk2, hb2⟩, hkf2⟩
                  have hlen := HSz.out.2.2.2.2.2.2.2.2.2.2.2
                  rw [← hlen] at hb2
                  have c21 := hb2.cell
                  have kk2 : Kept wR W2 (fun i => i = b18) := HI.out.1.trans hk2 (fun i hi e => by omega)
                  have e7 : Boxed W2 w.heap.size 3 (.int .i64 (kk : Int)) := kk2.at HBR.out.1 (by have := HSz.out; omega)
                  have e13 : Boxed W2 w4.heap.size 30 (.slice (some ⟨ga, 0, none⟩) L ca) := kk2.at HBR.out.2.2.1 (by have := HSz.out; omega)
                  have e18 : Boxed W2 b18 3 (.int .i64 (pl : Int)) := hk2.at HI.out.2.2.1 (by omega)
                  have d7 := e7.cell
                  have d13 := e13.cell
                  have d18 := e18.cell
                  have fd18 := e18.frozen
                  have kpW : KpE B so ys.length W W2 := by
                    refine KpE.of ((Kept.new (by rw [← hW1]; exact World.grownBy_alloc W _ none) (fun i => i = W.heap.size)).trans hk2 (fun _ _ e => e)) (by have := HRR.out.1; omega) (by have := HRR.out.1; omega) (fun a ha hn => ?_)
                    have := HRR.out.2 a ha hn
                    constructor <;> omega
                  have HE := hide (HEnd.out W2 kk2 e18 hkf2 kpW)
                  have HKK := hide (And.intro kk2 hkf2)
                  clear kk2 e7 e13 e18 kpW HEnd hk2 hb2 hkf2 hlen h3
                  by_cases hkk : pl = kk
                  · have d1 : ((pl : Int) == (kk : Int)) = true := by simp; omega
                    have d2 : decide ((pl : Int) = (kk : Int)) = true := by simp; omega
                    clear hkk
                    gi_wp2
                    exact ⟨HKK.out.2, .inl ⟨rfl, HKK.out.1⟩⟩
                  · have d1 : ((pl : Int) == (kk : Int)) = false := by simp; omega
                    have d2 : decide ((pl : Int) = (kk : Int)) = false := by simp; omega
                    have HE2 := hide (HE.out _ rfl)
                    clear hkk HE
                    gi_wp2
                    exact HE2.out
              · have b3 : decide (pl < 3) = false := by simpa using h3
                have b4 : ((pl : Int) < 3) = False := by simp; omega
                by_cases hkk : pl = kk
                · have d1 : ((pl : Int) == (kk : Int)) = true := by simp; omega
                  have d2 : decide ((pl : Int) = (kk : Int)) = true := by simp; omega
                  clear h3 hkk
                  gi_wp2
                  exact ⟨KeepsFrom.refl _ _, .inl ⟨rfl, HX.out.1⟩⟩
                · have d1 : ((pl : Int) == (kk : Int)) = false := by simp; omega
                  have d2 : decide ((pl : Int) = (kk : Int)) = false := by simp; omega
                  have HE := hide (HEnd.out W HX.out.1 (by have := HX.out.2.1; rw [← HPL.out.1] at this; exact this) (KeepsFrom.refl _ _) (KpE.refl _ _ _ _) _ rfl)
                  clear h3 hkk HEnd
                  gi_wp2
                  exact HE.out
            · have q1 : (x2 == yv) = false := by simpa using hB
              have q2 : decide (x2 = yv) = false := by simpa using hB
              rw [hA] at hz
              have HF := hide (HRet.out _ (fun h => hB h.2) rfl)
              clear hB HRet hA
              gi_wp2
              exact ⟨HF.out.1, .inr ⟨rfl, HF.out.2⟩⟩
          · have q1 : (z == (yk : Int)) = false := by simpa using hA
            have q2 : decide (z = (yk : Int)) = false := by simpa using hA
            have HF := hide (HRet.out _ (fun h => hA h.1) rfl)
            clear hA HRet
            gi_wp2
            exact ⟨HF.out.1, .inr ⟨rfl, HF.out.2⟩⟩
        case hend =>
          rintro D W hD hK hKd
          have hne : ∀ i, i < b18 → ¬ i = b18 := fun i hi => by omega
          have hsz := HSz.out
          have hWs : wR.heap.size ≤ W.heap.size := hK.size
          have hb18W : b18 < wR.heap.size := HBR.out.2.2.2.2.2.2.2.2.2.2.2
          have y8 : Boxed W (w.heap.size + 1) 4 (.bool false) := hK.at HBR.out.2.1 (hne _ (by omega))
          have y13 : Boxed W w4.heap.size 30 (.slice sa L ca) := hK.at HBR.out.2.2.1 (hne _ (by omega))
          have y14 : Boxed W (w4.heap.size + 1) 31 (.slice sb L cb) := hK.at HBR.out.2.2.2.1 (hne _ (by omega))
          have y16 : Boxed W w6.heap.size 64 (.func (.func 41) #[] #[.pointer (some ⟨B, 0, none⟩)]) := hK.at HBR.out.2.2.2.2.1 (hne _ (by omega))
          have r1 : W.ownsRow w3.heap.size 56 1 (.slice sa L ca) L (idV M) := row_keep HBR.out.2.2.2.2.2.2.1 (fun g hg => by
            obtain ⟨h1, cur, hc⟩ := own_block HBR.out.2.2.2.2.2.2.1 hg
            have := (H5.out.2.2.2.2.1.lt g hg).2
            exact hK.block g (row_lt hc) (hne _ (by omega)))
          have r2 : W.ownsRow w3.heap.size 3 1 (.slice sb L cb) L (vlV M) := row_keep HBR.out.2.2.2.2.2.2.2.1 (fun g hg => by
            obtain ⟨h1, cur, hc⟩ := own_block HBR.out.2.2.2.2.2.2.2.1 hg
            have := (H5.out.2.2.2.2.2.1.lt g hg).2
            exact hK.block g (row_lt hc) (hne _ (by omega)))
          have it2 : ItE W B so ic M := HBR.out.2.2.2.2.2.2.2.2.1.keep (KpE.of hK HRR.out.1 (by omega) (fun a ha hn => ⟨HRR.out.2 a ha hn, by have h1 := (hsz.2.2.2.2.2.2.2.2.2.2.1 a ha).2 (by rw [hsz.2.2.2.2.2.2.2.2.2.2.2]; exact hn); omega⟩))
          have yq : Io W q M lo := HBR.out.2.2.2.2.2.2.2.2.2.1.far hK (fun i hi e => by have := H3.out.2.1.lt i hi; omega)
          have gw : w.grownBy W none := Kept.grown ((Kept.new HBR.out.2.2.2.2.2.2.2.2.2.2.1 (fun i => w.heap.size ≤ i)).trans hK (fun i _ e => by omega)) (fun i hi e => by omega)
          have ga1 := World.grownBy_alloc W (.cells #[.int .i64 0] 3) none
          have x22 := Boxed.new W 3 (.int .i64 0)
          have c16a := (y16.alloc (.cells #[.int .i64 0] 3)).cell
          have hs1 : (W.alloc (.cells #[.int .i64 0] 3)).heap.size = W.heap.size + 1 := by simp
          have hKd1 : (W.alloc (.cells #[.int .i64 0] 3)).heap[D]? = some (.deferred (some [])) := (ga1.block D (row_lt hKd) (by simp)).trans hKd
          have H9 := hide (And.intro (y8.alloc (.cells #[.int .i64 0] 3)) (And.intro (y13.alloc (.cells #[.int .i64 0] 3)) (And.intro (y14.alloc (.cells #[.int .i64 0] 3)) (And.intro (own_grown r1 ga1) (And.intro (own_grown r2 ga1) (And.intro (it2.grown ga1) (And.intro (yq.then ga1) (And.intro (grown_trans gw ga1) (And.intro x22 hKd1)))))))))
          have HDl : Hid (wR.heap.size ≤ D ∧ D < W.heap.size ∧ wR.heap.size ≤ W.heap.size ∧ b18 < wR.heap.size) := ⟨hD, row_lt hKd, hWs, hb18W⟩
          clear hne hsz y8 y13 y14 y16 r1 r2 it2 yq gw ga1 x22 hK hKd hKd1 hD hWs hb18W
          go_wp2
          generalize hW1 : W.alloc (.cells #[.int .i64 0] 3) = W1 at *
          clear hW1 c16a
          have hBW1 : B < W1.heap.size := row_lt H9.out.2.2.2.2.2.1.box
          have hsoW1 : ∀ a, so = some a → M.length ≠ 0 → a.block < W1.heap.size := fun a ha hn => by
            have := HRR.out.2 a ha hn
            have := HDl.out.2.2.1
            omega
          have HR1 := hide (And.intro hBW1 hsoW1)
          have hBlt : B < W.heap.size := by have := HRR.out.1; have := HDl.out.2.2.1; omega
          clear hBW1 hsoW1
          refine (wpIn_wide (n := 8)).1 (wpIn_rangeFunc_ownG (w := W1) rfl (by decide) (gf := 41) (lb := #[.pointer (some ⟨B, 0, none⟩)]) rfl trivial (enters_of Try.func41 (by kernel_rfl) rfl)
            (it_stops (KpE B so M.length) (fun W => ItE W B so ic M) 7 (by decide) B so ic M hM9 W1 (fun _ h => h) (fun W W' k h => h.keep k) (fun W W' g h => h.grown g) (fun W hW => H9.out.2.2.2.2.2.1.grown (below_grown hW)))
            (fun h k => h.trans k) ?put3 (Below.refl _ _) (fun _ => rfl)
            (fun pre' W' => Kept W1 W' (fun i => i = W.heap.size) ∧ Boxed W' W.heap.size 3 (.int .i64 (pre'.length : Int))) (fun _ _ _ => False)
            (OwnFrom.and (kept_own (Nat.le_refl _) _) (box_own _)) (fun _ _ _ _ _ h _ _ => h)
            ⟨Kept.refl _ _, H9.out.2.2.2.2.2.2.2.2.1⟩ (fun y => { tmps := #[Value.int IntKind.i64 n, Value.slice ao len cap, Value.slice bo len2 cap2, Value.int IntKind.i64 k, undef, undef, undef, Value.pointer (some ⟨w.heap.size, 0, none⟩), Value.pointer (some ⟨w.heap.size + 1, 0, none⟩), Value.pointer (some ⟨p.x, 0, none⟩), Value.bool true, Value.pointer (some ⟨q.x, 0, none⟩), Value.bool true, Value.pointer (some ⟨w4.heap.size, 0, none⟩), Value.pointer (some ⟨w4.heap.size + 1, 0, none⟩), Value.bool true, Value.pointer (some ⟨w6.heap.size, 0, none⟩), Value.int IntKind.i64 (i : Int), Value.pointer (some ⟨b18, 0, none⟩), undef, undef, undef, Value.pointer (some ⟨W.heap.size, 0, none⟩), undef, undef, undef, Value.tuple #[Value.pointer (some ⟨p.x, 0, none⟩), Value.bool true], Value.int IntKind.i64 n, Value.slice ao len cap, Value.tuple #[Value.pointer (some ⟨p.x, 0, none⟩), Value.bool true], Value.pointer (some ⟨p.x, 0, none⟩), Value.bool true, Value.tuple #[Value.pointer (some ⟨q.x, 0, none⟩), Value.bool true], Value.int IntKind.i64 n, Value.slice ao len cap, Value.tuple #[Value.pointer (some ⟨q.x, 0, none⟩), Value.bool true], Value.pointer (some ⟨q.x, 0, none⟩), Value.bool true, Value.bool true, Value.bool false, Value.bool false, Value.bool true, Value.bool false, Value.bool false, Value.tuple #[Value.slice sa L ca, Value.slice sb L cb, Value.bool true], Value.pointer (some ⟨p.x, 0, none⟩), Value.tuple #[Value.slice sa L ca, Value.slice sb L cb, Value.bool true], Value.slice sa L ca, Value.slice sb L cb, Value.bool true, Value.pointer (some ⟨p.x, 0, none⟩), Value.func (Fn.func 41) #[] #[Value.pointer (some ⟨B, 0, none⟩)], Value.func (Fn.func 41) #[] #[Value.pointer (some ⟨B, 0, none⟩)], Value.bool false, u54, u55, u56, u57, u58, u59, u60, u61, u62, u63, u64, u65, u66, u67, u68, u69, Value.int IntKind.i64 k, Value.slice sa L ca, Value.int IntKind.i64 (L : Int), Value.int IntKind.i64 ((L : Int) + 1), Value.int IntKind.i64 (kk : Int), Value.func (Fn.func 41) #[] #[Value.pointer (some ⟨B, 0, none⟩)], undef, undef, undef, undef, undef, undef, undef, undef, undef, undef, undef, undef, undef, undef, undef, undef, undef, undef, undef, undef, undef, undef, undef, undef, undef, undef, undef, undef, undef, undef, undef, undef, undef, undef, undef, undef, undef, undef, undef, Value.func (Fn.func 41) #[] #[Value.pointer (some ⟨B, 0, none⟩)], .int .u32 (y.1 : Int), .int .i64 y.2, undef, undef, undef, undef, undef, undef, undef, undef, undef, undef, undef, undef, undef, undef, undef, undef, undef, undef, undef, undef, undef, undef, undef, undef, undef, undef, undef, undef], defers := [] }) ?assign3 ?body3 ?done3 (fun _ _ _ _ _ _ h => h.elim))
          case put3 =>
            intro W' l' o o' hl ho _ _
            have hll := row_lt ho
            refine KpE.of (Kept.of (grownBy_putObj' W' l' o') (S := fun i => i = l') (fun j e _ => (Option.some.inj e).symm)) (by have := HR1.out.1; omega) (by have := HR1.out.1; omega) (fun a ha hn => ?_)
            have := HR1.out.2 a ha hn
            constructor <;> omega
          case assign3 =>
            intro l2 y W' K' hK'
            simp only [encE]
            gi_wp2
            exact hK'
          case body3 =>
            rintro l2 pre' y W' ⟨hk', hb'⟩ hlt'
            have c21 := hb'.cell
            have f21 := hb'.frozen
            have hwq : IntKind.i64.wrap ((pre'.length : Int) + 1) = (pre'.length : Int) + 1 := by rw [IntKind.wrap_i64]; omega
            have ks := kept_setCell W' W.heap.size 0 (.int .i64 ((pre'.length : Int) + 1))
            have HQ : Hid (KeepsFrom W1.heap.size W' (W'.setCell ⟨W.heap.size, 0, none⟩ (.int .i64 ((pre'.length : Int) + 1))) ∧ KpE B so M.length W' (W'.setCell ⟨W.heap.size, 0, none⟩ (.int .i64 ((pre'.length : Int) + 1))) ∧ (Kept W1 (W'.setCell ⟨W.heap.size, 0, none⟩ (.int .i64 ((pre'.length : Int) + 1))) (fun i => i = W.heap.size) ∧ Boxed (W'.setCell ⟨W.heap.size, 0, none⟩ (.int .i64 ((pre'.length : Int) + 1))) W.heap.size 3 (.int .i64 ((pre' ++ [y]).length : Int)))) := by
              refine ⟨(KeepsOthers.setCell _ _ _).from _, KpE.of ks (by have := HR1.out.1; have := hk'.size; omega) (by omega) (fun a ha hn => ?_), ⟨hk'.trans ks (fun _ _ e => e), ?_⟩⟩
              · have := HRR.out.2 a ha hn
                have := HDl.out.2.2.1
                have := hk'.size
                constructor <;> omega
              · have hl : ((pre' ++ [y]).length : Int) = (pre'.length : Int) + 1 := by rw [List.length_append]; simp
                rw [hl]
                exact hb'.set _
            clear hk' hb' ks
            gi_wp2
            exact HQ.out
          case done3 =>
            rintro D2 ys W2 hD2 rfl ⟨hk2, hb2⟩ hKd2
            have hlen := HSz.out.2.2.2.2.2.2.2.2.2.2.2
            rw [← hlen] at hb2
            have hne : ∀ i, i < W.heap.size → ¬ i = W.heap.size := fun i hi e => by omega
            have y8 : Boxed W2 (w.heap.size + 1) 4 (.bool false) := hk2.at H9.out.1 (hne _ (by have := HSz.out; have := HDl.out; omega))
            have y13 : Boxed W2 w4.heap.size 30 (.slice sa L ca) := hk2.at H9.out.2.1 (hne _ (by have := HSz.out; have := HDl.out; omega))
            have y14 : Boxed W2 (w4.heap.size + 1) 31 (.slice sb L cb) := hk2.at H9.out.2.2.1 (hne _ (by have := HSz.out; have := HDl.out; omega))
            have r1 : W2.ownsRow w3.heap.size 56 1 (.slice sa L ca) L (idV ys) := row_keep H9.out.2.2.2.1 (fun g hg => by
              obtain ⟨h1, cur, hc⟩ := own_block H9.out.2.2.2.1 hg
              have := (H5.out.2.2.2.2.1.lt g hg).2
              exact hk2.block g (row_lt hc) (hne _ (by have := HSz.out; have := HDl.out; omega)))
            have r2 : W2.ownsRow w3.heap.size 3 1 (.slice sb L cb) L (vlV ys) := row_keep H9.out.2.2.2.2.1 (fun g hg => by
              obtain ⟨h1, cur, hc⟩ := own_block H9.out.2.2.2.2.1 hg
              have := (H5.out.2.2.2.2.2.1.lt g hg).2
              exact hk2.block g (row_lt hc) (hne _ (by have := HSz.out; have := HDl.out; omega)))
            have yq : Io W2 q ys lo := H9.out.2.2.2.2.2.2.1.far hk2 (fun i hi e => by have := H3.out.2.1.lt i hi; have := HSz.out; have := HDl.out; omega)
            have gw : w.grownBy W2 none := Kept.grown ((Kept.new H9.out.2.2.2.2.2.2.2.1 (fun i => w.heap.size ≤ i)).trans hk2 (fun i _ e => by have := HSz.out; have := HDl.out; omega)) (fun i hi e => by omega)
            have hKd : W2.heap[D]? = some (.deferred (some [])) := (hk2.block D (by have := HDl.out; omega) (hne _ HDl.out.2.1)).trans H9.out.2.2.2.2.2.2.2.2.2
            have hDD : D ≠ D2 := by have := HDl.out; omega
            have htl := told_io yq
            have HG := hide (And.intro y8 (And.intro y13 (And.intro y14 (And.intro r1 (And.intro r2 (And.intro gw (And.intro hKd (And.intro hKd2 (And.intro hb2 hDD)))))))))
            have hysM : L = ys.length := hlen
            clear hne y8 y13 y14 r1 r2 yq gw hKd hKd2 hb2 hk2 H9 hlen
            go_wp2_with fail
            refine htl.mono ?_
            clear htl
            rintro e W3 ⟨va, vb, rfl, hr1, hr2, g3⟩
            have z8 := HG.out.1.kept g3 (by simp)
            have z13 := HG.out.2.1.kept g3 (by simp)
            have z14 := HG.out.2.2.1.kept g3 (by simp)
            have z22 := HG.out.2.2.2.2.2.2.2.2.1.kept g3 (by simp)
            have q1 := own_grown HG.out.2.2.2.1 g3
            have q2 := own_grown HG.out.2.2.2.2.1 g3
            rw [hysM] at q1 q2
            have hsl := sameLimbs_any hr1 q1 hM9
            rw [← hysM] at hsl
            have c13 := z13.cell
            have c22 := z22.cell
            have HH := hide (And.intro z8 (And.intro z13 (And.intro z14 (And.intro q2 (And.intro hr2 (And.intro g3 hysM))))))
            clear z8 z13 z14 z22 q1 q2 hr1 hr2 g3 hysM
            have d1 : ((L : Int) == (L : Int)) = true := by simp
            have d2 : decide ((L : Int) = (L : Int)) = true := by simp
            go_wp2_with fail
            refine hsl.mono ?_
            clear hsl
            rintro e W4 ⟨rfl, g4⟩
            have c14 := (HH.out.2.2.1.kept g4 (by simp)).cell
            have hsi := sameInts_any (own_grown HH.out.2.2.2.2.1 g4) (own_grown HH.out.2.2.2.1 g4) hM9
            rw [← HH.out.2.2.2.2.2.2] at hsi
            have H44 := hide g4
            clear g4 c13 c22
            go_wp2_with fail
            refine hsi.mono ?_
            clear hsi
            rintro e W5 ⟨rfl, g5⟩
            have haw := awake_any W5
            have H55 := hide g5
            clear g5 c14
            go_wp2_with fail
            refine haw.mono ?_
            clear haw
            rintro e W6 ⟨rfl, g6⟩
            have hg6 := grown_trans HH.out.2.2.2.2.2.1 (grown_trans H44.out (grown_trans H55.out g6))
            have z8 := HG.out.1.kept hg6 (by simp)
            have c8 := z8.cell
            have f8 := z8.frozen
            have H66 := hide (And.intro hg6 z8)
            clear hg6 z8 g6
            go_wp2
            obtain ⟨hg6, z8⟩ := H66.out
            have hw8 : w.heap.size + 1 < W.heap.size := by have := HSz.out; have := HDl.out; omega
            have hs6 : W2.heap.size ≤ W6.heap.size := hg6.size
            have hdl2 := row_lt HG.out.2.2.2.2.2.2.2.1
            have hdl1 := row_lt HG.out.2.2.2.2.2.2.1
            have kd := kept_setCell W6 (w.heap.size + 1) 0 (.bool true)
            have e2 : (W6.setCell ⟨w.heap.size + 1, 0, none⟩ (.bool true)).heap[D2]? = some (.deferred (some [])) := (kd.block D2 (by omega) (by have := HDl.out; omega)).trans ((hg6.block D2 hdl2 (by simp)).trans HG.out.2.2.2.2.2.2.2.1)
            have e1 : (W6.setCell ⟨w.heap.size + 1, 0, none⟩ (.bool true)).heap[D]? = some (.deferred (some [])) := (kd.block D (by omega) (by have := HSz.out; have := HDl.out; omega)).trans ((hg6.block D hdl1 (by simp)).trans HG.out.2.2.2.2.2.2.1)
            have k2 : Kept (W6.setCell ⟨w.heap.size + 1, 0, none⟩ (.bool true)) ((W6.setCell ⟨w.heap.size + 1, 0, none⟩ (.bool true)).putObj D2 (.deferred none)) (fun i => i = D2) := Kept.of (grownBy_putObj' _ D2 _) (fun j e _ => (Option.some.inj e).symm)
            have k3 : Kept ((W6.setCell ⟨w.heap.size + 1, 0, none⟩ (.bool true)).putObj D2 (.deferred none)) (((W6.setCell ⟨w.heap.size + 1, 0, none⟩ (.bool true)).putObj D2 (.deferred none)).putObj D (.deferred none)) (fun i => i = D) := Kept.of (grownBy_putObj' _ D _) (fun j e _ => (Option.some.inj e).symm)
            have e3 := (k2.block D (row_lt e1) HG.out.2.2.2.2.2.2.2.2.2).trans e1
            have z9 : Boxed _ (w.heap.size + 1) 4 (.bool true) := k3.at (k2.at (z8.set (.bool true)) (by have := HDl.out; omega)) (by have := HSz.out; have := HDl.out; omega)
            refine ⟨by simp, .inl ⟨_, _, rfl, run_takeDeferred e2, ?_⟩⟩
            refine ⟨by simp, .inl ⟨_, _, rfl, run_takeDeferred e3, ?_⟩⟩
            refine ⟨_, results_cell4 (fn := Try.f7) rfl _ _ (w.heap.size + 1) _ (by rfl) z9.cell, rfl, ?_⟩
            exact Kept.grown ((((Kept.new (grown_trans HG.out.2.2.2.2.2.1 hg6) (fun i => w.heap.size ≤ i)).trans kd (fun i _ e => by omega)).trans k2 (fun i hi e => by have := HSz.out; have := HDl.out; omega)).trans k3 (fun i hi e => by have := HSz.out; have := HDl.out; omega)) (fun i hi e => by omega)
end Go.Proofs.Ytoocaioilpgmeaa
