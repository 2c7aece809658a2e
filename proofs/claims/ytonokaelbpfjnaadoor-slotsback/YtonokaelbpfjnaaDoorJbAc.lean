/- Texts joined: Settle, Crash, Kit, Sec, Own. -/
import Derived.Test.YtonokaelbpfjnaaDoorJbAb
import Derived.Deep.AppendLies
/- The contracts of settle, Sync and Crash. -/
namespace Go.Proofs.YtonokaelbpfjnaaDoor
open Go.RowKit Ap
attribute [local go_sem ↓] Go.wp_at_zero Go.wp_at_succ

/-- copy as one step of a region that draws its order: the row behind it, and that no other block has turned. -/
theorem step_copy_grown {P : Program} {ops : Array Oper} {o : Oper} {a : Act} {w : World} {K : Act → World → Prop} {Q : Exit → Act → World → Prop} {E : Prop} (hgd : o.guard = none) (d s : Operand) (dT sT : TypeId)
    (ho : o.op = .call { callee := .builtin .copy, args := #[d, s], argTypes := #[dT, sT] }) (elem : TypeId) (hu : P.underlying dT = some (.slice elem)) (hsz : (P.info? elem).map (·.size) = some 1)
    (dp sp : Option Addr) (dLen dCap sLen sCap : Nat) (hd : a.eval d = .slice dp dLen dCap) (hs : a.eval s = .slice sp sLen sCap)
    (g off : Nat) (cur : List Value) (t : TypeId) (hg : w.heap[g]? = some (.cells cur.toArray t (0, 0))) (cs : List Value) (hn : cs.length = Nat.min sLen dLen)
    (hpos : 0 < cs.length → dp = some ⟨g, off, none⟩ ∧ ∃ ad, sp = some ad ∧ ∀ j v, cs[j]? = some v → w.cell? (ad.add j) = some v)
    (hfit : off + cs.length ≤ cur.length) (h1 : ∀ v ∈ cs, v.oneCell' = true)
    (h : ∀ w', Hid (w'.heap[g]? = some (.cells (splice cur off cs).toArray t (0, 0))) → w.grownBy w' (some g) → K (a.put o.dst (goInt cs.length)) w') :
    if Region.wanted o (yielded ops a.tmps) = true then Oper.wp P o a w K Q else E := by
  have hw : Region.wanted o (yielded ops a.tmps) = true := by simp [Region.wanted, hgd]
  rw [if_pos hw]
  by_cases h0 : cs.length = 0
  · obtain rfl : cs = [] := List.eq_nil_of_length_eq_zero h0
    have hrun := run_copy_none (P := P) w dT sT o.type elem dp sp dLen dCap sLen sCap hu hsz (by simpa using hn.symm)
    unfold Oper.wp
    simp [execOp, ho, resolve, invoke, builtin, hd, hs, hrun, Result.andThen]
    exact h w (show _ = _ by simpa [splice] using hg) (grown_refl w _)
  · obtain ⟨rfl, ad, rfl, hsrc⟩ := hpos (by omega)
    have hrun := run_copy_row (P := P) w dT sT o.type elem g off dLen dCap ad sLen sCap cur.toArray t cs hu hsz hg hn hsrc (by simpa using hfit) h1
    unfold Oper.wp
    simp [execOp, ho, resolve, invoke, builtin, hd, hs, hrun, Result.andThen]
    exact h _ (show _ = _ by simpa [splice] using setRow_heap w g _ _ t _ hg) (grown_setRow w g _)

theorem bv_splice (xs ys : List Nat) (o : Nat) : bv (splice xs o ys) = splice (bv xs) o (bv ys) := by simp [splice, bv, List.map_take, List.map_drop]
/-- The durable bytes behind the first j of the writes, of the i-th of which L i bytes last. -/
def stl (size : Nat) (L : Nat → Nat) (D : List Nat) (W : List Wt) : Nat → List Nat
  | 0 => D
  | j + 1 => match W[j]? with
    | some x => splice (stl size L D W j) (x.sec * size) (x.xs.take (L j))
    | none => stl size L D W j
theorem stl_step {size : Nat} {L : Nat → Nat} {D : List Nat} {W : List Wt} {j : Nat} {x : Wt} (h : W[j]? = some x) : stl size L D W (j + 1) = splice (stl size L D W j) (x.sec * size) (x.xs.take (L j)) := by simp [stl, h]

section
variable {w : World} {k : Dk} {n size : Nat} {D : List Nat} {W : List Wt}
theorem DiskAt.fits (h : DiskAt w k n size D W) {x : Wt} (hx : x ∈ W) (m : Nat) : x.sec * size + (x.xs.take m).length ≤ n * size := by
  obtain ⟨h1, h2, _⟩ := h.waits x hx
  have : (x.sec + 1) * size ≤ n * size := Nat.mul_le_mul_right _ h1
  rw [Nat.succ_mul] at this
  simp [h2]; omega
theorem DiskAt.setDur (h : DiskAt w k n size D W) {w' : World} {D' : List Nat} (hg : w.grownBy w' (some k.db)) (hd : w'.heap[k.db]? = some (.cells (bv D').toArray 5 (0, 0))) (hl : D'.length = D.length) : DiskAt w' k n size D' W := by
  obtain ⟨e1, e2, e3, e4, e5, e6⟩ := h.vw_ne
  have hb : ∀ i, foot k W i → i ≠ k.db → w'.heap[i]? = w.heap[i]? := fun i hi hn => hg.block i (h.lt i hi) (fun e => hn (Option.some.inj e))
  refine ⟨h.shape, (hb _ (.inl (.inl rfl)) e4).trans h.head, hd, hl.trans h.len, row_same h.row (fun g hg => hb _ (.inl (.inr (.inr (.inl hg)))) (fun e => e2 (by rw [hg, e]))), h.map.same (hb _ (.inl (.inr (.inr (.inr rfl)))) (fun e => e6 e.symm)), ?_, h.few⟩
  intro x hx
  obtain ⟨h1, h2, h3, h4⟩ := h.waits x hx
  exact ⟨h1, h2, h3, (hb _ (.inr ⟨x, hx, rfl⟩) h3).trans h4⟩
theorem DiskAt.wait_cells (h : DiskAt w k n size D W) {g cap : Nat} (hv : k.vw = .slice (some ⟨g, 0, none⟩) W.length cap) {j : Nat} {x : Wt} (hx : W[j]? = some x) :
    w.cell? ⟨g, j * 2, none⟩ = some (.int .i64 (x.sec : Int)) ∧ w.cell? ⟨g, j * 2 + 1, none⟩ = some (bsl x.blk size) := by
  have hr := h.row
  rw [hv] at hr
  have hj : j < W.length := (List.getElem?_eq_some_iff.1 hx).1
  obtain ⟨a, b⟩ := wcells_get size W j x hx
  rw [Nat.mul_comm] at a b
  exact ⟨by rw [hr.cellAt _ (by omega)]; exact a, by rw [hr.cellAt _ (by omega)]; exact b⟩

theorem settled_of {w wr w6 : World} {k : Dk} {n size : Nat} {D : List Nat} {W : List Wt} (h : DiskAt wr k n size D W) (hg : w.grownBy wr (some k.db)) (hm : MapAt w6 Tryd.prog 3 k.mb 0 (fun _ => none)) (hg6 : (wr.setCell ⟨k.d, 3, none⟩ (.slice none 0 0)).grownBy w6 (some k.mb)) :
    DiskAt w6 ⟨k.d, k.db, .slice none 0 0, k.mb⟩ n size D [] ∧ Kept w w6 (fun i => i = k.d ∨ i = k.db ∨ i = k.mb) := by
  obtain ⟨e1, e2, e3, e4, e5, e6⟩ := h.vw_ne
  have g4 := grown_setCell wr k.d 3 (.slice none 0 0)
  refine ⟨⟨h.shape, ?_, ?_, h.len, World.ownsRow_nil _ _ _ _, hm, by simp, by simp⟩, ?_⟩
  · refine (hg6.block k.d (by have := row_lt h.head; simpa [World.setCell] using this) (fun e => e5 (Option.some.inj e))).trans ?_
    rw [World.setCell]
    simp [Array.getElem?_modify, h.head]
  · refine (hg6.block k.db (by have := row_lt h.dur; simpa [World.setCell] using this) (fun e => e6 (Option.some.inj e))).trans ?_
    exact (Below.heap_setCell _ _ _ _ (show k.db ≠ k.d from fun e => e4 e.symm)).trans h.dur
  · exact ((Kept.of hg (S := fun i => i = k.d ∨ i = k.db ∨ i = k.mb) (fun j e _ => by cases e; exact Or.inr (Or.inl rfl))).trans
      (Kept.of g4 (S := fun i => i = k.d ∨ i = k.db ∨ i = k.mb) (fun j e _ => by cases e; exact Or.inl rfl)) (fun _ _ e => e)).trans
      (Kept.of hg6 (S := fun i => i = k.d ∨ i = k.db ∨ i = k.mb) (fun j e _ => by cases e; exact Or.inr (Or.inr rfl))) (fun _ _ e => e)
set_option maxHeartbeats 400000 in
theorem settle_none (p : Option Addr) (v : Value) (w : World) (h : NoDisk w p) : Calls Tryd.prog 95 #[.pointer p, v] w fun e w' => e = .returned (.int .i64 1) ∧ w' = w := by
  have H := hide h.is
  clear h
  go_enter Tryd.func95, Tryd.ntmps95
  go_wp2_with fail
  refine H.out.mono ?_
  rintro e w' ⟨rfl, rfl⟩
  go_wp2
  go_ret
  exact ⟨rfl, rfl⟩

set_option maxRecDepth 20000 in
set_option maxHeartbeats 4000000 in
theorem settle57 (K A : Nat → Int) (h : DiskAt w k n size D W)
    (hf : ∀ i, i < W.length → ∀ w', w.grownBy w' (some k.db) → Calls Tryd.prog 96 #[.int .i64 (i : Int)] w' fun e w'' => e = .returned (.agg #[.int .i64 (K i), .int .i64 (A i)]) ∧ w'.grownBy w'' none) :
    Calls Tryd.prog 95 #[.pointer (some ⟨k.d, 0, none⟩), .func (.func 96) #[] #[]] w fun e w' => e = .returned (.int .i64 0) ∧
      DiskAt w' ⟨k.d, k.db, .slice none 0 0, k.mb⟩ n size (stl size (fun i => lasts (K i) (A i) size) D W W.length) [] ∧ Kept w w' (fun i => i = k.d ∨ i = k.db ∨ i = k.mb) := by
  have H := hide h.is
  have HD := hide h
  have HF := hide hf
  have c3 := h.c3
  obtain ⟨ao, cap, hv, hao, hao2⟩ := h.vw_form
  rw [hv] at c3
  have HV := hide (And.intro hv (And.intro hao hao2))
  obtain ⟨m, hm⟩ : ∃ m, m = W.length := ⟨_, rfl⟩
  rw [← hm] at c3
  have HM := hide hm
  have hfew : m ≤ 1000000 := by rw [hm]; exact h.few
  clear h hf hv hao hao2 hm
  go_enter Tryd.func95, Tryd.ntmps95
  go_wp2_with fail
  refine H.out.mono ?_
  rintro e w' ⟨rfl, rfl⟩
  go_wp2
  go_loopg [14] m (fun q i wr => ∃ j : Nat, q + j = m ∧ i = .int .i64 j ∧ Hid (DiskAt wr k n size (stl size (fun i => lasts (K i) (A i) size) D W j) W ∧ w'.grownBy wr (some k.db)))
  case atStart => exact ⟨0, by omega, rfl, hide ⟨HD.out, grown_refl _ _⟩⟩
  case round =>
    obtain ⟨j, hkj, rfl, HR⟩ := hrel
    by_cases hk : 0 < gk
    · obtain ⟨x, hx⟩ : ∃ x, W[j]? = some x := ⟨_, List.getElem?_eq_getElem (by have := HM.out; omega)⟩
      obtain ⟨gw, rfl⟩ : ∃ gw, ao = some ⟨gw, 0, none⟩ := by
        cases ao with
        | none => have := HV.out.2.1 rfl; have := HM.out; omega
        | some a => exact ⟨a.block, by rw [← HV.out.2.2 a rfl]⟩
      obtain ⟨d1, d2⟩ := HR.out.1.wait_cells (by rw [HV.out.1]) hx
      have HX := hide hx
      have h1 : (0 : Int) ≤ (j : Int) := by omega
      have h2 : (j : Int) < (m : Int) := by omega
      unfold bsl at d2
      clear hx
      have HB := hide (And.intro HR.out.1 HR.out.2)
      obtain ⟨a1, a2, a3, a4⟩ := HR.out.1.waits x (List.mem_of_getElem? HX.out)
      have g0 := World.grownBy_alloc wr (.cells #[.int .i64 (x.sec : Int), .slice (some ⟨x.blk, 0, none⟩) size size] 160) none
      have D0 := HR.out.1.grown g0
      have G0 : w'.grownBy (wr.alloc (.cells #[.int .i64 (x.sec : Int), .slice (some ⟨x.blk, 0, none⟩) size size] 160)) (some k.db) := grown_trans HR.out.2 (grown_none g0 _)
      have b0 := cell_two wr (.int .i64 (x.sec : Int)) (.slice (some ⟨x.blk, 0, none⟩) size size) 160 0 _ rfl
      have b1 := cell_two wr (.int .i64 (x.sec : Int)) (.slice (some ⟨x.blk, 0, none⟩) size size) 160 1 _ rfl
      have b2 := D0.c1
      rw [Addr.add_lit] at b0 b1
      have hne : some wr.heap.size ≠ some k.db := fun e => by have := HR.out.1.lt k.db (.inl (.inr (.inl rfl))); have := Option.some.inj e; omega
      have hne2 : some k.d ≠ some k.db := fun e => HR.out.1.vw_ne.2.2.2.1 (Option.some.inj e)
      have hL := lasts_le (K j) (A j) size
      have HS : Hid (∀ w2, (wr.alloc (.cells #[.int .i64 (x.sec : Int), .slice (some ⟨x.blk, 0, none⟩) size size] 160)).grownBy w2 none → Calls Tryd.prog 90 #[.pointer (some ⟨k.d, 0, none⟩), .int .i64 (x.sec : Int)] w2 fun e w3 => e = .returned (.slice (some ⟨k.db, x.sec * size, none⟩) size (n * size - x.sec * size)) ∧ w2.grownBy w3 none) := fun w2 hg => (sector_any (D0.grown hg) x.sec a1).mono (by rintro e w3 ⟨rfl, q, rfl⟩; exact ⟨rfl, grown_drewN _ _ _⟩)
      have HC := hide (HF.out j (by have := HM.out; omega))
      have HLs := hide (lasting_any (K j) (A j) size)
      have hstep : stl size (fun i => lasts (K i) (A i) size) D W (j + 1) = splice (stl size (fun i => lasts (K i) (A i) size) D W j) (x.sec * size) (x.xs.take (lasts (K j) (A j) size)) := stl_step HX.out
      have hfit := HR.out.1.fits (List.mem_of_getElem? HX.out) (lasts (K j) (A j) size)
      have hsl := slice_to (some ⟨x.blk, 0, none⟩) size size (lasts (K j) (A j) size) hL
      have hlen := HR.out.1.len
      have hzl : (x.xs.take (lasts (K j) (A j) size)).length = lasts (K j) (A j) size := by simp [a2]; omega
      have hdur := D0.dur
      have hsrc : At (wr.alloc (.cells #[.int .i64 (x.sec : Int), .slice (some ⟨x.blk, 0, none⟩) size size] 160)) (some ⟨x.blk, 0, none⟩) (x.xs.take (lasts (K j) (A j) size)) := (at_row (g0.block _ (row_lt a4) (by simp) |>.trans a4)).take _
      have HA := hide (And.intro a3 (And.intro hfit (And.intro hlen (And.intro hzl (And.intro hdur (And.intro hsrc (And.intro hstep (And.intro D0 (And.intro G0 (And.intro hne hne2))))))))))
      clear a1 a2 a3 a4 g0 D0 G0 hne hne2 hstep hfit hlen hzl hdur hsrc
      generalize lasts (K j) (A j) size = L at *
      go_wp2_with fail
      generalize wr.alloc (.cells #[.int .i64 (x.sec : Int), .slice (some ⟨x.blk, 0, none⟩) size size] 160) = w0 at *
      have hS := And.intro b0 (And.intro b1 b2)
      clear b0 b1 b2
      have HSS : Hid (∀ w2 : World, w0.grownBy w2 (some k.db) → (w2.cell? ⟨wr.heap.size, 0 + 0, none⟩ = some (.int .i64 (x.sec : Int)) ∧ w2.cell? ⟨wr.heap.size, 0 + 1, none⟩ = some (.slice (some ⟨x.blk, 0, none⟩) size size) ∧ w2.cell? ⟨k.d, 1, none⟩ = some (.int .i64 (size : Int)))) := fun w2 hg => by
        obtain ⟨_, _, _, _, _, _, _, _, _, hne, hne2⟩ := HA.out
        exact ⟨hg.cell hS.1 hne, hg.cell hS.2.1 hne, hg.cell hS.2.2 hne2⟩
      have HCP : Hid (∀ w2 : World, w0.grownBy w2 none → w2.heap[k.db]? = some (.cells (bv (stl size (fun i => lasts (K i) (A i) size) D W j)).toArray 5 (0, 0)) ∧ (bv (x.xs.take L)).length = Nat.min L size ∧
          (0 < (bv (x.xs.take L)).length → ∃ ad, some (⟨x.blk, 0, none⟩ : Addr) = some ad ∧ ∀ j v, (bv (x.xs.take L))[j]? = some v → w2.cell? (ad.add j) = some v) ∧
          x.sec * size + (bv (x.xs.take L)).length ≤ (bv (stl size (fun i => lasts (K i) (A i) size) D W j)).length ∧ (∀ v ∈ bv (x.xs.take L), v.oneCell' = true)) := by
        intro w2 hg
        obtain ⟨_, b1, b2, b3, b4, b5, _⟩ := HA.out
        refine ⟨(hg.block _ (row_lt b4) (by simp)).trans b4, by rw [bv_length, b3]; exact (Nat.min_eq_left hL).symm, fun _ => ⟨_, rfl, ?_⟩, by rw [bv_length, bv_length, b2]; exact b1, ?_⟩
        · intro i v hv
          rw [bv, List.getElem?_map] at hv
          cases hj : (x.xs.take L)[i]? with
          | none => simp [hj] at hv
          | some y =>
            simp [hj] at hv
            obtain ⟨a', ea', hc'⟩ := (b5.grown hg) i y hj
            cases ea'
            rw [← hv]; exact hc'
        · intro v hv; rw [bv, List.mem_map] at hv; obtain ⟨y, _, rfl⟩ := hv; rfl
      have HG0 : Hid (w'.grownBy w0 (some k.db)) := HA.out.2.2.2.2.2.2.2.2.1
      have HST : Hid (∀ w5 : World, w5.heap[k.db]? = some (.cells (splice (bv (stl size (fun i => lasts (K i) (A i) size) D W j)) (x.sec * size) (bv (x.xs.take L))).toArray 5 (0, 0)) → w0.grownBy w5 (some k.db) → DiskAt w5 k n size (stl size (fun i => lasts (K i) (A i) size) D W (j + 1)) W ∧ w'.grownBy w5 (some k.db)) := by
        intro w5 h5 hg5
        obtain ⟨_, b1, b2, b3, b4, b5, b6, b7, b8, _⟩ := HA.out
        refine ⟨b7.setDur hg5 ?_ ?_, grown_trans b8 hg5⟩
        · rw [h5, b6, bv_splice]
        · rw [b6, length_splice _ _ _ (by rw [b2]; exact b1)]
      clear HA HR HB HX
      generalize bv (x.xs.take L) = XV at *
      generalize bv (stl size (fun i => lasts (K i) (A i) size) D W j) = DV at *
      generalize n * size - x.sec * size = cc at *
      generalize x.sec * size = off at *
      go_region_held3 (fun w' => w'.cell? ⟨wr.heap.size, 0 + 0, none⟩ = some (.int .i64 (x.sec : Int)) ∧ w'.cell? ⟨wr.heap.size, 0 + 1, none⟩ = some (.slice (some ⟨x.blk, 0, none⟩) size size) ∧ w'.cell? ⟨k.d, 1, none⟩ = some (.int .i64 (size : Int))) (first | assumption | go_keep) (first
        | (go_at_call 90; refine (HS.out _ (grown_drew _ _)).mono ?_; rintro e w2 ⟨rfl, hg2'⟩; have hg2 := grown_trans (grown_drew w0 none) hg2'; clear hg2'; have hS2 := HSS.out w2 (grown_none hg2 _))
        | (go_at_call 97; refine (HLs.out _).mono ?_; rintro e w4 ⟨rfl, hg4'⟩; have hg4 := grown_trans hg3 hg4'; clear hg4'; have hS4 := HSS.out w4 (grown_none hg4 _))
        | (have hgx := hg4; clear hgx; refine step_copy_grown rfl (.tmp 22) (.tmp 33) 22 22 rfl 5 Tryd.underlying22 Tryd.size5 (some ⟨k.db, off, none⟩) (some ⟨x.blk, 0, none⟩) size cc L size (by rfl) (by rfl) k.db off DV 5 (HCP.out _ hg4).1 XV (HCP.out _ hg4).2.1 (fun hp => ⟨rfl, (HCP.out _ hg4).2.2.1 hp⟩) (HCP.out _ hg4).2.2.2.1 (HCP.out _ hg4).2.2.2.2 ?_; intro w5 H5 hg5; have hg5' := grown_trans (grown_none hg4 _) hg5; have hS5 := HSS.out w5 hg5')
        | (go_at_call 96; refine (HC.out _ (grown_trans HG0.out (grown_none hg2 _))).mono ?_; rintro e w3 ⟨rfl, hg3'⟩; have hg3 := grown_trans hg2 hg3'; clear hg3'; have hS3 := HSS.out w3 (grown_none hg3 _)))
      have H6 := hide (HST.out w5 H5.out hg5')
      clear hS hS2 hS3 hS4 hS5 hg2 hg3 hg4 hg5 hg5' H5 HST HCP HSS HC HLs HS d1 d2 c3
      go_wp2
      go_roundg (gk - 1)
      case measure => omega
      case rel => exact ⟨j + 1, by omega, by go_num, H6⟩
    · have hj : j = m := by omega
      subst hj
      have c3r := HR.out.1.c3
      have c4r := HR.out.1.c4
      have hfr := HR.out.1.free 3
      have hne := HR.out.1.vw_ne
      have c4s : (wr.setCell ⟨k.d, 3, none⟩ (.slice none 0 0)).cell? ⟨k.d, 4, none⟩ = some (.map (some k.mb)) := (World.cell?_setCell_other _ _ _ _ (by simp)).trans c4r
      have hm : MapAt (wr.setCell ⟨k.d, 3, none⟩ (.slice none 0 0)) Tryd.prog 3 k.mb W.length (newest size W) := HR.out.1.map.same (Below.heap_setCell _ _ _ _ (show k.mb ≠ k.d from fun e => hne.2.2.2.2.1 e.symm))
      obtain ⟨w6, hrun, hm6, hg6⟩ := hm.clear (t := 83) (e := 22) Tryd.underlying83 0
      have H6 := hide (And.intro hm6 hg6)
      rw [HV.out.1, ← HM.out] at c3r
      clear hm hm6 hg6 c4r hne c3 hkj hk
      go_wp2
      go_ret
      refine ⟨rfl, ?_⟩
      rw [← HM.out]
      exact settled_of HR.out.1 HR.out.2 H6.out.1 H6.out.2
end
end Go.Proofs.YtonokaelbpfjnaaDoor
/- The contracts of Sync and Crash. -/
namespace Go.Proofs.YtonokaelbpfjnaaDoor
open Go.RowKit Ap
attribute [local go_sem ↓] Go.wp_at_zero Go.wp_at_succ

/-- Fates (their kind, their place) lie there. -/
def FatesAt (w : World) (fo : Option Addr) (F : List (Int × Int)) : Prop := ∀ j p, F[j]? = some p → ∃ b o, fo = some ⟨b, o, none⟩ ∧ w.cell? ⟨b, o + j * 2, none⟩ = some (.int .i64 p.1) ∧ w.cell? ⟨b, o + j * 2 + 1, none⟩ = some (.int .i64 p.2)
theorem FatesAt.kept {w w' : World} {fo : Option Addr} {F : List (Int × Int)} {row : Option Nat} (h : FatesAt w fo F) (hg : w.grownBy w' row) (hr : ∀ a, fo = some a → some a.block ≠ row) : FatesAt w' fo F := by
  intro j p hj
  obtain ⟨b, o, e, h1, h2⟩ := h j p hj
  have hb : some b ≠ row := hr ⟨b, o, none⟩ e
  exact ⟨b, o, e, hg.cell h1 hb, hg.cell h2 hb⟩
theorem FatesAt.grown {w w' : World} {fo : Option Addr} {F : List (Int × Int)} (h : FatesAt w fo F) (hg : w.grownBy w' none) : FatesAt w' fo F := h.kept hg (by simp)
/-- The fate of the i-th. -/
def fateK (F : List (Int × Int)) (i : Nat) : Int := (F[i]?.getD (0, 0)).1
def fateA (F : List (Int × Int)) (i : Nat) : Int := (F[i]?.getD (0, 0)).2

set_option maxHeartbeats 1000000 in
theorem keep_any (i : Nat) (w : World) : Calls Tryd.prog 96 #[.int .i64 (i : Int)] w fun e w' => e = .returned (.agg #[.int .i64 1, .int .i64 0]) ∧ w.grownBy w' none := by
  go_enter Tryd.func96, Tryd.ntmps96
  go_wp2
  refine bodyPost_ret (results_cell_row rfl _ _ w.heap.size 164 #[.int .i64 1, .int .i64 0] (0, 0) _ rfl (heap_alloc_new w _) Tryd.underlying164 rfl (by kernel_rfl)) rfl ?_
  exact ⟨rfl, World.grownBy_alloc w _ none⟩
section
variable {w : World} {k : Dk} {n size : Nat} {D : List Nat} {W : List Wt}
/-- A disk on which nothing waits any more. -/
def Dk.calm (k : Dk) : Dk := ⟨k.d, k.db, .slice none 0 0, k.mb⟩
set_option maxHeartbeats 400000 in
theorem sync_none (p : Option Addr) (w : World) (h : NoDisk w p) : Calls Tryd.prog 93 #[.pointer p] w fun e w' => e = .returned (.int .i64 1) ∧ w' = w := by
  have H := hide (fun v => settle_none p v w h)
  clear h
  go_enter Tryd.func93, Tryd.ntmps93
  go_wp2_with fail
  refine (H.out _).mono ?_
  rintro e w' ⟨rfl, rfl⟩
  go_wp2
  go_ret
  exact ⟨rfl, rfl⟩
set_option maxHeartbeats 400000 in
theorem sync_any (h : DiskAt w k n size D W) : Calls Tryd.prog 93 #[.pointer (some ⟨k.d, 0, none⟩)] w fun e w' => e = .returned (.int .i64 0) ∧
    DiskAt w' k.calm n size (stl size (fun _ => size) D W W.length) [] ∧ Kept w w' (fun i => i = k.d ∨ i = k.db ∨ i = k.mb) := by
  have H := hide (settle57 (fun _ => 1) (fun _ => 0) h (fun i _ w' _ => keep_any i w'))
  clear h
  go_enter Tryd.func93, Tryd.ntmps93
  go_wp2_with fail
  refine H.out.mono ?_
  rintro e w' ⟨rfl, h1, h2⟩
  have HH := hide (And.intro h1 h2)
  clear h1 h2
  go_wp2
  go_ret
  exact ⟨rfl, HH.out⟩
end
end Go.Proofs.YtonokaelbpfjnaaDoor
/- The contracts of SameBytes, SameRows, fill, Pick. -/
namespace Go.Proofs.YtonokaelbpfjnaaDoor
open Go.RowKit Ap
attribute [local go_sem ↓] Go.wp_at_zero Go.wp_at_succ

theorem drews (w : World) (p q : Nat) : ∃ r, (w.drewN p).drewN q = w.drewN r := ⟨p + q, World.drewN_drewN ..⟩
/-- Rows of bytes: the slices' values lie there, and each row's bytes. -/
def RowsAt (w : World) (ro : Option Addr) (R : List (List Nat)) : Prop := ∀ j xs, R[j]? = some xs → ∃ b o ao cap, ro = some ⟨b, o, none⟩ ∧ w.cell? ⟨b, o + j, none⟩ = some (.slice ao xs.length cap) ∧ At w ao xs ∧ xs.length ≤ 4611686018427387904
theorem RowsAt.drew {w : World} {ro : Option Addr} {R : List (List Nat)} (h : RowsAt w ro R) (q : Nat) : RowsAt (w.drewN q) ro R := h
theorem RowsAt.grown {w w' : World} {ro : Option Addr} {R : List (List Nat)} (h : RowsAt w ro R) (hg : w.grownBy w' none) : RowsAt w' ro R := by
  intro j xs hj
  obtain ⟨b, o, ao, cap, h1, h2, h3, h4⟩ := h j xs hj
  exact ⟨b, o, ao, cap, h1, hg.cell h2 (by simp), h3.grown hg, h4⟩
theorem tmod_neg (x : Int) (n : Nat) (hn : 1 ≤ n) (h : x.tmod (n : Int) < 0) : x.tmod (n : Int) + (n : Int) = x % (n : Int) := by
  have h1 := Int.tmod_eq_emod (a := x) (b := (n : Int))
  have h2 := Int.emod_nonneg x (show (n : Int) ≠ 0 by omega)
  have h3 := Int.emod_lt_of_pos x (show (0 : Int) < (n : Int) by omega)
  rw [h1] at h ⊢
  split at h
  · omega
  · rename_i h4
    rw [if_neg h4]
    simp
theorem tmod_nonneg (x : Int) (n : Nat) (hn : 1 ≤ n) (h : 0 ≤ x.tmod (n : Int)) : x.tmod (n : Int) = x % (n : Int) := by
  have h1 := Int.tmod_eq_emod (a := x) (b := (n : Int))
  have h2 := Int.emod_nonneg x (show (n : Int) ≠ 0 by omega)
  have h3 := Int.emod_lt_of_pos x (show (0 : Int) < (n : Int) by omega)
  rw [h1] at h ⊢
  split
  · omega
  · rename_i h4
    rw [if_neg h4] at h
    simp at h
    omega

set_option maxHeartbeats 400000 in
theorem pick_any (x N : Int) (n : Nat) (w : World) (hN : N = (n : Int)) (hn : 1 ≤ n) (hn2 : n ≤ 65536) :
    Calls Tryd.prog 16 #[.int .i64 x, .int .i64 N] w fun e w' => e = .returned (.int .i64 (x % (n : Int))) ∧ w' = w := by
  subst hN
  have h1 : (1 : Int) ≤ (n : Int) := by omega
  have h2 : ((n : Int) == 0) = false := by simp; omega
  have hb := Int.tmod_lt_of_pos x (show (0 : Int) < (n : Int) by omega)
  have hb2 := Int.lt_tmod_of_pos x (show (0 : Int) < (n : Int) by omega)
  have hr1 := tmod_neg x n hn
  have hr2 := tmod_nonneg x n hn
  by_cases hs : x.tmod (n : Int) < 0
  · have hr := hr1 hs
    have HR := hide hr
    clear hr hr1 hr2
    go_enter Tryd.func16, Tryd.ntmps16
    go_wp2
    go_ret
    exact ⟨by rw [← HR.out]; rfl, rfl⟩
  · have hs2 : 0 ≤ x.tmod (n : Int) := by omega
    have hr := hr2 hs2
    have HR := hide hr
    clear hr hr1 hr2
    go_enter Tryd.func16, Tryd.ntmps16
    go_wp2
    go_ret
    exact ⟨by rw [← HR.out]; rfl, rfl⟩


/-- What a number fills. -/
def fillB (a : Int) (j : Nat) : Nat := (wrap64 (a + wrap64 ((j : Int) * a.tmod 5)) % 256).toNat
theorem fillB_cast (a : Int) (j : Nat) : wrap64 (a + wrap64 ((j : Int) * a.tmod 5)) % 256 = ((fillB a j : Nat) : Int) := by unfold fillB; omega
def fills (a : Int) (n : Nat) : List Nat := (List.range n).map (fillB a)
theorem fills_length (a : Int) (n : Nat) : (fills a n).length = n := by simp [fills]
def rowF (a : Int) (n j : Nat) : List Nat := fills a j ++ zs (n - j)
theorem rowF_get (a : Int) (n j : Nat) (h : j < n) : (rowF a n j)[j]? = some 0 := by
  rw [rowF, List.getElem?_append_right (by simp [fills_length]), fills_length, Nat.sub_self, zs, List.getElem?_replicate, if_pos (by omega)]
theorem rowF_set (a : Int) (n j : Nat) (h : j < n) : (rowF a n j).set j (fillB a j) = rowF a n (j + 1) := by
  have e : n - j = (n - (j + 1)) + 1 := by omega
  rw [rowF, rowF, List.set_append, fills_length, if_neg (by omega), Nat.sub_self, e, zs, List.replicate_succ, List.set_cons_zero, zs]
  unfold fills
  rw [List.range_succ, List.map_append, List.append_assoc]
  rfl
end Go.Proofs.YtonokaelbpfjnaaDoor
/- Sectors behind writes: plain lemmas. -/
namespace Go.Proofs.YtonokaelbpfjnaaDoor
open Go.RowKit Ap

theorem splice_get (D ys : List Nat) (off i : Nat) (h : off + ys.length ≤ D.length) : (splice D off ys)[i]? = if off ≤ i ∧ i < off + ys.length then ys[i - off]? else D[i]? := by
  unfold splice
  by_cases h1 : i < off
  · rw [if_neg (by omega), List.getElem?_append_left (by simp; omega), List.getElem?_take, if_pos h1]
  · rw [List.getElem?_append_right (by simp; omega)]
    simp only [List.length_take]
    rw [show i - min off D.length = i - off by omega]
    by_cases h2 : i < off + ys.length
    · rw [if_pos (by omega), List.getElem?_append_left (by omega)]
    · rw [if_neg (by omega), List.getElem?_append_right (by omega), List.getElem?_drop]
      congr 1; omega
theorem secOf_get (size : Nat) (D : List Nat) (s i : Nat) : (secOf size D s)[i]? = if i < size then D[s * size + i]? else none := by
  simp [secOf, List.getElem?_take, List.getElem?_drop]
/-- Bytes over the first ones of others. -/
def over (ys old : List Nat) : List Nat := ys ++ old.drop ys.length
theorem over_get (ys old : List Nat) (i : Nat) : (over ys old)[i]? = if i < ys.length then ys[i]? else old[i]? := by
  unfold over
  by_cases h : i < ys.length
  · rw [if_pos h, List.getElem?_append_left h]
  · rw [if_neg h, List.getElem?_append_right (by omega), List.getElem?_drop]; congr 1; omega
theorem over_length (ys old : List Nat) (h : ys.length ≤ old.length) : (over ys old).length = old.length := by simp [over]; omega
theorem secOf_splice_same {n size s : Nat} {D ys : List Nat} (hD : D.length = n * size) (hs : s < n) (hy : ys.length ≤ size) : secOf size (splice D (s * size) ys) s = over ys (secOf size D s) := by
  have hle : (s + 1) * size ≤ n * size := Nat.mul_le_mul_right _ hs
  rw [Nat.succ_mul] at hle
  apply List.ext_getElem?
  intro i
  rw [secOf_get, over_get, secOf_get, splice_get _ _ _ _ (by omega)]
  by_cases h : i < ys.length
  · rw [if_pos (by omega), if_pos (by omega), if_pos h]; congr 1; omega
  · rw [if_neg h]
    by_cases h2 : i < size
    · rw [if_pos h2, if_neg (by omega), if_pos h2]
    · rw [if_neg h2, if_neg h2]
theorem mul_far {s t size : Nat} (h : s ≠ t) : (s + 1) * size ≤ t * size ∨ (t + 1) * size ≤ s * size := by
  rcases Nat.lt_or_gt_of_ne h with h | h
  · exact Or.inl (Nat.mul_le_mul_right _ h)
  · exact Or.inr (Nat.mul_le_mul_right _ h)
theorem secOf_splice_other {n size s t : Nat} {D ys : List Nat} (hD : D.length = n * size) (hs : s < n) (hy : ys.length ≤ size) (hne : s ≠ t) : secOf size (splice D (s * size) ys) t = secOf size D t := by
  have hle : (s + 1) * size ≤ n * size := Nat.mul_le_mul_right _ hs
  have hf := mul_far (size := size) hne
  rw [Nat.succ_mul] at hle
  rw [Nat.succ_mul, Nat.succ_mul] at hf
  apply List.ext_getElem?
  intro i
  rw [secOf_get, secOf_get, splice_get _ _ _ _ (by omega)]
  by_cases h2 : i < size
  · rw [if_pos h2, if_pos h2, if_neg (by omega)]
  · rw [if_neg h2, if_neg h2]
/-- One sector behind the first j writes. -/
def stlS (L : Nat → Nat) (W : List Wt) (s : Nat) (old : List Nat) : Nat → List Nat
  | 0 => old
  | j + 1 => match W[j]? with
    | some x => if x.sec = s then over (x.xs.take (L j)) (stlS L W s old j) else stlS L W s old j
    | none => stlS L W s old j
/-- The writes fit the disk. -/
def Fits (n size : Nat) (W : List Wt) : Prop := ∀ x ∈ W, x.sec < n ∧ x.xs.length = size
theorem DiskAt.fitsW {w : World} {k : Dk} {n size : Nat} {D : List Nat} {W : List Wt} (h : DiskAt w k n size D W) : Fits n size W := fun x hx => ⟨(h.waits x hx).1, (h.waits x hx).2.1⟩
theorem stl_length {n size : Nat} {L : Nat → Nat} {D : List Nat} {W : List Wt} (hD : D.length = n * size) (hW : Fits n size W) (j : Nat) : (stl size L D W j).length = n * size := by
  induction j with
  | zero => exact hD
  | succ j ih =>
    rw [stl]
    split
    · rename_i x hx
      obtain ⟨h1, h2⟩ := hW x (List.mem_of_getElem? hx)
      have hle : (x.sec + 1) * size ≤ n * size := Nat.mul_le_mul_right _ h1
      rw [Nat.succ_mul] at hle
      rw [length_splice _ _ _ (by rw [ih, List.length_take]; omega), ih]
    · exact ih
theorem secOf_stl {n size : Nat} {L : Nat → Nat} {D : List Nat} {W : List Wt} (hD : D.length = n * size) (hW : Fits n size W) (s : Nat) (j : Nat) : secOf size (stl size L D W j) s = stlS L W s (secOf size D s) j := by
  induction j with
  | zero => rfl
  | succ j ih =>
    rw [stl, stlS]
    cases hx : W[j]? with
    | none => exact ih
    | some x =>
      obtain ⟨h1, h2⟩ := hW x (List.mem_of_getElem? hx)
      show secOf size (splice (stl size L D W j) (x.sec * size) (x.xs.take (L j))) s = if x.sec = s then over (x.xs.take (L j)) (stlS L W s (secOf size D s) j) else stlS L W s (secOf size D s) j
      by_cases hs : x.sec = s
      · rw [if_pos hs, ← hs, secOf_splice_same (stl_length hD hW j) h1 (by simp [h2]; omega), hs, ih]
      · rw [if_neg hs, secOf_splice_other (stl_length hD hW j) h1 (by simp [h2]; omega) hs, ih]
theorem zs_sec (n size s : Nat) (h : s < n) : secOf size (zs (n * size)) s = zs size := by
  have hle : (s + 1) * size ≤ n * size := Nat.mul_le_mul_right _ h
  rw [Nat.succ_mul] at hle
  simp [secOf, zs, List.drop_replicate, List.take_replicate]; omega
/-- All sectors. -/
def secs (n size : Nat) (D : List Nat) : List (List Nat) := (List.range n).map (secOf size D)
theorem secs_length (n size : Nat) (D : List Nat) : (secs n size D).length = n := by simp [secs]
theorem secs_get (n size : Nat) (D : List Nat) (s : Nat) (h : s < n) : (secs n size D)[s]? = some (secOf size D s) := by simp [secs, h]
/-- A row of bytes in a block of its own: some bytes of it. -/
theorem at_drop {w : World} {A : Nat} {xs : List Nat} {t : TypeId} {fr : Nat × Nat} (h : w.heap[A]? = some (.cells (bv xs).toArray t fr)) (o : Nat) : At w (some ⟨A, o, none⟩) (xs.drop o) := by
  intro j u hu
  refine ⟨_, rfl, ?_⟩
  rw [List.getElem?_drop] at hu
  rw [Addr.add_lit, cell_row h]
  exact bv_get xs _ u hu
end Go.Proofs.YtonokaelbpfjnaaDoor
/- A disk that the call itself has made: its contracts once more. -/
namespace Go.Proofs.YtonokaelbpfjnaaDoor
open Go.RowKit Ap

/-- A disk, all of whose blocks are new since w0; no elder block has turned. -/
structure DkS (w0 w : World) (k : Dk) (n size : Nat) (D : List Nat) (W : List Wt) : Prop where
  disk : DiskAt w k n size D W
  own : ∀ i, k.own i → w0.heap.size ≤ i
  grown : w0.grownBy w none

section
variable {w0 w : World} {k : Dk} {n size : Nat} {D : List Nat} {W : List Wt}
theorem DkS.then (h : DkS w0 w k n size D W) {w' : World} (hg : w.grownBy w' none) : DkS w0 w' k n size D W := ⟨h.disk.grown hg, h.own, grown_trans h.grown hg⟩
theorem DkS.of (h : DiskAt w k n size D W) (ho : ∀ i, k.own i → w0.heap.size ≤ i) (hg : w0.grownBy w none) : DkS w0 w k n size D W := ⟨h, ho, hg⟩
theorem kept_new (h : w0.grownBy w none) {w' : World} {S : Nat → Prop} (hk : Kept w w' S) (hS : ∀ i, S i → w0.heap.size ≤ i) : w0.grownBy w' none :=
  ((Kept.new h S).trans hk (fun _ _ e => e)).grown (fun i hi e => by have := hS i e; omega)
theorem DkS.wrote (h : DkS w0 w k n size D W) {w' : World} {k' : Dk} {s : Nat} {xs : List Nat} (hw : Wrote w w' k k' n size D W s xs) : DkS w0 w' k' n size D (W ++ [⟨s, w.heap.size, xs⟩]) := by
  refine ⟨hw.disk, ?_, kept_new h.grown hw.kept ?_⟩
  · rintro i (e | e | e | e)
    · rw [hw.d] at e; exact h.own i (.inl e)
    · rw [hw.db] at e; exact h.own i (.inr (.inl e))
    · rcases hw.vw i e with e | e
      · exact h.own i (.inr (.inr (.inl e)))
      · exact Nat.le_trans h.grown.size e
    · rw [hw.mb] at e; exact h.own i (.inr (.inr (.inr e)))
  · rintro i (e | e | e)
    · exact h.own i (.inl e)
    · exact h.own i (.inr (.inr (.inl e)))
    · exact h.own i (.inr (.inr (.inr e)))
theorem DkS.calm (h : DkS w0 w k n size D W) {w' : World} {D' : List Nat} (hd : DiskAt w' k.calm n size D' []) (hk : Kept w w' (fun i => i = k.d ∨ i = k.db ∨ i = k.mb)) : DkS w0 w' k.calm n size D' [] := by
  refine ⟨hd, ?_, kept_new h.grown hk ?_⟩
  · rintro i (e | e | e | e)
    · exact h.own i (.inl e)
    · exact h.own i (.inr (.inl e))
    · simp [Dk.calm, Value.ownBlock] at e
    · exact h.own i (.inr (.inr (.inr e)))
  · rintro i (e | e | e)
    · exact h.own i (.inl e)
    · exact h.own i (.inr (.inl e))
    · exact h.own i (.inr (.inr (.inr e)))
/-- A row of bytes is no block of the disk's but its durable one. -/
theorem DiskAt.bytes_off (h : DiskAt w k n size D W) {A : Nat} {c : Array Value} {fr : Nat × Nat} (hA : w.heap[A]? = some (.cells c 5 fr)) (hne : A ≠ k.db) : ¬ k.own A := by
  obtain ⟨es, cl, hm⟩ := h.map.block
  rintro (e | e | e | e)
  · rw [e, h.head] at hA; simp at hA
  · exact hne e
  · rcases h.row.2 with ⟨hr, h0⟩ | ⟨g, cap, cur, hr, h2, h3, _⟩
    · rw [hr] at e; simp [Value.ownBlock] at e
    · rw [hr] at e; simp only [Value.ownBlock, Option.some.injEq] at e; subst e; rw [hA] at h3; simp at h3
  · rw [e, hm] at hA; simp at hA
theorem Wrote.bytes {w' : World} {k' : Dk} {s : Nat} {xs : List Nat} (hw : Wrote w w' k k' n size D W s xs) (h : DiskAt w k n size D W) {A : Nat} {c : Array Value} {fr : Nat × Nat} (hA : w.heap[A]? = some (.cells c 5 fr)) : w'.heap[A]? = some (.cells c 5 fr) := by
  obtain ⟨e1, e2, e3, e4, e5, e6⟩ := h.vw_ne
  refine hw.kept.at hA ?_
  by_cases hd : A = k.db
  · subst hd
    rintro (e | e | e)
    · exact e4 e.symm
    · exact e2 e
    · exact e6 e
  · have := h.bytes_off hA hd
    rintro (e | e | e)
    · exact this (.inl e)
    · exact this (.inr (.inr (.inl e)))
    · exact this (.inr (.inr (.inr e)))
theorem calm_bytes {w' : World} (h : DiskAt w k n size D W) (hk : Kept w w' (fun i => i = k.d ∨ i = k.db ∨ i = k.mb)) {A : Nat} {c : Array Value} {fr : Nat × Nat} (hA : w.heap[A]? = some (.cells c 5 fr)) (hd : A ≠ k.db) : w'.heap[A]? = some (.cells c 5 fr) := by
  have := h.bytes_off hA hd
  refine hk.at hA ?_
  rintro (e | e | e)
  · exact this (.inl e)
  · exact this (.inr (.inl e))
  · exact this (.inr (.inr (.inr e)))
/-- Cells of another type are none of the disk's. -/
theorem DiskAt.other_off (h : DiskAt w k n size D W) {A : Nat} {c : Array Value} {t : TypeId} {fr : Nat × Nat} (hA : w.heap[A]? = some (.cells c t fr)) (h1 : t ≠ 86) (h2 : t ≠ 5) (h3 : t ≠ 160) : ¬ k.own A := by
  obtain ⟨es, cl, hm⟩ := h.map.block
  rintro (e | e | e | e)
  · rw [e, h.head] at hA; simp at hA; exact h1 hA.2.1.symm
  · rw [e, h.dur] at hA; simp at hA; exact h2 hA.2.1.symm
  · rcases h.row.2 with ⟨hr, h0⟩ | ⟨g, cap, cur, hr, _, h4, _⟩
    · rw [hr] at e; simp [Value.ownBlock] at e
    · rw [hr] at e; simp only [Value.ownBlock, Option.some.injEq] at e; subst e; rw [hA] at h4; simp at h4; exact h3 h4.2.1
  · rw [e, hm] at hA; simp at hA
theorem Wrote.other {w' : World} {k' : Dk} {s : Nat} {xs : List Nat} (hw : Wrote w w' k k' n size D W s xs) {A : Nat} {o : Obj} (hA : w.heap[A]? = some o) (hn : ¬ k.own A) : w'.heap[A]? = some o := by
  refine hw.kept.at hA ?_
  rintro (e | e | e)
  · exact hn (.inl e)
  · exact hn (.inr (.inr (.inl e)))
  · exact hn (.inr (.inr (.inr e)))
theorem calm_other {w' : World} (hk : Kept w w' (fun i => i = k.d ∨ i = k.db ∨ i = k.mb)) {A : Nat} {o : Obj} (hA : w.heap[A]? = some o) (hn : ¬ k.own A) : w'.heap[A]? = some o := by
  refine hk.at hA ?_
  rintro (e | e | e)
  · exact hn (.inl e)
  · exact hn (.inr (.inl e))
  · exact hn (.inr (.inr (.inr e)))
/-- Another block, new since w0, has been written. -/
theorem DkS.row (h : DkS w0 w k n size D W) {w' : World} {b : Nat} (hg : w.grownBy w' (some b)) (hb : ∀ i, foot k W i → i ≠ b) (hb0 : w0.heap.size ≤ b) : DkS w0 w' k n size D W :=
  ⟨h.disk.same fun i hi => hg.block i (h.disk.lt i hi) (fun e => hb i hi (Option.some.inj e)), h.own, grown_then h.grown hg (fun j e => Or.inl (by have := Option.some.inj e; omega))⟩
theorem newS (n size : Nat) (w0 w : World) (hg : w0.grownBy w none) (h : mayB (n : Int) (size : Int) = true) : Calls Tryd.prog 10 #[.int .i64 (n : Int), .int .i64 (size : Int)] w fun e w' =>
    ∃ k : Dk, e = .returned (.tuple #[.pointer (some ⟨k.d, 0, none⟩), .int .i64 0]) ∧ DkS w0 w' k n size (zs (n * size)) [] ∧ w.grownBy w' none ∧ ∀ i, k.own i → w.heap.size ≤ i := by
  refine (new_any n size w h).mono ?_
  rintro e w' ⟨rfl, h1, h2⟩
  have ho : ∀ i, Dk.own ⟨w.heap.size + 2, w.heap.size, .slice none 0 0, w.heap.size + 1⟩ i → w.heap.size ≤ i := by
    rintro i (e | e | e | e)
    · have e : i = w.heap.size + 2 := e
      omega
    · have e : i = w.heap.size := e
      omega
    · simp [Value.ownBlock] at e
    · have e : i = w.heap.size + 1 := e
      omega
  exact ⟨⟨w.heap.size + 2, w.heap.size, .slice none 0 0, w.heap.size + 1⟩, rfl, ⟨h1, fun i hi => Nat.le_trans hg.size (ho i hi), grown_trans hg h2⟩, h2, ho⟩
theorem writeS {d : Nat} (hd : k.d = d) (h : DkS w0 w k n size D W) (hW : W.length < 1000000) (s : Nat) (hs : s < n) (ao : Option Addr) (cap : Nat) (xs : List Nat) (hat : At w ao xs) (hx : xs.length = size) :
    Calls Tryd.prog 92 #[.pointer (some ⟨d, 0, none⟩), .int .i64 (s : Int), .slice ao size cap] w fun e w' => e = .returned (.int .i64 0) ∧ ∃ k', k'.d = d ∧ k'.db = k.db ∧ DkS w0 w' k' n size D (W ++ [⟨s, w.heap.size, xs⟩]) ∧ Wrote w w' k k' n size D W s xs := by
  subst hd
  refine (write_any h.disk hW s hs ao cap xs hat hx).mono ?_
  rintro e w' ⟨rfl, k', hw⟩
  exact ⟨rfl, k', hw.d, hw.db, h.wrote hw, hw⟩
theorem syncS {d : Nat} (hd : k.d = d) (h : DkS w0 w k n size D W) : Calls Tryd.prog 93 #[.pointer (some ⟨d, 0, none⟩)] w fun e w' => e = .returned (.int .i64 0) ∧
    DkS w0 w' k.calm n size (stl size (fun _ => size) D W W.length) [] ∧ Kept w w' (fun i => i = k.d ∨ i = k.db ∨ i = k.mb) := by
  subst hd
  refine (sync_any h.disk).mono ?_
  rintro e w' ⟨rfl, h1, h2⟩
  exact ⟨rfl, h.calm h1 h2, h2⟩
theorem readS {d : Nat} (hd : k.d = d) (h : DkS w0 w k n size D W) (s : Nat) (hs : s < n) : Calls Tryd.prog 80 #[.pointer (some ⟨d, 0, none⟩), .int .i64 (s : Int)] w fun e w' =>
    e = .returned (.tuple #[.slice (some ⟨w.heap.size, 0, none⟩) size size, .int .i64 0]) ∧ w'.heap[w.heap.size]? = some (.cells (bv (found size D W s)).toArray 5 (0, 0)) ∧ w.grownBy w' none := by
  subst hd
  exact read_any h.disk s hs
end
/-- Fates that have just been laid. -/
def fcells (F : List (Int × Int)) : List Value := F.flatMap fun p => [.int .i64 p.1, .int .i64 p.2]
theorem fcells_get (F : List (Int × Int)) (j : Nat) (p : Int × Int) (h : F[j]? = some p) : (fcells F)[j * 2]? = some (.int .i64 p.1) ∧ (fcells F)[j * 2 + 1]? = some (.int .i64 p.2) := by
  induction F generalizing j with
  | nil => simp at h
  | cons y r ih =>
    cases j with
    | zero => simp at h; subst h; simp [fcells]
    | succ i =>
      have := ih i (by simpa using h)
      have e : fcells (y :: r) = .int .i64 y.1 :: .int .i64 y.2 :: fcells r := by simp [fcells]
      rw [e, show (i + 1) * 2 = i * 2 + 2 by omega, show i * 2 + 2 + 1 = (i * 2 + 1) + 2 by omega]
      simpa using this
theorem fates_row {w : World} {g : Nat} {F : List (Int × Int)} {t : TypeId} {fr : Nat × Nat} (h : w.heap[g]? = some (.cells (fcells F).toArray t fr)) : FatesAt w (some ⟨g, 0, none⟩) F := by
  intro j p hj
  obtain ⟨a, b⟩ := fcells_get F j p hj
  exact ⟨g, 0, rfl, by rw [cell_row h, Nat.zero_add]; exact a, by rw [cell_row h, Nat.zero_add]; exact b⟩
end Go.Proofs.YtonokaelbpfjnaaDoor
