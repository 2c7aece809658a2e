/- Texts joined: Settle, Crash. -/
import Derived.Test.YtonokaelbpfjnaaGreatDoorJhAb
/- The contracts of settle, Sync and Crash. -/
namespace Go.Proofs.YtonokaelbpfjnaaGreatDoor
open Go.RowKit Ap
attribute [local go_sem ↓] Go.wp_at_zero Go.wp_at_succ

/-- copy as one step of a region that draws its order: the row behind it, and that no other block has turned. -/
theorem step_copy_grown {P : Program} {ops : Array Oper} {o : Oper} {a : Act} {w : World} {K : Act → World → Prop} {Q : Exit → Act → World → Prop} {E : Prop} (hgd : o.guard = none) (d s : Operand) (dT sT : TypeId)
    (ho : o.op = .call { callee := .builtin .copy, args := #[d, s], argTypes := #[dT, sT] }) (elem : TypeId) (hu : P.underlying dT = some (.slice elem)) (hsz : (P.info? elem).map (·.size) = some 1)
    (dp sp : Option Addr) (dLen dCap sLen sCap : Nat) (hd : a.eval d = .slice dp dLen dCap) (hs : a.eval s = .slice sp sLen sCap)
    (g off : Nat) (cur : List Value) (t : TypeId) (hg : w.heap[g]? = some (.cells cur.toArray t (0, 0))) (cs : List Value) (hn : cs.length = Nat.min sLen dLen)
    (hpos : 0 < cs.length → dp = some ⟨g, off, none⟩ ∧ ∃ ad, sp = some ad ∧ ∀ j v, cs[j]? = some v → w.cell? (ad.add j) = some v)
    (hfit : off + cs.length ≤ cur.length) (h1 : ∀ v ∈ cs, v.oneCell' = true)
    (h : ∀ w', Hid (w'.heap[g]? = some (.cells (splice cur off cs).toArray t (0, 0))) → w.grownBy w' (some g) → K (a.put o.dst (goInt cs.length)) w') :
    if Region.wanted o (yielded ops a.tmps) = true then Oper.wp P o a w K Q else E := by
  have hw : Region.wanted o (yielded ops a.tmps) = true := by simp [Region.wanted, hgd]
  rw [if_pos hw]
  by_cases h0 : cs.length = 0
  · obtain rfl : cs = [] := List.eq_nil_of_length_eq_zero h0
    have hrun := run_copy_none (P := P) w dT sT o.type elem dp sp dLen dCap sLen sCap hu hsz (by simpa using hn.symm)
    unfold Oper.wp
    simp [execOp, ho, resolve, invoke, builtin, hd, hs, hrun, Result.andThen]
    exact h w (show _ = _ by simpa [splice] using hg) (grown_refl w _)
  · obtain ⟨rfl, ad, rfl, hsrc⟩ := hpos (by omega)
    have hrun := run_copy_row (P := P) w dT sT o.type elem g off dLen dCap ad sLen sCap cur.toArray t cs hu hsz hg hn hsrc (by simpa using hfit) h1
    unfold Oper.wp
    simp [execOp, ho, resolve, invoke, builtin, hd, hs, hrun, Result.andThen]
    exact h _ (show _ = _ by simpa [splice] using setRow_heap w g _ _ t _ hg) (grown_setRow w g _)

theorem bv_splice (xs ys : List Nat) (o : Nat) : bv (splice xs o ys) = splice (bv xs) o (bv ys) := by simp [splice, bv, List.map_take, List.map_drop]
/-- The durable bytes behind the first j of the writes, of the i-th of which L i bytes last. -/
def stl (size : Nat) (L : Nat → Nat) (D : List Nat) (W : List Wt) : Nat → List Nat
  | 0 => D
  | j + 1 => match W[j]? with
    | some x => splice (stl size L D W j) (x.sec * size) (x.xs.take (L j))
    | none => stl size L D W j
theorem stl_step {size : Nat} {L : Nat → Nat} {D : List Nat} {W : List Wt} {j : Nat} {x : Wt} (h : W[j]? = some x) : stl size L D W (j + 1) = splice (stl size L D W j) (x.sec * size) (x.xs.take (L j)) := by simp [stl, h]

section
variable {w : World} {k : Dk} {n size : Nat} {D : List Nat} {W : List Wt}
theorem DiskAt.fits (h : DiskAt w k n size D W) {x : Wt} (hx : x ∈ W) (m : Nat) : x.sec * size + (x.xs.take m).length ≤ n * size := by
  obtain ⟨h1, h2, _⟩ := h.waits x hx
  have : (x.sec + 1) * size ≤ n * size := Nat.mul_le_mul_right _ h1
  rw [Nat.succ_mul] at this
  simp [h2]; omega
theorem DiskAt.setDur (h : DiskAt w k n size D W) {w' : World} {D' : List Nat} (hg : w.grownBy w' (some k.db)) (hd : w'.heap[k.db]? = some (.cells (bv D').toArray 5 (0, 0))) (hl : D'.length = D.length) : DiskAt w' k n size D' W := by
  obtain ⟨e1, e2, e3, e4, e5, e6⟩ := h.vw_ne
  have hb : ∀ i, foot k W i → i ≠ k.db → w'.heap[i]? = w.heap[i]? := fun i hi hn => hg.block i (h.lt i hi) (fun e => hn (Option.some.inj e))
  refine ⟨h.shape, (hb _ (.inl (.inl rfl)) e4).trans h.head, hd, hl.trans h.len, row_same h.row (fun g hg => hb _ (.inl (.inr (.inr (.inl hg)))) (fun e => e2 (by rw [hg, e]))), h.map.same (hb _ (.inl (.inr (.inr (.inr rfl)))) (fun e => e6 e.symm)), ?_, h.few⟩
  intro x hx
  obtain ⟨h1, h2, h3, h4⟩ := h.waits x hx
  exact ⟨h1, h2, h3, (hb _ (.inr ⟨x, hx, rfl⟩) h3).trans h4⟩
theorem DiskAt.wait_cells (h : DiskAt w k n size D W) {g cap : Nat} (hv : k.vw = .slice (some ⟨g, 0, none⟩) W.length cap) {j : Nat} {x : Wt} (hx : W[j]? = some x) :
    w.cell? ⟨g, j * 2, none⟩ = some (.int .i64 (x.sec : Int)) ∧ w.cell? ⟨g, j * 2 + 1, none⟩ = some (bsl x.blk size) := by
  have hr := h.row
  rw [hv] at hr
  have hj : j < W.length := (List.getElem?_eq_some_iff.1 hx).1
  obtain ⟨a, b⟩ := wcells_get size W j x hx
  rw [Nat.mul_comm] at a b
  exact ⟨by rw [hr.cellAt _ (by omega)]; exact a, by rw [hr.cellAt _ (by omega)]; exact b⟩

theorem settled_of {w wr w6 : World} {k : Dk} {n size : Nat} {D : List Nat} {W : List Wt} (h : DiskAt wr k n size D W) (hg : w.grownBy wr (some k.db)) (hm : MapAt w6 Tryz.prog 3 k.mb 0 (fun _ => none)) (hg6 : (wr.setCell ⟨k.d, 3, none⟩ (.slice none 0 0)).grownBy w6 (some k.mb)) :
    DiskAt w6 ⟨k.d, k.db, .slice none 0 0, k.mb⟩ n size D [] ∧ Kept w w6 (fun i => i = k.d ∨ i = k.db ∨ i = k.mb) := by
  obtain ⟨e1, e2, e3, e4, e5, e6⟩ := h.vw_ne
  have g4 := grown_setCell wr k.d 3 (.slice none 0 0)
  refine ⟨⟨h.shape, ?_, ?_, h.len, World.ownsRow_nil _ _ _ _, hm, by simp, by simp⟩, ?_⟩
  · refine (hg6.block k.d (by have := row_lt h.head; simpa [World.setCell] using this) (fun e => e5 (Option.some.inj e))).trans ?_
    rw [World.setCell]
    simp [Array.getElem?_modify, h.head]
  · refine (hg6.block k.db (by have := row_lt h.dur; simpa [World.setCell] using this) (fun e => e6 (Option.some.inj e))).trans ?_
    exact (Below.heap_setCell _ _ _ _ (show k.db ≠ k.d from fun e => e4 e.symm)).trans h.dur
  · exact ((Kept.of hg (S := fun i => i = k.d ∨ i = k.db ∨ i = k.mb) (fun j e _ => by cases e; exact Or.inr (Or.inl rfl))).trans
      (Kept.of g4 (S := fun i => i = k.d ∨ i = k.db ∨ i = k.mb) (fun j e _ => by cases e; exact Or.inl rfl)) (fun _ _ e => e)).trans
      (Kept.of hg6 (S := fun i => i = k.d ∨ i = k.db ∨ i = k.mb) (fun j e _ => by cases e; exact Or.inr (Or.inr rfl))) (fun _ _ e => e)
set_option maxHeartbeats 400000 in
theorem settle_none (p : Option Addr) (v : Value) (w : World) (h : NoDisk w p) : Calls Tryz.prog 112 #[.pointer p, v] w fun e w' => e = .returned (.int .i64 1) ∧ w' = w := by
  have H := hide h.is
  clear h
  go_enter Tryz.func112, Tryz.ntmps112
  go_wp2_with fail
  refine H.out.mono ?_
  rintro e w' ⟨rfl, rfl⟩
  go_wp2
  go_ret
  exact ⟨rfl, rfl⟩

set_option maxRecDepth 20000 in
set_option maxHeartbeats 4000000 in
theorem settle59 (bx : Addr) (K A : Nat → Int) (h : DiskAt w k n size D W)
    (hf : ∀ i, i < W.length → ∀ w', w.grownBy w' (some k.db) → Calls Tryz.prog 113 #[.int .i64 (i : Int), .pointer (some bx)] w' fun e w'' => e = .returned (.agg #[.int .i64 (K i), .int .i64 (A i)]) ∧ w'.grownBy w'' none) :
    Calls Tryz.prog 112 #[.pointer (some ⟨k.d, 0, none⟩), .func (.func 113) #[] #[.pointer (some bx)]] w fun e w' => e = .returned (.int .i64 0) ∧
      DiskAt w' ⟨k.d, k.db, .slice none 0 0, k.mb⟩ n size (stl size (fun i => lasts (K i) (A i) size) D W W.length) [] ∧ Kept w w' (fun i => i = k.d ∨ i = k.db ∨ i = k.mb) := by
  have H := hide h.is
  have HD := hide h
  have HF := hide hf
  have c3 := h.c3
  obtain ⟨ao, cap, hv, hao, hao2⟩ := h.vw_form
  rw [hv] at c3
  have HV := hide (And.intro hv (And.intro hao hao2))
  obtain ⟨m, hm⟩ : ∃ m, m = W.length := ⟨_, rfl⟩
  rw [← hm] at c3
  have HM := hide hm
  have hfew : m ≤ 1000000 := by rw [hm]; exact h.few
  clear h hf hv hao hao2 hm
  go_enter Tryz.func112, Tryz.ntmps112
  go_wp2_with fail
  refine H.out.mono ?_
  rintro e w' ⟨rfl, rfl⟩
  go_wp2
  go_loopg [14] m (fun q i wr => ∃ j : Nat, q + j = m ∧ i = .int .i64 j ∧ Hid (DiskAt wr k n size (stl size (fun i => lasts (K i) (A i) size) D W j) W ∧ w'.grownBy wr (some k.db)))
  case atStart => exact ⟨0, by omega, rfl, hide ⟨HD.out, grown_refl _ _⟩⟩
  case round =>
    obtain ⟨j, hkj, rfl, HR⟩ := hrel
    by_cases hk : 0 < gk
    · obtain ⟨x, hx⟩ : ∃ x, W[j]? = some x := ⟨_, List.getElem?_eq_getElem (by have := HM.out; omega)⟩
      obtain ⟨gw, rfl⟩ : ∃ gw, ao = some ⟨gw, 0, none⟩ := by
        cases ao with
        | none => have := HV.out.2.1 rfl; have := HM.out; omega
        | some a => exact ⟨a.block, by rw [← HV.out.2.2 a rfl]⟩
      obtain ⟨d1, d2⟩ := HR.out.1.wait_cells (by rw [HV.out.1]) hx
      have HX := hide hx
      have h1 : (0 : Int) ≤ (j : Int) := by omega
      have h2 : (j : Int) < (m : Int) := by omega
      unfold bsl at d2
      clear hx
      have HB := hide (And.intro HR.out.1 HR.out.2)
      obtain ⟨a1, a2, a3, a4⟩ := HR.out.1.waits x (List.mem_of_getElem? HX.out)
      have g0 := World.grownBy_alloc wr (.cells #[.int .i64 (x.sec : Int), .slice (some ⟨x.blk, 0, none⟩) size size] 176) none
      have D0 := HR.out.1.grown g0
      have G0 : w'.grownBy (wr.alloc (.cells #[.int .i64 (x.sec : Int), .slice (some ⟨x.blk, 0, none⟩) size size] 176)) (some k.db) := grown_trans HR.out.2 (grown_none g0 _)
      have b0 := cell_two wr (.int .i64 (x.sec : Int)) (.slice (some ⟨x.blk, 0, none⟩) size size) 176 0 _ rfl
      have b1 := cell_two wr (.int .i64 (x.sec : Int)) (.slice (some ⟨x.blk, 0, none⟩) size size) 176 1 _ rfl
      have b2 := D0.c1
      rw [Addr.add_lit] at b0 b1
      have hne : some wr.heap.size ≠ some k.db := fun e => by have := HR.out.1.lt k.db (.inl (.inr (.inl rfl))); have := Option.some.inj e; omega
      have hne2 : some k.d ≠ some k.db := fun e => HR.out.1.vw_ne.2.2.2.1 (Option.some.inj e)
      have hL := lasts_le (K j) (A j) size
      have HS : Hid (∀ w2, (wr.alloc (.cells #[.int .i64 (x.sec : Int), .slice (some ⟨x.blk, 0, none⟩) size size] 176)).grownBy w2 none → Calls Tryz.prog 134 #[.pointer (some ⟨k.d, 0, none⟩), .int .i64 (x.sec : Int)] w2 fun e w3 => e = .returned (.slice (some ⟨k.db, x.sec * size, none⟩) size (n * size - x.sec * size)) ∧ w2.grownBy w3 none) := fun w2 hg => (sector_any (D0.grown hg) x.sec a1).mono (by rintro e w3 ⟨rfl, q, rfl⟩; exact ⟨rfl, grown_drewN _ _ _⟩)
      have HC := hide (HF.out j (by have := HM.out; omega))
      have HLs := hide (lasting_any (K j) (A j) size)
      have hstep : stl size (fun i => lasts (K i) (A i) size) D W (j + 1) = splice (stl size (fun i => lasts (K i) (A i) size) D W j) (x.sec * size) (x.xs.take (lasts (K j) (A j) size)) := stl_step HX.out
      have hfit := HR.out.1.fits (List.mem_of_getElem? HX.out) (lasts (K j) (A j) size)
      have hsl := slice_to (some ⟨x.blk, 0, none⟩) size size (lasts (K j) (A j) size) hL
      have hlen := HR.out.1.len
      have hzl : (x.xs.take (lasts (K j) (A j) size)).length = lasts (K j) (A j) size := by simp [a2]; omega
      have hdur := D0.dur
      have hsrc : At (wr.alloc (.cells #[.int .i64 (x.sec : Int), .slice (some ⟨x.blk, 0, none⟩) size size] 176)) (some ⟨x.blk, 0, none⟩) (x.xs.take (lasts (K j) (A j) size)) := (at_row (g0.block _ (row_lt a4) (by simp) |>.trans a4)).take _
      have HA := hide (And.intro a3 (And.intro hfit (And.intro hlen (And.intro hzl (And.intro hdur (And.intro hsrc (And.intro hstep (And.intro D0 (And.intro G0 (And.intro hne hne2))))))))))
      clear a1 a2 a3 a4 g0 D0 G0 hne hne2 hstep hfit hlen hzl hdur hsrc
      generalize lasts (K j) (A j) size = L at *
      go_wp2_with fail
      generalize wr.alloc (.cells #[.int .i64 (x.sec : Int), .slice (some ⟨x.blk, 0, none⟩) size size] 176) = w0 at *
      have hS := And.intro b0 (And.intro b1 b2)
      clear b0 b1 b2
      have HSS : Hid (∀ w2 : World, w0.grownBy w2 (some k.db) → (w2.cell? ⟨wr.heap.size, 0 + 0, none⟩ = some (.int .i64 (x.sec : Int)) ∧ w2.cell? ⟨wr.heap.size, 0 + 1, none⟩ = some (.slice (some ⟨x.blk, 0, none⟩) size size) ∧ w2.cell? ⟨k.d, 1, none⟩ = some (.int .i64 (size : Int)))) := fun w2 hg => by
        obtain ⟨_, _, _, _, _, _, _, _, _, hne, hne2⟩ := HA.out
        exact ⟨hg.cell hS.1 hne, hg.cell hS.2.1 hne, hg.cell hS.2.2 hne2⟩
      have HCP : Hid (∀ w2 : World, w0.grownBy w2 none → w2.heap[k.db]? = some (.cells (bv (stl size (fun i => lasts (K i) (A i) size) D W j)).toArray 5 (0, 0)) ∧ (bv (x.xs.take L)).length = Nat.min L size ∧
          (0 < (bv (x.xs.take L)).length → ∃ ad, some (⟨x.blk, 0, none⟩ : Addr) = some ad ∧ ∀ j v, (bv (x.xs.take L))[j]? = some v → w2.cell? (ad.add j) = some v) ∧
          x.sec * size + (bv (x.xs.take L)).length ≤ (bv (stl size (fun i => lasts (K i) (A i) size) D W j)).length ∧ (∀ v ∈ bv (x.xs.take L), v.oneCell' = true)) := by
        intro w2 hg
        obtain ⟨_, b1, b2, b3, b4, b5, _⟩ := HA.out
        refine ⟨(hg.block _ (row_lt b4) (by simp)).trans b4, by rw [bv_length, b3]; exact (Nat.min_eq_left hL).symm, fun _ => ⟨_, rfl, ?_⟩, by rw [bv_length, bv_length, b2]; exact b1, ?_⟩
        · intro i v hv
          rw [bv, List.getElem?_map] at hv
          cases hj : (x.xs.take L)[i]? with
          | none => simp [hj] at hv
          | some y =>
            simp [hj] at hv
            obtain ⟨a', ea', hc'⟩ := (b5.grown hg) i y hj
            cases ea'
            rw [← hv]; exact hc'
        · intro v hv; rw [bv, List.mem_map] at hv; obtain ⟨y, _, rfl⟩ := hv; rfl
      have HG0 : Hid (w'.grownBy w0 (some k.db)) := HA.out.2.2.2.2.2.2.2.2.1
      have HST : Hid (∀ w5 : World, w5.heap[k.db]? = some (.cells (splice (bv (stl size (fun i => lasts (K i) (A i) size) D W j)) (x.sec * size) (bv (x.xs.take L))).toArray 5 (0, 0)) → w0.grownBy w5 (some k.db) → DiskAt w5 k n size (stl size (fun i => lasts (K i) (A i) size) D W (j + 1)) W ∧ w'.grownBy w5 (some k.db)) := by
        intro w5 h5 hg5
        obtain ⟨_, b1, b2, b3, b4, b5, b6, b7, b8, _⟩ := HA.out
        refine ⟨b7.setDur hg5 ?_ ?_, grown_trans b8 hg5⟩
        · rw [h5, b6, bv_splice]
        · rw [b6, length_splice _ _ _ (by rw [b2]; exact b1)]
      clear HA HR HB HX
      generalize bv (x.xs.take L) = XV at *
      generalize bv (stl size (fun i => lasts (K i) (A i) size) D W j) = DV at *
      generalize n * size - x.sec * size = cc at *
      generalize x.sec * size = off at *
      go_region_held3 (fun w' => w'.cell? ⟨wr.heap.size, 0 + 0, none⟩ = some (.int .i64 (x.sec : Int)) ∧ w'.cell? ⟨wr.heap.size, 0 + 1, none⟩ = some (.slice (some ⟨x.blk, 0, none⟩) size size) ∧ w'.cell? ⟨k.d, 1, none⟩ = some (.int .i64 (size : Int))) (first | assumption | go_keep) (first
        | (go_at_call 134; refine (HS.out _ (grown_drew _ _)).mono ?_; rintro e w2 ⟨rfl, hg2'⟩; have hg2 := grown_trans (grown_drew w0 none) hg2'; clear hg2'; have hS2 := HSS.out w2 (grown_none hg2 _))
        | (go_at_call 137; refine (HLs.out _).mono ?_; rintro e w4 ⟨rfl, hg4'⟩; have hg4 := grown_trans hg3 hg4'; clear hg4'; have hS4 := HSS.out w4 (grown_none hg4 _))
        | (have hgx := hg4; clear hgx; refine step_copy_grown rfl (.tmp 22) (.tmp 33) 36 36 rfl 5 Tryz.underlying36 Tryz.size5 (some ⟨k.db, off, none⟩) (some ⟨x.blk, 0, none⟩) size cc L size (by rfl) (by rfl) k.db off DV 5 (HCP.out _ hg4).1 XV (HCP.out _ hg4).2.1 (fun hp => ⟨rfl, (HCP.out _ hg4).2.2.1 hp⟩) (HCP.out _ hg4).2.2.2.1 (HCP.out _ hg4).2.2.2.2 ?_; intro w5 H5 hg5; have hg5' := grown_trans (grown_none hg4 _) hg5; have hS5 := HSS.out w5 hg5')
        | (go_at_call 113; refine (HC.out _ (grown_trans HG0.out (grown_none hg2 _))).mono ?_; rintro e w3 ⟨rfl, hg3'⟩; have hg3 := grown_trans hg2 hg3'; clear hg3'; have hS3 := HSS.out w3 (grown_none hg3 _)))
      have H6 := hide (HST.out w5 H5.out hg5')
      clear hS hS2 hS3 hS4 hS5 hg2 hg3 hg4 hg5 hg5' H5 HST HCP HSS HC HLs HS d1 d2 c3
      go_wp2
      go_roundg (gk - 1)
      case measure => omega
      case rel => exact ⟨j + 1, by omega, by go_num, H6⟩
    · have hj : j = m := by omega
      subst hj
      have c3r := HR.out.1.c3
      have c4r := HR.out.1.c4
      have hfr := HR.out.1.free 3
      have hne := HR.out.1.vw_ne
      have c4s : (wr.setCell ⟨k.d, 3, none⟩ (.slice none 0 0)).cell? ⟨k.d, 4, none⟩ = some (.map (some k.mb)) := (World.cell?_setCell_other _ _ _ _ (by simp)).trans c4r
      have hm : MapAt (wr.setCell ⟨k.d, 3, none⟩ (.slice none 0 0)) Tryz.prog 3 k.mb W.length (newest size W) := HR.out.1.map.same (Below.heap_setCell _ _ _ _ (show k.mb ≠ k.d from fun e => hne.2.2.2.2.1 e.symm))
      obtain ⟨w6, hrun, hm6, hg6⟩ := hm.clear (t := 138) (e := 36) Tryz.underlying138 0
      have H6 := hide (And.intro hm6 hg6)
      rw [HV.out.1, ← HM.out] at c3r
      clear hm hm6 hg6 c4r hne c3 hkj hk
      go_wp2
      go_ret
      refine ⟨rfl, ?_⟩
      rw [← HM.out]
      exact settled_of HR.out.1 HR.out.2 H6.out.1 H6.out.2
set_option maxRecDepth 20000 in
set_option maxHeartbeats 4000000 in
theorem settle57 (K A : Nat → Int) (h : DiskAt w k n size D W)
    (hf : ∀ i, i < W.length → ∀ w', w.grownBy w' (some k.db) → Calls Tryz.prog 157 #[.int .i64 (i : Int)] w' fun e w'' => e = .returned (.agg #[.int .i64 (K i), .int .i64 (A i)]) ∧ w'.grownBy w'' none) :
    Calls Tryz.prog 112 #[.pointer (some ⟨k.d, 0, none⟩), .func (.func 157) #[] #[]] w fun e w' => e = .returned (.int .i64 0) ∧
      DiskAt w' ⟨k.d, k.db, .slice none 0 0, k.mb⟩ n size (stl size (fun i => lasts (K i) (A i) size) D W W.length) [] ∧ Kept w w' (fun i => i = k.d ∨ i = k.db ∨ i = k.mb) := by
  have H := hide h.is
  have HD := hide h
  have HF := hide hf
  have c3 := h.c3
  obtain ⟨ao, cap, hv, hao, hao2⟩ := h.vw_form
  rw [hv] at c3
  have HV := hide (And.intro hv (And.intro hao hao2))
  obtain ⟨m, hm⟩ : ∃ m, m = W.length := ⟨_, rfl⟩
  rw [← hm] at c3
  have HM := hide hm
  have hfew : m ≤ 1000000 := by rw [hm]; exact h.few
  clear h hf hv hao hao2 hm
  go_enter Tryz.func112, Tryz.ntmps112
  go_wp2_with fail
  refine H.out.mono ?_
  rintro e w' ⟨rfl, rfl⟩
  go_wp2
  go_loopg [14] m (fun q i wr => ∃ j : Nat, q + j = m ∧ i = .int .i64 j ∧ Hid (DiskAt wr k n size (stl size (fun i => lasts (K i) (A i) size) D W j) W ∧ w'.grownBy wr (some k.db)))
  case atStart => exact ⟨0, by omega, rfl, hide ⟨HD.out, grown_refl _ _⟩⟩
  case round =>
    obtain ⟨j, hkj, rfl, HR⟩ := hrel
    by_cases hk : 0 < gk
    · obtain ⟨x, hx⟩ : ∃ x, W[j]? = some x := ⟨_, List.getElem?_eq_getElem (by have := HM.out; omega)⟩
      obtain ⟨gw, rfl⟩ : ∃ gw, ao = some ⟨gw, 0, none⟩ := by
        cases ao with
        | none => have := HV.out.2.1 rfl; have := HM.out; omega
        | some a => exact ⟨a.block, by rw [← HV.out.2.2 a rfl]⟩
      obtain ⟨d1, d2⟩ := HR.out.1.wait_cells (by rw [HV.out.1]) hx
      have HX := hide hx
      have h1 : (0 : Int) ≤ (j : Int) := by omega
      have h2 : (j : Int) < (m : Int) := by omega
      unfold bsl at d2
      clear hx
      have HB := hide (And.intro HR.out.1 HR.out.2)
      obtain ⟨a1, a2, a3, a4⟩ := HR.out.1.waits x (List.mem_of_getElem? HX.out)
      have g0 := World.grownBy_alloc wr (.cells #[.int .i64 (x.sec : Int), .slice (some ⟨x.blk, 0, none⟩) size size] 176) none
      have D0 := HR.out.1.grown g0
      have G0 : w'.grownBy (wr.alloc (.cells #[.int .i64 (x.sec : Int), .slice (some ⟨x.blk, 0, none⟩) size size] 176)) (some k.db) := grown_trans HR.out.2 (grown_none g0 _)
      have b0 := cell_two wr (.int .i64 (x.sec : Int)) (.slice (some ⟨x.blk, 0, none⟩) size size) 176 0 _ rfl
      have b1 := cell_two wr (.int .i64 (x.sec : Int)) (.slice (some ⟨x.blk, 0, none⟩) size size) 176 1 _ rfl
      have b2 := D0.c1
      rw [Addr.add_lit] at b0 b1
      have hne : some wr.heap.size ≠ some k.db := fun e => by have := HR.out.1.lt k.db (.inl (.inr (.inl rfl))); have := Option.some.inj e; omega
      have hne2 : some k.d ≠ some k.db := fun e => HR.out.1.vw_ne.2.2.2.1 (Option.some.inj e)
      have hL := lasts_le (K j) (A j) size
      have HS : Hid (∀ w2, (wr.alloc (.cells #[.int .i64 (x.sec : Int), .slice (some ⟨x.blk, 0, none⟩) size size] 176)).grownBy w2 none → Calls Tryz.prog 134 #[.pointer (some ⟨k.d, 0, none⟩), .int .i64 (x.sec : Int)] w2 fun e w3 => e = .returned (.slice (some ⟨k.db, x.sec * size, none⟩) size (n * size - x.sec * size)) ∧ w2.grownBy w3 none) := fun w2 hg => (sector_any (D0.grown hg) x.sec a1).mono (by rintro e w3 ⟨rfl, q, rfl⟩; exact ⟨rfl, grown_drewN _ _ _⟩)
      have HC := hide (HF.out j (by have := HM.out; omega))
      have HLs := hide (lasting_any (K j) (A j) size)
      have hstep : stl size (fun i => lasts (K i) (A i) size) D W (j + 1) = splice (stl size (fun i => lasts (K i) (A i) size) D W j) (x.sec * size) (x.xs.take (lasts (K j) (A j) size)) := stl_step HX.out
      have hfit := HR.out.1.fits (List.mem_of_getElem? HX.out) (lasts (K j) (A j) size)
      have hsl := slice_to (some ⟨x.blk, 0, none⟩) size size (lasts (K j) (A j) size) hL
      have hlen := HR.out.1.len
      have hzl : (x.xs.take (lasts (K j) (A j) size)).length = lasts (K j) (A j) size := by simp [a2]; omega
      have hdur := D0.dur
      have hsrc : At (wr.alloc (.cells #[.int .i64 (x.sec : Int), .slice (some ⟨x.blk, 0, none⟩) size size] 176)) (some ⟨x.blk, 0, none⟩) (x.xs.take (lasts (K j) (A j) size)) := (at_row (g0.block _ (row_lt a4) (by simp) |>.trans a4)).take _
      have HA := hide (And.intro a3 (And.intro hfit (And.intro hlen (And.intro hzl (And.intro hdur (And.intro hsrc (And.intro hstep (And.intro D0 (And.intro G0 (And.intro hne hne2))))))))))
      clear a1 a2 a3 a4 g0 D0 G0 hne hne2 hstep hfit hlen hzl hdur hsrc
      generalize lasts (K j) (A j) size = L at *
      go_wp2_with fail
      generalize wr.alloc (.cells #[.int .i64 (x.sec : Int), .slice (some ⟨x.blk, 0, none⟩) size size] 176) = w0 at *
      have hS := And.intro b0 (And.intro b1 b2)
      clear b0 b1 b2
      have HSS : Hid (∀ w2 : World, w0.grownBy w2 (some k.db) → (w2.cell? ⟨wr.heap.size, 0 + 0, none⟩ = some (.int .i64 (x.sec : Int)) ∧ w2.cell? ⟨wr.heap.size, 0 + 1, none⟩ = some (.slice (some ⟨x.blk, 0, none⟩) size size) ∧ w2.cell? ⟨k.d, 1, none⟩ = some (.int .i64 (size : Int)))) := fun w2 hg => by
        obtain ⟨_, _, _, _, _, _, _, _, _, hne, hne2⟩ := HA.out
        exact ⟨hg.cell hS.1 hne, hg.cell hS.2.1 hne, hg.cell hS.2.2 hne2⟩
      have HCP : Hid (∀ w2 : World, w0.grownBy w2 none → w2.heap[k.db]? = some (.cells (bv (stl size (fun i => lasts (K i) (A i) size) D W j)).toArray 5 (0, 0)) ∧ (bv (x.xs.take L)).length = Nat.min L size ∧
          (0 < (bv (x.xs.take L)).length → ∃ ad, some (⟨x.blk, 0, none⟩ : Addr) = some ad ∧ ∀ j v, (bv (x.xs.take L))[j]? = some v → w2.cell? (ad.add j) = some v) ∧
          x.sec * size + (bv (x.xs.take L)).length ≤ (bv (stl size (fun i => lasts (K i) (A i) size) D W j)).length ∧ (∀ v ∈ bv (x.xs.take L), v.oneCell' = true)) := by
        intro w2 hg
        obtain ⟨_, b1, b2, b3, b4, b5, _⟩ := HA.out
        refine ⟨(hg.block _ (row_lt b4) (by simp)).trans b4, by rw [bv_length, b3]; exact (Nat.min_eq_left hL).symm, fun _ => ⟨_, rfl, ?_⟩, by rw [bv_length, bv_length, b2]; exact b1, ?_⟩
        · intro i v hv
          rw [bv, List.getElem?_map] at hv
          cases hj : (x.xs.take L)[i]? with
          | none => simp [hj] at hv
          | some y =>
            simp [hj] at hv
            obtain ⟨a', ea', hc'⟩ := (b5.grown hg) i y hj
            cases ea'
            rw [← hv]; exact hc'
        · intro v hv; rw [bv, List.mem_map] at hv; obtain ⟨y, _, rfl⟩ := hv; rfl
      have HG0 : Hid (w'.grownBy w0 (some k.db)) := HA.out.2.2.2.2.2.2.2.2.1
      have HST : Hid (∀ w5 : World, w5.heap[k.db]? = some (.cells (splice (bv (stl size (fun i => lasts (K i) (A i) size) D W j)) (x.sec * size) (bv (x.xs.take L))).toArray 5 (0, 0)) → w0.grownBy w5 (some k.db) → DiskAt w5 k n size (stl size (fun i => lasts (K i) (A i) size) D W (j + 1)) W ∧ w'.grownBy w5 (some k.db)) := by
        intro w5 h5 hg5
        obtain ⟨_, b1, b2, b3, b4, b5, b6, b7, b8, _⟩ := HA.out
        refine ⟨b7.setDur hg5 ?_ ?_, grown_trans b8 hg5⟩
        · rw [h5, b6, bv_splice]
        · rw [b6, length_splice _ _ _ (by rw [b2]; exact b1)]
      clear HA HR HB HX
      generalize bv (x.xs.take L) = XV at *
      generalize bv (stl size (fun i => lasts (K i) (A i) size) D W j) = DV at *
      generalize n * size - x.sec * size = cc at *
      generalize x.sec * size = off at *
      go_region_held3 (fun w' => w'.cell? ⟨wr.heap.size, 0 + 0, none⟩ = some (.int .i64 (x.sec : Int)) ∧ w'.cell? ⟨wr.heap.size, 0 + 1, none⟩ = some (.slice (some ⟨x.blk, 0, none⟩) size size) ∧ w'.cell? ⟨k.d, 1, none⟩ = some (.int .i64 (size : Int))) (first | assumption | go_keep) (first
        | (go_at_call 134; refine (HS.out _ (grown_drew _ _)).mono ?_; rintro e w2 ⟨rfl, hg2'⟩; have hg2 := grown_trans (grown_drew w0 none) hg2'; clear hg2'; have hS2 := HSS.out w2 (grown_none hg2 _))
        | (go_at_call 137; refine (HLs.out _).mono ?_; rintro e w4 ⟨rfl, hg4'⟩; have hg4 := grown_trans hg3 hg4'; clear hg4'; have hS4 := HSS.out w4 (grown_none hg4 _))
        | (have hgx := hg4; clear hgx; refine step_copy_grown rfl (.tmp 22) (.tmp 33) 36 36 rfl 5 Tryz.underlying36 Tryz.size5 (some ⟨k.db, off, none⟩) (some ⟨x.blk, 0, none⟩) size cc L size (by rfl) (by rfl) k.db off DV 5 (HCP.out _ hg4).1 XV (HCP.out _ hg4).2.1 (fun hp => ⟨rfl, (HCP.out _ hg4).2.2.1 hp⟩) (HCP.out _ hg4).2.2.2.1 (HCP.out _ hg4).2.2.2.2 ?_; intro w5 H5 hg5; have hg5' := grown_trans (grown_none hg4 _) hg5; have hS5 := HSS.out w5 hg5')
        | (go_at_call 157; refine (HC.out _ (grown_trans HG0.out (grown_none hg2 _))).mono ?_; rintro e w3 ⟨rfl, hg3'⟩; have hg3 := grown_trans hg2 hg3'; clear hg3'; have hS3 := HSS.out w3 (grown_none hg3 _)))
      have H6 := hide (HST.out w5 H5.out hg5')
      clear hS hS2 hS3 hS4 hS5 hg2 hg3 hg4 hg5 hg5' H5 HST HCP HSS HC HLs HS d1 d2 c3
      go_wp2
      go_roundg (gk - 1)
      case measure => omega
      case rel => exact ⟨j + 1, by omega, by go_num, H6⟩
    · have hj : j = m := by omega
      subst hj
      have c3r := HR.out.1.c3
      have c4r := HR.out.1.c4
      have hfr := HR.out.1.free 3
      have hne := HR.out.1.vw_ne
      have c4s : (wr.setCell ⟨k.d, 3, none⟩ (.slice none 0 0)).cell? ⟨k.d, 4, none⟩ = some (.map (some k.mb)) := (World.cell?_setCell_other _ _ _ _ (by simp)).trans c4r
      have hm : MapAt (wr.setCell ⟨k.d, 3, none⟩ (.slice none 0 0)) Tryz.prog 3 k.mb W.length (newest size W) := HR.out.1.map.same (Below.heap_setCell _ _ _ _ (show k.mb ≠ k.d from fun e => hne.2.2.2.2.1 e.symm))
      obtain ⟨w6, hrun, hm6, hg6⟩ := hm.clear (t := 138) (e := 36) Tryz.underlying138 0
      have H6 := hide (And.intro hm6 hg6)
      rw [HV.out.1, ← HM.out] at c3r
      clear hm hm6 hg6 c4r hne c3 hkj hk
      go_wp2
      go_ret
      refine ⟨rfl, ?_⟩
      rw [← HM.out]
      exact settled_of HR.out.1 HR.out.2 H6.out.1 H6.out.2
end
end Go.Proofs.YtonokaelbpfjnaaGreatDoor
/- The contracts of Sync and Crash. -/
namespace Go.Proofs.YtonokaelbpfjnaaGreatDoor
open Go.RowKit Ap
attribute [local go_sem ↓] Go.wp_at_zero Go.wp_at_succ

/-- Fates (their kind, their place) lie there. -/
def FatesAt (w : World) (fo : Option Addr) (F : List (Int × Int)) : Prop := ∀ j p, F[j]? = some p → ∃ b o, fo = some ⟨b, o, none⟩ ∧ w.cell? ⟨b, o + j * 2, none⟩ = some (.int .i64 p.1) ∧ w.cell? ⟨b, o + j * 2 + 1, none⟩ = some (.int .i64 p.2)
theorem FatesAt.kept {w w' : World} {fo : Option Addr} {F : List (Int × Int)} {row : Option Nat} (h : FatesAt w fo F) (hg : w.grownBy w' row) (hr : ∀ a, fo = some a → some a.block ≠ row) : FatesAt w' fo F := by
  intro j p hj
  obtain ⟨b, o, e, h1, h2⟩ := h j p hj
  have hb : some b ≠ row := hr ⟨b, o, none⟩ e
  exact ⟨b, o, e, hg.cell h1 hb, hg.cell h2 hb⟩
theorem FatesAt.grown {w w' : World} {fo : Option Addr} {F : List (Int × Int)} (h : FatesAt w fo F) (hg : w.grownBy w' none) : FatesAt w' fo F := h.kept hg (by simp)
/-- The fate of the i-th. -/
def fateK (F : List (Int × Int)) (i : Nat) : Int := (F[i]?.getD (0, 0)).1
def fateA (F : List (Int × Int)) (i : Nat) : Int := (F[i]?.getD (0, 0)).2

set_option maxHeartbeats 1000000 in
theorem keep_any (i : Nat) (w : World) : Calls Tryz.prog 157 #[.int .i64 (i : Int)] w fun e w' => e = .returned (.agg #[.int .i64 1, .int .i64 0]) ∧ w.grownBy w' none := by
  go_enter Tryz.func157, Tryz.ntmps157
  go_wp2
  refine bodyPost_ret (results_cell_row rfl _ _ w.heap.size 165 #[.int .i64 1, .int .i64 0] (0, 0) _ rfl (heap_alloc_new w _) Tryz.underlying165 rfl (by kernel_rfl)) rfl ?_
  exact ⟨rfl, World.grownBy_alloc w _ none⟩
set_option maxHeartbeats 1000000 in
theorem fate_any (i m cap : Nat) (fo : Option Addr) (F : List (Int × Int)) (bx : Nat) (w : World) (hm : F.length = m) (hF : FatesAt w fo F) (hb : w.cell? ⟨bx, 0, none⟩ = some (.slice fo m cap)) :
    Calls Tryz.prog 113 #[.int .i64 (i : Int), .pointer (some ⟨bx, 0, none⟩)] w fun e w' => e = .returned (.agg #[.int .i64 (fateK F i), .int .i64 (fateA F i)]) ∧ w.grownBy w' none := by
  have hb1 : (w.alloc (.cells #[.int .i64 0, .int .i64 0] 165)).cell? ⟨bx, 0, none⟩ = some (.slice fo m cap) := (World.grownBy_alloc w _ none).cell hb (by simp)
  by_cases h : i < m
  · have hx : F[i]? = some (F[i]'(by omega)) := List.getElem?_eq_getElem (by omega)
    obtain ⟨b, o, rfl, c1, c2⟩ := hF i _ hx
    have e1 : fateK F i = (F[i]'(by omega)).1 := by simp [fateK, hx]
    have e2 : fateA F i = (F[i]'(by omega)).2 := by simp [fateA, hx]
    rw [e1, e2]
    have d1 : (w.alloc (.cells #[.int .i64 0, .int .i64 0] 165)).cell? ⟨b, o + i * 2, none⟩ = _ := (World.grownBy_alloc w _ none).cell c1 (by simp)
    have d2 : (w.alloc (.cells #[.int .i64 0, .int .i64 0] 165)).cell? ⟨b, o + i * 2 + 1, none⟩ = _ := (World.grownBy_alloc w _ none).cell c2 (by simp)
    have h1 : (i : Int) < (m : Int) := by omega
    have h2 : (0 : Int) ≤ (i : Int) := by omega
    generalize (F[i]'(by omega)).1 = K at *
    generalize (F[i]'(by omega)).2 = A at *
    clear c1 c2 hF hx hm e1 e2 h hb
    go_enter Tryz.func113, Tryz.ntmps113
    go_wp2
    refine bodyPost_ret (results_cell_row rfl _ _ w.heap.size 165 #[.int .i64 K, .int .i64 A] (0, 0) _ rfl (heap_alloc_new w _) Tryz.underlying165 rfl (by kernel_rfl)) rfl ?_
    exact ⟨rfl, World.grownBy_alloc w _ none⟩
  · have hx : F[i]? = none := List.getElem?_eq_none (by omega)
    have e1 : fateK F i = 0 := by simp [fateK, hx]
    have e2 : fateA F i = 0 := by simp [fateA, hx]
    rw [e1, e2]
    have h1 : ¬ (i : Int) < (m : Int) := by omega
    clear hF hx hm e1 e2 h hb
    go_enter Tryz.func113, Tryz.ntmps113
    go_wp2
    refine bodyPost_ret (results_cell_row rfl _ _ w.heap.size 165 #[.int .i64 0, .int .i64 0] (0, 0) _ rfl (heap_alloc_new w _) Tryz.underlying165 rfl (by kernel_rfl)) rfl ?_
    exact ⟨rfl, World.grownBy_alloc w _ none⟩

section
variable {w : World} {k : Dk} {n size : Nat} {D : List Nat} {W : List Wt}
/-- A disk on which nothing waits any more. -/
def Dk.calm (k : Dk) : Dk := ⟨k.d, k.db, .slice none 0 0, k.mb⟩
set_option maxHeartbeats 400000 in
theorem sync_none (p : Option Addr) (w : World) (h : NoDisk w p) : Calls Tryz.prog 155 #[.pointer p] w fun e w' => e = .returned (.int .i64 1) ∧ w' = w := by
  have H := hide (fun v => settle_none p v w h)
  clear h
  go_enter Tryz.func155, Tryz.ntmps155
  go_wp2_with fail
  refine (H.out _).mono ?_
  rintro e w' ⟨rfl, rfl⟩
  go_wp2
  go_ret
  exact ⟨rfl, rfl⟩
set_option maxHeartbeats 400000 in
theorem crash_none (p fo : Option Addr) (m cap : Nat) (w : World) (h : NoDisk w p) : Calls Tryz.prog 71 #[.pointer p, .slice fo m cap] w fun e w' => e = .returned (.int .i64 1) ∧ w.grownBy w' none := by
  have H := hide (fun v' => settle_none p v' (w.alloc (.cells #[.slice fo m cap] 29)) (h.grown (World.grownBy_alloc w _ none)))
  have hmf : ∀ (fn : Fn) (first cap : Array Value) (w : World), (Instr.makeFunc fn first cap).run Tryz.prog w = .ok (.func fn first cap) w := fun _ _ _ _ => rfl
  clear h
  go_enter Tryz.func71, Tryz.ntmps71
  go_wp2_with fail
  refine (H.out _).mono ?_
  rintro e w' ⟨rfl, rfl⟩
  go_wp2
  go_ret
  exact ⟨rfl, World.grownBy_alloc w _ none⟩
set_option maxHeartbeats 400000 in
theorem sync_any (h : DiskAt w k n size D W) : Calls Tryz.prog 155 #[.pointer (some ⟨k.d, 0, none⟩)] w fun e w' => e = .returned (.int .i64 0) ∧
    DiskAt w' k.calm n size (stl size (fun _ => size) D W W.length) [] ∧ Kept w w' (fun i => i = k.d ∨ i = k.db ∨ i = k.mb) := by
  have H := hide (settle57 (fun _ => 1) (fun _ => 0) h (fun i _ w' _ => keep_any i w'))
  clear h
  go_enter Tryz.func155, Tryz.ntmps155
  go_wp2_with fail
  refine H.out.mono ?_
  rintro e w' ⟨rfl, h1, h2⟩
  have HH := hide (And.intro h1 h2)
  clear h1 h2
  go_wp2
  go_ret
  exact ⟨rfl, HH.out⟩
set_option maxHeartbeats 400000 in
theorem crash_any (h : DiskAt w k n size D W) (fo : Option Addr) (m cap : Nat) (F : List (Int × Int)) (hm : F.length = m) (hF : FatesAt w fo F) (hfo : ∀ a, fo = some a → a.block ≠ k.db) : Calls Tryz.prog 71 #[.pointer (some ⟨k.d, 0, none⟩), .slice fo m cap] w fun e w' => e = .returned (.int .i64 0) ∧
    DiskAt w' k.calm n size (stl size (fun i => lasts (fateK F i) (fateA F i) size) D W W.length) [] ∧ Kept w w' (fun i => i = k.d ∨ i = k.db ∨ i = k.mb) := by
  have g0 := World.grownBy_alloc w (.cells #[.slice fo m cap] 29) none
  have hdb := h.lt k.db (.inl (.inr (.inl rfl)))
  have H := hide (settle59 ⟨w.heap.size, 0, none⟩ (fateK F) (fateA F) (h.grown g0) (fun i _ w' hg => fate_any i m cap fo F w.heap.size w' hm ((hF.grown g0).kept hg (fun a e e' => hfo a e (Option.some.inj e')))
    (hg.cell (cell_new w _ 29) (fun e => by have : w.heap.size = k.db := Option.some.inj e; omega))))
  have HK : Hid (∀ w' : World, Kept (w.alloc (.cells #[.slice fo m cap] 29)) w' (fun i => i = k.d ∨ i = k.db ∨ i = k.mb) → Kept w w' (fun i => i = k.d ∨ i = k.db ∨ i = k.mb)) := fun w' hk => (Kept.new g0 _).trans hk (fun _ _ e => e)
  have hmf : ∀ (fn : Fn) (first cap : Array Value) (w : World), (Instr.makeFunc fn first cap).run Tryz.prog w = .ok (.func fn first cap) w := fun _ _ _ _ => rfl
  clear h g0 hF hfo hm hdb
  go_enter Tryz.func71, Tryz.ntmps71
  go_wp2_with fail
  refine H.out.mono ?_
  rintro e w' ⟨rfl, h1, h2⟩
  have HH := hide (And.intro h1 (HK.out _ h2))
  clear h1 h2
  go_wp2
  go_ret
  exact ⟨rfl, HH.out⟩
end
end Go.Proofs.YtonokaelbpfjnaaGreatDoor
