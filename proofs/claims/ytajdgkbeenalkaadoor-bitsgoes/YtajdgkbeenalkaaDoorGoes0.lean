/- Iterators over numbers and over gaps, where the loop's body writes two blocks that lay ahead of it, and may leave the loop. -/
import Derived.Test.YtajdgkbeenalkaaDoorIter2
import Derived.Test.YtajdgkbeenalkaaDoorPick
namespace Go.Proofs.YtajdgkbeenalkaaDoor
open Go.RowKit Go.Shelf
attribute [local go_sem] Oper.semAt_some

/-- A range whose body may be left by break: what is left is walked once. -/
theorem wpIn_rangeFunc_brk {F : Fence} {n : Nat} {P : Program} {α : Type} {g : Operand} {ps : Array Tmp} {assign body : Code} {Q : Exit → Act → World → Prop} {a : Act} {w : World} (id : Nat)
    (hro : F.round = none) (h1 : 1 ≤ n) {gf : Nat} {lb : Array Value} (hg : a.eval g = .func (.func gf) #[] lb) (hFg : F.fn gf) (eg : ∀ args w, (callFunc gf args).run P w = .ok (.enter gf args) w)
    {encs : α → Array Value} {Kp : World → World → Prop} {S Sp : List α → Prop} {N : Nat} {w0 : World} (hseq : SeqStopsK F (n - 1) P gf lb encs Kp S Sp N w0)
    (hKt : ∀ {A B C : World}, Kp A B → Kp B C → Kp A C) (hKb : ∀ (W : World) (l : Nat) (o o' : Obj), w.heap.size ≤ l → W.heap[l]? = some o → o.isCells = false → o.isWalk = false → Kp W (W.putObj l o')) (hb0 : Below w0.heap.size w0 w) (hps : ∀ x, (encs x).size = ps.size)
    (I : List α → World → Prop) (X : World → Prop) (hI : OwnFrom w.heap.size I) (hX : OwnFrom w.heap.size (fun (_ : Unit) => X)) (h0 : I [] w) (hIX : ∀ pre W, I pre W → X W) (a₁ : α → Act)
    (hassign : ∀ (l : Nat) (x : α) (W : World) (K : Act → World → Prop), K (a₁ x) W →
      assign.wpIn (F.inRound l) (n - 1 - 1) P (Exit.then K (fun _ _ _ => False)) { tmps := (ps.zip (encs x)).foldl (fun t (p, v) => t.setIfInBounds p v) a.tmps, defers := [] } W)
    (hbody : ∀ (l : Nat) (pre : List α) (x : α) (W : World), I pre W → pre.length < N → body.wpIn (F.inRound l) (n - 1 - 1) P (ownPostG w.heap.size Kp I (fun c _ W => c = .exit id ∧ X W) (pre ++ [x]) W) (a₁ x) W)
    (hend : ∀ (D : Nat) (W : World), w.heap.size ≤ D → X W → W.heap[D]? = some (.deferred (some [])) → Q .normal { a with defers := { target := .collected D, args := #[] } :: a.defers } W) :
    (Code.rangeFunc g ps assign body).wpIn F n P (Exit.inBlock id Q) a w := by
  refine wpIn_rangeFunc_ownG hro h1 hg hFg eg hseq (fun h k => hKt h k) hKb hb0 hps I (fun c _ W => c = .exit id ∧ X W) hI (fun c s W W' row hs hgr hr => ⟨hs.1, hX () W W' row hs.2 hgr hr⟩) h0 a₁ hassign hbody ?_ ?_
  · intro D xs W hD _ hi hK
    exact hend D W hD (hIX xs W hi) hK
  · rintro D c pre W hD _ ⟨rfl, hx⟩ hK
    refine wpIn_exit ?_
    show (if id = id then Q .normal _ W else Q (.exit id) _ W)
    rw [if_pos rfl]
    exact hend D W hD hx hK

set_option maxRecDepth 100000 in
set_option maxHeartbeats 1000000 in
theorem gaps1_gen (Kp : World → World → Prop) (Iv : World → Prop) (n : Nat) (hn : 1 ≤ n) (l B n₀ : Nat) (p : Option Addr) (L : List Bool) (hL : L.length ≤ 65536) (J Jx : List (Nat × Nat) → World → Prop)
    (hY : ∀ pre (x : Nat × Nat) W, J pre W → pre.length < (gapsL L).length → YieldAt Fence.wide (n - 1) Tryd.prog l (encP x) W fun e W' =>
      (e = .returned (.bool true) ∧ J (pre ++ [x]) W' ∧ Kp W W') ∨ (e = .returned (.bool false) ∧ Jx (pre ++ [x]) W'))
    (hIv : ∀ W, Iv W → It n₀ W B p L) (hkp : ∀ W W', Kp W W' → Iv W → Iv W') (W : World) (hI : Iv W) (h0 : J [] W) :
    CallsIn Fence.wide n Tryd.prog 57 #[.func (.yield l) #[] #[], .pointer (some ⟨B, 0, none⟩)] W fun e W' => (∃ v, e = .returned v) ∧
      ((∃ ys, ys = gapsL L ∧ J ys W') ∨ (∃ pre, pre <+: gapsL L ∧ Jx pre W')) := by
  refine callsIn_of_wp Tryd.func57 rfl trivial ?_ rfl
  simp only [Tryd.ntmps57, List.size_toArray, List.length_cons, List.length_nil, Nat.reduceAdd, Nat.reduceSub, Array.replicate_succ, Array.replicate_zero, List.push_toArray, List.append_toArray, List.nil_append, List.cons_append]
  have hc := (hIv _ hI).box.cell
  have hN := hide ((hIv _ hI).free 0)
  have hG := gapsL_is L
  gi_wp2_with fail
  refine ⟨trivial, ?_⟩
  refine (callsIn_wide.2 hN.out).mono ?_
  rintro e w' ⟨r, rfl, hS, rfl⟩
  have HS := hide hS
  clear hN hS hc
  gi_wp2
  gi_loopw [3] (fun q wr => ∃ (i : Nat) (r : Int) (pre rest : List (Nat × Nat)), q = .int .i64 r ∧ Hid (Seek L false i r) ∧ Hid (gapsL L = pre ++ rest) ∧ GapsR L i rest ∧ J pre wr ∧ Iv wr) (fun q _ => leftOf L.length q)
  case atStart => exact ⟨0, r, [], gapsL L, rfl, HS, hide rfl, hG, h0, hI⟩
  case round =>
    obtain ⟨i, r, pre, rest, rfl, hS, hpr, hR, hJ, hI⟩ := hrel
    rcases hS.out.cases with rfl | ⟨k, rfl, hik, hkL⟩
    · have he : rest = [] := hR.uniq (.nil hS.out)
      subst he
      clear hR
      gi_wp2
      go_end0
      exact ⟨⟨_, rfl⟩, .inl ⟨_, rfl, by rw [hpr.out, List.append_nil]; exact hJ⟩⟩
    · cases hR with
      | nil h2 => have := hS.out.uniq h2; omega
      | cons h2 he hx =>
        rename_i k' e rest'
        have e1 := Int.ofNat.inj (hS.out.uniq h2)
        subst e1
        have hl := he.lt h2
        obtain ⟨fn, tmps, assign, body, hy, hR⟩ := hY _ (k, e - k) wr hJ (by rw [hpr.out]; simp)
        have hk0 : ((k : Int) == -1) = false := by simp
        have hc := (hIv _ hI).box.cell
        have hN := hide ((hIv _ hI).next (k : Int))
        have HE := hide he
        simp only [encP] at hy
        have hsub : (e : Int) - (k : Int) = ((e - k : Nat) : Int) := by omega
        clear he h2
        gi_wp2_with fail
        refine ⟨trivial, ?_⟩
        refine (callsIn_wide.2 hN.out).mono ?_
        rintro e1 w4 ⟨r2, rfl, hS2, rfl⟩
        rw [Int.toNat_natCast] at hS2
        have HS2 := hide hS2
        clear hS2 hN
        rcases HS2.out.cases with rfl | ⟨k2, rfl, h1, h2⟩
        · obtain rfl : e = L.length := by
            rcases HE.out with h | ⟨_, h⟩
            · have := h.uniq HS2.out; omega
            · exact h
          obtain ⟨b, g, rfl, hset, _⟩ : ∃ b g, p = some ⟨b, 0, none⟩ ∧ SetAt w4 b g L ∧ True := by
            rcases (hIv _ hI).held with ⟨b, g, hp, h1, _⟩ | ⟨_, h⟩
            · exact ⟨b, g, hp, h1, trivial⟩
            · rw [h] at hkL; simp at hkL
          have hbd := hset.bound
          clear hset
          gi_wp2
          refine hR.mono ?_
          rintro e1 W3 (⟨rfl, hJ3, hk3⟩ | ⟨rfl, hJx3⟩)
          · have hI3 := hkp _ _ hk3 hI
            have hc3 := (hIv _ hI3).box.cell
            have hN3 := hide ((hIv _ hI3).free (L.length : Int))
            gi_wp2_with fail
            refine ⟨trivial, ?_⟩
            refine (callsIn_wide.2 hN3.out).mono ?_
            rintro e1 w4 ⟨r2, rfl, hS3, rfl⟩
            rw [Int.toNat_natCast] at hS3
            have HS3 := hide hS3
            clear hS3 hc3 hN3
            gi_wp2
            go_roundw
            case rel => exact ⟨L.length, r2, pre ++ [(k, L.length - k)], rest', rfl, HS3, hide (by rw [hpr.out, List.append_assoc]; rfl), hx, hJ3, hI3⟩
            case measure =>
              rcases HS3.out.cases with rfl | ⟨k2, rfl, h1, h2⟩
              · rw [leftOf_neg, leftOf_nat]; omega
              · rw [leftOf_nat, leftOf_nat]; omega
          · gi_wp2
            refine bodyPost_ret (results_none rfl _ _ _) rfl ?_
            exact ⟨⟨_, rfl⟩, .inr ⟨_, by rw [hpr.out]; exact ⟨rest', by simp⟩, hJx3⟩⟩
        · obtain rfl : k2 = e := by
            rcases HE.out with h | ⟨h, _⟩
            · exact Int.ofNat.inj (HS2.out.uniq h)
            · have := h.uniq HS2.out; omega
          have hk20 : ((k2 : Int) == -1) = false := by simp
          gi_wp2
          refine hR.mono ?_
          rintro e1 W3 (⟨rfl, hJ3, hk3⟩ | ⟨rfl, hJx3⟩)
          · have hI3 := hkp _ _ hk3 hI
            have hc3 := (hIv _ hI3).box.cell
            have hN3 := hide ((hIv _ hI3).free (k2 : Int))
            gi_wp2_with fail
            refine ⟨trivial, ?_⟩
            refine (callsIn_wide.2 hN3.out).mono ?_
            rintro e1 w4 ⟨r2, rfl, hS3, rfl⟩
            rw [Int.toNat_natCast] at hS3
            have HS3 := hide hS3
            clear hS3 hc3 hN3
            gi_wp2
            go_roundw
            case rel => exact ⟨k2, r2, pre ++ [(k, k2 - k)], rest', rfl, HS3, hide (by rw [hpr.out, List.append_assoc]; rfl), hx, hJ3, hI3⟩
            case measure =>
              rcases HS3.out.cases with rfl | ⟨k2, rfl, h1, h2⟩
              · rw [leftOf_neg, leftOf_nat]; omega
              · rw [leftOf_nat, leftOf_nat]; omega
          · gi_wp2
            refine bodyPost_ret (results_none rfl _ _ _) rfl ?_
            exact ⟨⟨_, rfl⟩, .inr ⟨_, by rw [hpr.out]; exact ⟨rest', by simp⟩, hJx3⟩⟩


theorem gaps_stops_gen (Kp : World → World → Prop) (Iv : World → Prop) (n : Nat) (hn : 1 ≤ n) (B n₀ : Nat) (p : Option Addr) (L : List Bool) (w : World) (hIv : ∀ W, Iv W → It n₀ W B p L) (hkp : ∀ W W', Kp W W' → Iv W → Iv W') (hI : ∀ W, Below w.heap.size w W → Iv W) (hL : L.length ≤ 65536) :
    SeqStopsK Fence.wide n Tryd.prog 57 #[.pointer (some ⟨B, 0, none⟩)] encP Kp (fun ys => ys = gapsL L) (fun pre => pre <+: gapsL L) (gapsL L).length w := fun l J Jx W hW _ _ hY h0 =>
  gaps1_gen Kp Iv n hn l B n₀ p L hL J Jx hY hIv hkp W (hI W hW) h0

set_option maxHeartbeats 400000 in
/-- Gaps, of a set: the iterator's blocks are new. -/
theorem gaps_fresh (b g : Nat) (L : List Bool) (w : World) (h : SetAt w b g L) (hT : Tab w) :
    Calls Tryd.prog 31 #[.pointer (some ⟨b, 0, none⟩)] w fun e w' => ∃ B b' g', e = .returned (.func (.func 57) #[] #[.pointer (some ⟨B, 0, none⟩)]) ∧ Boxed w' B 24 (.pointer (some ⟨b', 0, none⟩)) ∧ SetAt w' b' g' L ∧ w.heap.size ≤ B ∧ w.heap.size ≤ b' ∧ w.heap.size ≤ g' ∧ w.grownBy w' none := by
  have H := hide (copy_any b g L w h hT.lt)
  clear h hT
  go_enter Tryd.func31, Tryd.ntmps31
  go_wp2_with fail
  refine H.out.mono ?_
  rintro e w' ⟨b', g', rfl, h1, h2, h3, h4⟩
  have HQ := hide (And.intro h1 h4)
  have hsz : w.heap.size ≤ w'.heap.size := h4.size
  clear h1 h4 H
  go_wp2
  go_ret
  exact ⟨w'.heap.size, b', g', rfl, Boxed.new w' 24 _, HQ.out.1.kept (World.grownBy_alloc w' _ none) (by simp) (by simp), hsz, h2, h3, grown_trans HQ.out.2 (World.grownBy_alloc w' _ none)⟩

/-- Below B all but blocks x and y is as it was. -/
structure But2 (B x y : Nat) (w w' : World) : Prop where
  os : w'.os = w.os
  tape : w'.tape = w.tape
  output : w'.output = w.output
  size : w.heap.size ≤ w'.heap.size
  block : ∀ k, k < B → k ≠ x → k ≠ y → w'.heap[k]? = w.heap[k]?
theorem But2.refl (B x y : Nat) (w : World) : But2 B x y w w := ⟨rfl, rfl, rfl, Nat.le_refl _, fun _ _ _ _ => rfl⟩
theorem But2.trans {B x y : Nat} {a b c : World} (h : But2 B x y a b) (k : But2 B x y b c) : But2 B x y a c :=
  ⟨k.os.trans h.os, k.tape.trans h.tape, k.output.trans h.output, Nat.le_trans h.size k.size, fun i hi hx hy => (k.block i hi hx hy).trans (h.block i hi hx hy)⟩
theorem But2.of {B x y : Nat} {a b : World} {row : Option Nat} (h : a.grownBy b row) (hB : B ≤ a.heap.size) (hr : ∀ k, row = some k → k = x ∨ k = y ∨ B ≤ k) : But2 B x y a b :=
  ⟨h.os, h.tape, h.output, h.size, fun k hk hx hy => h.block k (by omega) (fun e => by rcases hr k e.symm with h1 | h1 | h1 <;> omega)⟩
theorem But2.below {B x y : Nat} {a b : World} (h : Below a.heap.size a b) (hB : B ≤ a.heap.size) : But2 B x y a b :=
  ⟨h.os, h.tape, h.output, h.size, fun k hk _ _ => h.block k (by omega)⟩
theorem But2.putObj {B x y : Nat} {w : World} (hn : B ≤ w.heap.size) (W : World) (l : Nat) (o o' : Obj) (hl : w.heap.size ≤ l) (_ : W.heap[l]? = some o) (_ : o.isCells = false) (_ : o.isWalk = false) : But2 B x y W (W.putObj l o') :=
  ⟨rfl, rfl, rfl, by simp, fun k hk _ _ => World.putObj_heap_other (fun e => by omega)⟩
theorem SetAt.but2 {B x y : Nat} {w w' : World} {b g : Nat} {L : List Bool} (h : SetAt w b g L) (hB : But2 B x y w w') (hb : b < B ∧ b ≠ x ∧ b ≠ y) (hg : g < B ∧ g ≠ x ∧ g ≠ y) : SetAt w' b g L := by
  obtain ⟨W, cap, cur, h1, h2, h3⟩ := h
  exact ⟨W, cap, cur, (hB.block b hb.1 hb.2.1 hb.2.2).trans h1, (hB.block g hg.1 hg.2.1 hg.2.2).trans h2, h3⟩
theorem Boxed.but2 {B x y : Nat} {w w' : World} {b : Nat} {t : TypeId} {v : Value} (h : Boxed w b t v) (hB : But2 B x y w w') (hb : b < B ∧ b ≠ x ∧ b ≠ y) : Boxed w' b t v := (hB.block b hb.1 hb.2.1 hb.2.2).trans h
theorem Tab.but2 {B x y : Nat} {w w' : World} (h : Tab w) (hB : But2 B x y w w') (hn : 0 < B ∧ 0 ≠ x ∧ 0 ≠ y) : Tab w' := fun j hj => (World.cell?_of_block (hB.block 0 hn.1 hn.2.1 hn.2.2)).trans (h j hj)
theorem own_but2 {B x y : Nat} {w w' : World} {lo n : Nat} {e : TypeId} {v : Value} {xs : List Value} (h : w.ownsRow lo e 1 v n xs) (hB : But2 B x y w w') (hb : ∀ k, v.ownBlock = some k → k < B ∧ k ≠ x ∧ k ≠ y) : w'.ownsRow lo e 1 v n xs := by
  refine ⟨h.1, ?_⟩
  rcases h.2 with h1 | ⟨g, cap, cur, rfl, h2, h3, h4⟩
  · exact Or.inl h1
  · have := hb g rfl
    exact Or.inr ⟨g, cap, cur, rfl, h2, (hB.block g this.1 this.2.1 this.2.2).trans h3, h4⟩
end Go.Proofs.YtajdgkbeenalkaaDoor
