/- Texts joined: Rr, BkH, BkI, BkJ. -/
import Derived.RangeFuncNested
import Derived.RangeFuncBound
import Derived.RangeFuncCalls
import Derived.RangeFuncLeaves
import Derived.RangeFuncBox
import Derived.OrdersIn
import Derived.OrdersHeld
import Derived.Deep.RegionHeld
import Derived.Deep.Quiet
import Derived.Test.YtjfhilignbeboaaGreatDoorJrAk
import Derived.RangeFuncWrites
/- A region that draws its order, inside a round of a range over a function: what is shown of it outside a round holds there too. -/
namespace Go.Proofs.YtjfhilignbeboaaGreatDoor
open Go

variable {P : Program} {ops : Array Oper} {Q : Exit → Act → World → Prop} {md : Region.Mode}
theorem oper_round {o : Oper} {l n : Nat} {a : Act} {w : World} {K : Act → World → Prop} (hd : ∀ c, o.op ≠ .defer c) (h : o.wp P a w K Q) : o.wpIn (Fence.wide.inRound l) n P a w K Q := by
  unfold Oper.wp at h
  refine ⟨fun _ _ => trivial, ?_⟩
  rw [Oper.semAt_eq _ _ _ hd]
  generalize (execOp a.eval o).run P w = r at *
  cases r with
  | ok x w' =>
    cases x <;> simp only [Oper.upon, Oper.uponIn] at h ⊢ <;>
      first
        | exact h
        | exact ⟨fun e => (by have e2 : false = true := e; cases e2), CallsIn.inRound l (callsIn_wide.2 h)⟩
        | exact ⟨fun e => (by have e2 : false = true := e; cases e2), fun c cs _ => let ⟨v, w'', r, s⟩ := h c cs; ⟨v, w'', r, stepsIn_wide.2 s⟩⟩
        | exact h.elim
  | halt x w' => cases x <;> simp only [Oper.upon, Oper.uponIn] at h ⊢ <;> exact h
theorem op_round {i l n : Nat} {a : Act} {w : World} {K : Act → World → Prop} (hd : ∀ (j : Nat) (o : Oper), ops[j]? = some o → ∀ c, o.op ≠ .defer c) (hno : ¬ LetsOut Q) (h : wpOp P ops Q i K a w) : wpOpIn (Fence.wide.inRound l) n P ops Q i K a w := by
  unfold wpOp at h
  unfold wpOpIn
  split
  · rename_i ho; simp only [ho] at h; exact h
  · rename_i o ho
    simp only [ho] at h
    split
    · rename_i hw
      simp only [hw, if_true] at h
      rcases h with h | h
      · exact oper_round (hd _ _ ho) h
      · exact absurd h.2 hno
    · rename_i hw
      simp only [hw] at h
      exact ⟨fun _ _ => trivial, h⟩
theorem any_round {l n : Nat} (hd : ∀ (j : Nat) (o : Oper), ops[j]? = some o → ∀ c, o.op ≠ .defer c) (hno : ¬ LetsOut Q) : ∀ (fuel : Nat) (listed : Array Bool) (a : Act) (w : World), wpAny P md ops Q fuel listed a w → wpAnyIn (Fence.wide.inRound l) n P md ops Q fuel listed a w
  | 0, _, _, _, h => h
  | fuel + 1, _, _, _, h => ⟨h.1, fun i hi => wpOpIn_mono (fun a' w' h' => any_round hd hno fuel _ a' w' h') (op_round hd hno (h.2 i hi))⟩
def noDefer (ops : Array Oper) : Bool := ops.toList.all fun o => match o.op with | .defer _ => false | _ => true
theorem noDefer_spec (h : noDefer ops = true) : ∀ (j : Nat) (o : Oper), ops[j]? = some o → ∀ c, o.op ≠ .defer c := by
  intro j o ho c e
  have hm : o ∈ ops.toList := by simpa using Array.mem_of_getElem? ho
  have := List.all_eq_true.1 h o hm
  rw [e] at this
  cases this
/-- The beginning, inside a round. -/
theorem wpIn_round_held {S : World → Prop} {id l n : Nat} {a : Act} {w : World} (hm : P.follows .mixedOrders = true) (hd : noDefer ops = true) (hno : ¬ LetsOut Q) (hS : S w.drew)
    (h : S w.drew → wpAnyH P .any ops Q S ops.size (Array.replicate ops.size false) a w.drew) : (Code.region id ops true).wpIn (Fence.wide.inRound l) n P Q a w :=
  wpIn_region_any hm (any_round (noDefer_spec hd) hno _ _ _ _ (wpAny_of_held _ _ _ _ (h hS)))
/-- Where all only read. -/
theorem wpIn_round_quiet {id l n : Nat} {a : Act} {w : World} {os : List Oper} (hm : P.follows .mixedOrders = true) (hB : Region.lexB .any os.toArray = true) (hd : noDefer os.toArray = true) (hno : ¬ LetsOut Q)
    (h : wpQuiet P os.toArray (fun w' => ∃ n, w' = w.drewN n) (fun a' => ∀ w', (∃ n, w' = w.drewN n) → Q .normal a' w') os a) : (Code.region id os.toArray true).wpIn (Fence.wide.inRound l) n P Q a w := by
  simp only [Region.lexB, Bool.and_eq_true] at hB
  refine wpIn_region_any hm (any_round (noDefer_spec hd) hno _ _ _ _ (wpAny_of_quiet (C := fun w' => ∃ n, w' = w.drewN n) (Q := fun a' => ∀ w', (∃ n, w' = w.drewN n) → Q .normal a' w') (fun _ w' hw' h => h w' hw') _ _ _ _ ⟨1, rfl⟩ ?_))
  have := wpAnyQ_lex (C := fun w' => ∃ n, w' = w.drewN n) (md := .any) hB.1 os 0 (Array.replicate os.toArray.size false) a (by simp) (by simpa using hB.2) h
  simpa using this
end Go.Proofs.YtjfhilignbeboaaGreatDoor
/- What slices.Values goes through. -/
namespace Go.Proofs.YtjfhilignbeboaaGreatDoor
open Go.RowKit Go.Shelf
attribute [local go_sem ↓] Go.wp_at_zero Go.wp_at_succ
def encB (x : Bg) : Array Value := #[bgV x]
/-- The row that is gone through. -/
structure ItB (W : World) (B : Nat) (so : Option Addr) (cap : Nat) (X : List Bg) : Prop where
  box : W.heap[B]? = some (.cells [Value.slice so X.length cap].toArray 40 (0, 0))
  le : X.length ≤ cap
  row : ∀ i, i < X.length → ∃ g, so = some ⟨g, 0, none⟩ ∧ W.cell? ⟨g, i * 3, none⟩ = some (.int .u32 ((rd X i).i : Int)) ∧ W.cell? ⟨g, i * 3 + 1, none⟩ = some (.int .i64 ((rd X i).s : Int)) ∧ W.cell? ⟨g, i * 3 + 2, none⟩ = some (.int .i64 (rd X i).u)
theorem ItB.grown {W W' : World} {B : Nat} {so : Option Addr} {cap : Nat} {X : List Bg} (h : ItB W B so cap X) (g : W.grownBy W' none) : ItB W' B so cap X :=
  ⟨(g.block _ (row_lt h.box) (by simp)).trans h.box, h.le, fun i hi => by obtain ⟨q, h1, h2, h3, h4⟩ := h.row i hi; exact ⟨q, h1, g.cell h2 (by simp), g.cell h3 (by simp), g.cell h4 (by simp)⟩⟩
theorem take_rd {X : List Bg} {i : Nat} (h : i < X.length) : X.take i ++ [rd X i] = X.take (i + 1) := by
  rw [List.take_add_one, List.getElem?_eq_getElem h]
  unfold rd
  rw [List.getElem?_eq_getElem h]
  rfl
def leftB (n : Nat) (q : Value) : Nat := match q with | .int _ i => n - i.toNat | _ => 0
theorem leftB_nat (n i : Nat) : leftB n (.int .i64 (i : Int)) = n - i := by simp [leftB]
set_option maxRecDepth 100000 in
set_option maxHeartbeats 1000000 in
theorem vt_genV (Kp : World → World → Prop) (Iv : World → Prop) (n : Nat) (hn : 1 ≤ n) (l B : Nat) (so : Option Addr) (cap : Nat) (X : List Bg) (hX : X.length ≤ 65536) (J Jx : List Bg → World → Prop)
    (hY : ∀ pre (x : Bg) W, J pre W → pre ++ [x] <+: X → YieldAt Fence.wide (n - 1) Tryz.prog l (encB x) W fun e W' =>
      (e = .returned (.bool true) ∧ J (pre ++ [x]) W' ∧ Kp W W') ∨ (e = .returned (.bool false) ∧ Jx (pre ++ [x]) W'))
    (hIv : ∀ W, Iv W → ItB W B so cap X) (hkp : ∀ W W', Kp W W' → Iv W → Iv W') (hga : ∀ W W' : World, W.grownBy W' none → Iv W → Iv W') (hJa : ∀ pre (W W' : World), W.grownBy W' none → J pre W → J pre W') (W : World) (hI : Iv W) (h0 : J [] W) :
    CallsIn Fence.wide n Tryz.prog 149 #[.func (.yield l) #[] #[], .pointer (some ⟨B, 0, none⟩)] W fun e W' => (∃ v, e = .returned v) ∧
      ((∃ ys, ys = X ∧ J ys W') ∨ (∃ pre, Jx pre W')) := by
  refine callsIn_of_wp Tryz.func149 rfl trivial ?_ rfl
  simp only [Tryz.ntmps149, List.size_toArray, List.length_cons, List.length_nil, Nat.reduceAdd, Nat.reduceSub, Array.replicate_succ, Array.replicate_zero, List.push_toArray, List.append_toArray, List.nil_append, List.cons_append]
  have hc := cell_row (hIv _ hI).box 0
  simp at hc
  gi_wp2
  gi_loopw [7] (fun q wr => ∃ i : Nat, q = .int .i64 (i : Int) ∧ i ≤ X.length ∧ Hid (J (X.take i) wr ∧ Iv wr)) (fun q _ => leftB X.length q)
  case atStart => exact ⟨0, rfl, Nat.zero_le _, by rw [List.take_zero]; exact ⟨h0, hI⟩⟩
  case round =>
    obtain ⟨i, rfl, hi, HJ⟩ := hrel
    clear hc
    by_cases hlt : i < X.length
    · obtain ⟨g, rfl, c0, c1, c2⟩ := (hIv _ HJ.out.2).row i hlt
      have hle := (hIv _ HJ.out.2).le
      have ga := World.grownBy_alloc wr (.cells #[.int .u32 ((rd X i).i : Int), .int .i64 ((rd X i).s : Int), .int .i64 (rd X i).u] 51) none
      obtain ⟨fn, tmps, assign, body, hy, hR⟩ := hY (X.take i) (rd X i) _ (hJa _ _ _ ga HJ.out.1) (by rw [take_rd hlt]; exact List.take_prefix _ _)
      have nb : (wr.alloc (.cells #[.int .u32 ((rd X i).i : Int), .int .i64 ((rd X i).s : Int), .int .i64 (rd X i).u] 51)).heap[wr.heap.size]? = some (.cells [Value.int .u32 ((rd X i).i : Int), .int .i64 ((rd X i).s : Int), .int .i64 (rd X i).u].toArray 51 (0, 0)) := heap_alloc_new wr _
      have HT := hide (take_rd hlt)
      rw [HT.out] at hR
      have HI2 := hide (hga _ _ ga HJ.out.2)
      clear ga nb hi
      unfold encB bgV at hy
      generalize (rd X i).i = a at *
      generalize (rd X i).s = b at *
      generalize (rd X i).u = d at *
      have hil : ((i : Int) < (X.length : Int)) = True := by simp; omega
      gi_wp2
      refine hR.mono ?_
      rintro e W3 (⟨rfl, hJ3, hk3⟩ | ⟨rfl, hJx3⟩)
      · have H3 := hide (And.intro hJ3 (hkp _ _ hk3 HI2.out))
        clear hJ3 hk3
        have hw1 : IntKind.i64.wrap ((i : Int) + 1) = (i : Int) + 1 := by rw [IntKind.wrap_i64]; omega
        gi_wp2
        go_roundw
        case rel => exact ⟨i + 1, by simp, by omega, H3.out⟩
        case measure =>
          have e1 := leftB_nat X.length (i + 1)
          have e2 := leftB_nat X.length i
          rw [show ((i : Int) + 1) = (((i + 1 : Nat)) : Int) by omega, e1, e2]
          omega
      · gi_wp2
        refine bodyPost_ret (results_none rfl _ _ _) rfl ?_
        exact ⟨⟨_, rfl⟩, .inr ⟨_, hJx3⟩⟩
    · have hil : decide ((i : Int) < (X.length : Int)) = false := by simp; omega
      obtain rfl : i = X.length := by omega
      gi_wp2
      go_end0
      exact ⟨⟨_, rfl⟩, .inl ⟨_, rfl, by have := HJ.out.1; rw [List.take_length] at this; exact this⟩⟩
/-- Its blocks: they stay. -/
def vbk (B : Nat) (so : Option Addr) (n : Nat) (i : Nat) : Prop := i = B ∨ (n ≠ 0 ∧ ∃ a, so = some a ∧ i = a.block)
def KpB (Q : Nat → Prop) (W W' : World) : Prop := W.heap.size ≤ W'.heap.size ∧ ∀ i, Q i → i < W.heap.size → W'.heap[i]? = W.heap[i]?
theorem KpB.trans {Q : Nat → Prop} {a b c : World} (h : KpB Q a b) (k : KpB Q b c) : KpB Q a c := ⟨Nat.le_trans h.1 k.1, fun i hi hl => (k.2 i hi (Nat.lt_of_lt_of_le hl h.1)).trans (h.2 i hi hl)⟩
theorem KpB.of {Q X : Nat → Prop} {W W' : World} (k : Kept W W' X) (hX : ∀ i, Q i → ¬ X i) : KpB Q W W' := ⟨k.size, fun i hi hl => k.block i hl (hX i hi)⟩
theorem KpB.new {Q : Nat → Prop} {W W' : World} (g : W.grownBy W' none) : KpB Q W W' := KpB.of (Kept.new g (fun _ => False)) (fun _ _ e => e)
theorem KpB.put {Q : Nat → Prop} {W : World} {l : Nat} {o : Obj} (h : ¬ Q l) : KpB Q W (W.putObj l o) := KpB.of (Kept.of (grownBy_putObj' W l o) (S := fun i => i = l) (fun j e _ => (Option.some.inj e).symm)) (fun i hi e => h (by rw [← e]; exact hi))
theorem ItB.lt {W : World} {B : Nat} {so : Option Addr} {cap : Nat} {X : List Bg} (h : ItB W B so cap X) : ∀ i, vbk B so X.length i → i < W.heap.size := by
  rintro i (rfl | ⟨hn, a, ha, rfl⟩)
  · exact row_lt h.box
  · obtain ⟨q, h1, h2, _⟩ := h.row 0 (by omega)
    rw [h1] at ha
    cases ha
    unfold World.cell? at h2
    cases hq : W.heap[q]? with
    | none => simp [hq] at h2
    | some o => exact row_lt hq
theorem ItB.keep {W W' : World} {B : Nat} {so : Option Addr} {cap : Nat} {X : List Bg} (h : ItB W B so cap X) (k : KpB (vbk B so X.length) W W') : ItB W' B so cap X :=
  ⟨(k.2 _ (.inl rfl) (h.lt _ (.inl rfl))).trans h.box, h.le, fun i hi => by
    obtain ⟨q, h1, h2, h3, h4⟩ := h.row i hi
    have hq : vbk B so X.length q := .inr ⟨by omega, _, h1, rfl⟩
    have hb : W'.heap[q]? = W.heap[q]? := k.2 _ hq (h.lt _ hq)
    refine ⟨q, h1, ?_, ?_, ?_⟩
    · unfold World.cell? at h2 ⊢; simp only [hb]; exact h2
    · unfold World.cell? at h3 ⊢; simp only [hb]; exact h3
    · unfold World.cell? at h4 ⊢; simp only [hb]; exact h4⟩
theorem ItE_lt {W : World} {B : Nat} {so : Option Addr} {cap : Nat} {X : List (Nat × Int)} (h : Ix.ItE W B so cap X) : ∀ i, vbk B so X.length i → i < W.heap.size := by
  rintro i (rfl | ⟨hn, a, ha, rfl⟩)
  · exact row_lt h.box
  · obtain ⟨q, h1, h2, _⟩ := h.row 0 (by omega)
    rw [h1] at ha
    cases ha
    unfold World.cell? at h2
    cases hq : W.heap[q]? with
    | none => simp [hq] at h2
    | some o => exact row_lt hq
theorem ItE_keep {W W' : World} {B : Nat} {so : Option Addr} {cap : Nat} {X : List (Nat × Int)} (h : Ix.ItE W B so cap X) (k : KpB (vbk B so X.length) W W') : Ix.ItE W' B so cap X :=
  ⟨(k.2 _ (.inl rfl) (ItE_lt h _ (.inl rfl))).trans h.box, h.le, fun i hi => by
    obtain ⟨q, h1, h2, h3⟩ := h.row i hi
    have hq : vbk B so X.length q := .inr ⟨by omega, _, h1, rfl⟩
    have hb : W'.heap[q]? = W.heap[q]? := k.2 _ hq (ItE_lt h _ hq)
    refine ⟨q, h1, ?_, ?_⟩
    · unfold World.cell? at h2 ⊢; simp only [hb]; exact h2
    · unfold World.cell? at h3 ⊢; simp only [hb]; exact h3⟩
theorem vt_seqV (n : Nat) (hn : 1 ≤ n) (B : Nat) (so : Option Addr) (cap : Nat) (X : List Bg) (hX : X.length ≤ 65536) (W : World) (hI : ItB W B so cap X) :
    SeqV Fence.wide n Tryz.prog 149 #[.pointer (some ⟨B, 0, none⟩)] encB (KpB (vbk B so X.length)) (fun pre x _ => pre ++ [x] <+: X) (fun ys => ys = X) W := fun l J Jx hJ _hJx hY h0 =>
  vt_genV (KpB (vbk B so X.length)) (fun W => ItB W B so cap X) n hn l B so cap X hX J Jx hY (fun _ h => h) (fun _ _ k h => h.keep k) (fun _ _ g h => h.grown g) (fun pre A A' g h => hJ pre A A' h g) W hI h0
end Go.Proofs.YtjfhilignbeboaaGreatDoor
/- All bookings, gathered. -/
namespace Go.Proofs.YtjfhilignbeboaaGreatDoor
open Go.RowKit Go.Shelf
attribute [local go_sem ↓] Go.wp_at_zero Go.wp_at_succ
attribute [local go_sem] Oper.semAt_some
/-- append, as one step of a region that draws, by its run. -/
theorem step_append_run {P : Program} {ops : Array Oper} {o : Oper} {a : Act} {w : World} {K : Act → World → Prop} {Q : Exit → Act → World → Prop} {E : Prop} (hg : o.guard = none) (s x : Operand) (t : TypeId) (hop : o.op = Op.call { callee := Callee.builtin Builtin.append, args := #[s, x], argTypes := #[t, t] })
    (v u : Value) (hs : a.eval s = v) (hx : a.eval x = u) {v' : Value} {w' : World} (hrun : ∀ ty, (Builtin.append_ #[t, t] ty #[v, u]).run P w = .ok v' w') (hK : K (a.put o.dst v') w') :
    if Region.wanted o (yielded ops a.tmps) = true then Oper.wp P o a w K Q else E := by
  have hw : Region.wanted o (yielded ops a.tmps) = true := by simp [Region.wanted, hg]
  rw [if_pos hw]
  have hr := hrun o.type
  unfold Oper.wp
  simp [execOp, hop, resolve, invoke, builtin, hs, hx, hr, Result.andThen]
  exact hK
theorem box_app {W w1 : World} {B0 B sz : Nat} {t e : TypeId} {v v' : Value} {k m : Nat} {xs ys : List Value} {tmp : Obj}
    (hv : Boxed W B t v) (hte : t ≠ e) (hrow : W.ownsRow B0 e sz v k xs) (hown' : w1.ownsRow B0 e sz v' m ys) (hgrow : (W.alloc tmp).grownBy w1 v.ownBlock) :
    Boxed w1 B t v ∧ Boxed (w1.setCell ⟨B, 0, none⟩ v') B t v' ∧ (w1.setCell ⟨B, 0, none⟩ v').ownsRow B0 e sz v' m ys ∧ KeepsOthers W (w1.setCell ⟨B, 0, none⟩ v') ∧ Kept W w1 (fun i => v.ownBlock = some i) ∧ Kept W (w1.setCell ⟨B, 0, none⟩ v') (fun i => i = B ∨ v.ownBlock = some i) := by
  have hv1 : Boxed w1 B t v := (hv.alloc tmp).kept hgrow (hv.not_row hte hrow)
  have hk : Kept W w1 (fun i => v.ownBlock = some i) := (Kept.new (World.grownBy_alloc W tmp none) (fun i => v.ownBlock = some i)).trans (Kept.of hgrow (S := fun i => v.ownBlock = some i) (fun j e _ => e)) (fun _ _ e => e)
  refine ⟨hv1, hv1.set v', hown'.kept (grownBy_setCell' w1 B v') (.inr (hv1.not_row hte hown').symm), ?_, hk, ?_⟩
  · refine ((KeepsOthers.alloc W tmp).trans (KeepsOthers.of_grownBy hgrow fun j o ej hj => ?_)).trans (KeepsOthers.setCell _ _ _)
    rcases (hrow.alloc tmp).2 with ⟨rfl, _⟩ | ⟨g, cap, cur, rfl, _, hgb, _⟩
    · simp [Value.ownBlock] at ej
    · obtain rfl : g = j := by simpa [Value.ownBlock] using ej
      rw [hgb] at hj; cases hj; rfl
  · exact (hk.mono (fun _ _ e => .inr e)).trans (kept_setCell w1 B 0 v') (fun i _ e => .inl e)
theorem cell3_new (w : World) (x : Bg) (t : TypeId) : ∀ j u, (bgc x)[j]? = some u → (w.alloc (.cells (bgc x).toArray t)).cell? ((⟨w.heap.size, 0, none⟩ : Addr).add j) = some u := by
  intro j u hu
  rw [Addr.add_lit, Nat.zero_add, cell_row (heap_alloc_new w (.cells (bgc x).toArray t))]
  exact hu
theorem bgc_one (x : Bg) : ∀ u ∈ bgc x, u.oneCell' = true := by simp [bgc, Value.oneCell']
theorem bgs_snoc (xs : List Bg) (x : Bg) : bgs xs ++ bgc x = bgs (xs ++ [x]) := by rw [bgs_append]; simp [bgs]
/-- A booking appended to a row of one's own. -/
theorem app_bg {W : World} {B0 k : Nat} {v : Value} {xs : List Bg} (x : Bg) (hr : W.ownsRow B0 51 3 v k (bgs xs)) (hk : k + 1 ≤ 65536) (hB0 : B0 ≤ W.heap.size) :
    ∃ v' w3, (∀ ty, (Builtin.append_ #[40, 40] ty #[v, .slice (some ⟨W.heap.size, 0, none⟩) 1 1]).run Tryz.prog (W.alloc (.cells (bgc x).toArray 51)).drew = .ok v' w3) ∧ w3.ownsRow B0 51 3 v' (k + 1) (bgs (xs ++ [x])) ∧ (W.alloc (.cells (bgc x).toArray 51)).grownBy w3 v.ownBlock ∧ (v'.ownBlock = v.ownBlock ∨ v'.ownBlock = some (W.heap.size + 1)) := by
  obtain ⟨i0, hi0, hz0, hz1, hz2⟩ := info_parts Tryz.info51
  have hro : (W.alloc (.cells (bgc x).toArray 51)).drew.ownsRow B0 51 3 v k (bgs xs) := hr.alloc _
  have H := fun ty => run_append_own_at (P := Tryz.prog) (W.alloc (.cells (bgc x).toArray 51)).drew B0 40 ty 51 i0 (.agg #[.int .u32 0, .int .i64 0, .int .i64 0]) 3 24 Tryz.underlying40 hi0 hz0 hz1 hz2 rfl (by decide) v k (bgs xs) hro ⟨W.heap.size, 0, none⟩ 1 1 (bgc x) rfl (cell3_new W x 51) (bgc_one x) (by unfold maxLen; omega) (by omega) (by show B0 ≤ (W.alloc _).heap.size; simp; omega)
  obtain ⟨v', w3, e1, e2, e3, e4, e5⟩ := H 0
  refine ⟨v', w3, fun ty => e1, by rw [← bgs_snoc]; exact e2, ?_⟩
  refine ⟨⟨e3.os, e3.tape, e3.output, e3.size, e3.block⟩, ?_⟩
  rw [show (W.alloc (.cells (bgc x).toArray 51)).drew.heap.size = W.heap.size + 1 from World.size_alloc ..] at e5
  exact e5
theorem own_keep {W W' : World} {b : Nat} {e : TypeId} {size n : Nat} {v : Value} {xs : List Value} (h : W.ownsRow b e size v n xs) (g : W.grownBy W' none) : W'.ownsRow b e size v n xs :=
  Ix.row_keep h (fun q hq => by obtain ⟨_, cur, hc⟩ := Ix.own_block h hq; exact g.block q (row_lt hc) (by simp))
theorem own_own_from {base size : Nat} {e : TypeId} {v : Value} {n : Nat} {xs : List Value} (B : Nat) : OwnFrom B (fun (_ : Unit) W => W.ownsRow base e size v n xs) := fun _ W W' row h hg hr => by
  refine h.kept hg ?_
  rcases h.2 with ⟨e, _⟩ | ⟨g, cap, cur, e, _, hgg, _⟩
  · exact Or.inl (by rw [e]; rfl)
  · refine Or.inr (fun e' => ?_)
    rw [e] at e'
    obtain ⟨_, o, ho, hc⟩ := hr g e'.symm
    rw [hgg] at ho
    cases ho
    cases hc
theorem box_own_from {t : TypeId} {v : Value} {b : Nat} (B : Nat) : OwnFrom B (fun (_ : Unit) W => Boxed W b t v) := fun _ W W' row h hg hr => h.kept hg (fun e => by
  obtain ⟨_, o, ho, hc⟩ := hr b e.symm
  rw [show W.heap[b]? = _ from h] at ho
  cases ho
  cases hc)
/-- Inside bookings, between two of them. -/
structure BiI (w W : World) (Bb Bl B0 b1 b2 : Nat) (p : Bp) (M : List (Nat × Int)) (R : List Bg) (pre : List (Nat × Int)) : Prop where
  row : ∃ v, Boxed W Bl 40 v ∧ W.ownsRow B0 51 3 v pre.length (bgs (pre.map fun y => rd R y.2.toNat)) ∧ ∀ k, v.ownBlock = some k → k < b1 ∨ b2 ≤ k
  bx : Boxed W Bb 34 (.pointer (some ⟨p.b, 0, none⟩))
  fd : Fd W p.b p.sg p.ip M R
  gr : w.grownBy W none
  sz : b2 ≤ W.heap.size
theorem Fd.lts {w : World} {b sg : Nat} {ip : Ix.Ip} {M : List (Nat × Int)} {R : List Bg} (h : Fd w b sg ip M R) : b < w.heap.size ∧ sg < w.heap.size ∧ ∀ i, ip.own i → i < w.heap.size := ⟨h.blt, row_lt h.row, by obtain ⟨lo, h3⟩ := h.ix; exact h3.lt⟩
theorem BiI.own_from {w : World} {Bb Bl B0 b1 b2 B : Nat} {p : Bp} {M : List (Nat × Int)} {R : List Bg} (hB : w.heap.size ≤ B) (hb : p.b < B ∧ p.sg < B ∧ ∀ i, p.ip.own i → i < B) : OwnFrom B (fun pre W => BiI w W Bb Bl B0 b1 b2 p M R pre) := fun pre W W' row h hg hr => by
  obtain ⟨v, h1, h2, h3⟩ := h.row
  refine ⟨⟨v, box_own_from B () W W' row h1 hg hr, own_own_from B () W W' row h2 hg hr, h3⟩, box_own_from B () W W' row h.bx hg hr, ?_, grown_then h.gr hg (fun j e => Or.inl (Nat.le_trans hB (hr j e).1)), Nat.le_trans h.sz hg.size⟩
  exact h.fd.far (Kept.of hg (S := fun i => B ≤ i) (fun j e _ => (hr j e).1)) (by omega) (by omega) (fun i hi => by have := hb.2.2 i hi; omega)
theorem make_cap (n : Nat) (h : n ≤ 4096) (w : World) : (Instr.makeSlice 40 (.int .i64 0) (.int .i64 (n : Int))).run Tryz.prog w = .ok (.slice (some ⟨w.heap.size, 0, none⟩) 0 n) (w.alloc (.cells (bgs (List.replicate n ⟨0, 0, 0⟩)).toArray 51)) := by
  obtain ⟨i0, hi, hz0, hz1, hz2⟩ := info_parts Tryz.info51
  rw [run_make (P := Tryz.prog) (w := w) 40 51 i0 (.agg #[.int .u32 0, .int .i64 0, .int .i64 0]) Tryz.underlying40 hi hz0 .i64 .i64 0 (n : Int) (by omega) (by omega) (by rw [hz2]; omega) (by omega), hz1]
  simp [bgs_zero, Value.cells]
set_option maxRecDepth 100000 in
set_option maxHeartbeats 4000000 in
theorem bookings_any {w : World} {p : Bp} {S : Sb} {K : Nat} (h : BkAt w p S K) (hw : S.Wk) : Calls Tryz.prog 54 #[.pointer (some ⟨p.b, 0, none⟩)] w fun e w' => ∃ v, e = .returned v ∧ w'.ownsRow w.heap.size 51 3 v S.L.length (bgs S.L) ∧ w.grownBy w' none := by
  have HN := hide (h.then (grown_alloc w (.cells #[.pointer (some ⟨p.b, 0, none⟩)] 34))).isNone
  have HL := hide (h.then (grown_alloc w (.cells #[.pointer (some ⟨p.b, 0, none⟩)] 34))).len
  obtain ⟨Lb, R, M, E, T, N, B, C, h, hR, hN⟩ := h
  have hMl : M.length = S.L.length := by rw [hR.m, mx_length]
  have hM0 : M.length ≤ 65536 := by have := hw.few; have := hw.b1; omega
  have hMr : (M.map fun y => rd R y.2.toNat) = S.L := by
    rw [hR.m]
    unfold mx
    rw [List.map_map]
    conv => rhs; rw [← List.map_id S.L]
    apply List.map_congr_left
    intro y hy
    simp [rd, hR.rw y hy]
  have hmk := make_cap S.L.length (by have := hw.few; have := hw.b1; omega)
  have hb8 := (h.then (grown_alloc w (.cells #[.pointer (some ⟨p.b, 0, none⟩)] 34))).cells 8 _ rfl
  have hlen : S.L.length ≤ 4096 := by have := hw.few; have := hw.b1; omega
  obtain ⟨w1, hw1⟩ : ∃ w1, w1 = ((w.alloc (.cells #[.pointer (some ⟨p.b, 0, none⟩)] 34)).alloc (.cells (bgs (List.replicate S.L.length ⟨0, 0, 0⟩)).toArray 51)).alloc (.cells #[.slice (some ⟨w.heap.size + 1, 0, none⟩) 0 S.L.length] 40) := ⟨_, rfl⟩
  have g1 : w.grownBy w1 none := by rw [hw1]; exact gn_alloc (gn_alloc (gn_alloc (grown_refl _ _) _) _) _
  have b1 : Boxed w1 w.heap.size 34 (.pointer (some ⟨p.b, 0, none⟩)) := by rw [hw1]; exact ((Boxed.new w 34 _).alloc _).alloc _
  have b2 : Boxed w1 (w.heap.size + 1 + 1) 40 (.slice (some ⟨w.heap.size + 1, 0, none⟩) 0 S.L.length) := by
    have := Boxed.new ((w.alloc (.cells #[.pointer (some ⟨p.b, 0, none⟩)] 34)).alloc (.cells (bgs (List.replicate S.L.length ⟨0, 0, 0⟩)).toArray 51)) 40 (.slice (some ⟨w.heap.size + 1, 0, none⟩) 0 S.L.length)
    simp only [World.size_alloc] at this
    rw [hw1]; exact this
  have r1 : w1.ownsRow w.heap.size 51 3 (.slice (some ⟨w.heap.size + 1, 0, none⟩) 0 S.L.length) 0 [] := by
    refine ⟨by simp, Or.inr ⟨w.heap.size + 1, S.L.length, (bgs (List.replicate S.L.length ⟨0, 0, 0⟩)).toArray, rfl, by omega, ?_, Nat.zero_le _, by unfold maxLen; omega, by simp [bgs_length], by simp⟩⟩
    rw [hw1]
    have h0 := heap_alloc_new (w.alloc (.cells #[.pointer (some ⟨p.b, 0, none⟩)] 34)) (.cells (bgs (List.replicate S.L.length ⟨0, 0, 0⟩)).toArray 51)
    rw [World.size_alloc] at h0
    exact ((grown_alloc _ _).block _ (row_lt h0) (by simp)).trans h0
  have s1 : w1.heap.size = w.heap.size + 3 := by rw [hw1]; simp
  have c18 : w1.cell? ⟨p.b, 8, none⟩ = some (.pointer (some ⟨p.ip.x, 0, none⟩)) := (h.then g1).cells 8 _ rfl
  have HA : Hid (Calls Tryz.prog 108 #[.pointer (some ⟨p.ip.x, 0, none⟩)] w1 fun e w' => ∃ v, e = .returned v ∧ Ix.AllV w' w1.heap.size v M ∧ w1.grownBy w' none) := by
    obtain ⟨lo, h3⟩ := (h.then g1).ix
    exact Ix.all_io h3
  have v10 := b1.cell
  have HF1 := hide (h.then g1).fd
  have H1 := hide (And.intro g1 (And.intro b1 (And.intro b2 (And.intro r1 s1))))
  have HM := hide (And.intro hM0 (And.intro hMr (And.intro hMl h.mi)))
  have HW1 := hide hw1
  have hrb : R.length ≤ 1024 := h.fd.rb
  have HP00 := hide h.fd.lts
  clear h hR hN hw g1 b1 b2 r1 s1 hM0 hMr hMl hw1
  generalize hn : S.L.length = n at *
  have HNL := hide hn
  clear hn
  refine (callsIn_wide (n := 6)).1 (callsIn_of_wp_marks Tryz.func54 rfl trivial ?_ rfl)
  simp only [Tryz.ntmps54, List.size_toArray, List.length_cons, List.length_nil, Nat.reduceAdd, Nat.reduceSub, Array.replicate_succ, Array.replicate_zero, List.push_toArray, List.append_toArray, List.nil_append, List.cons_append]
  refine wpIn_wide.2 ?_
  go_wp2_with fail
  refine HN.out.mono ?_
  rintro e wa ⟨rfl, rfl⟩
  go_wp2_with fail
  refine HL.out.mono ?_
  rintro e wa ⟨rfl, rfl⟩
  go_wp2_with (rw [← HW1.out])
  refine HA.out.mono ?_
  rintro e w2 ⟨v, rfl, ⟨B, so, cap, rfl, hI, hB0, hso⟩, g2⟩
  have hz2 := g2.size
  have s1 := H1.out.2.2.2.2
  have I0 : Hid (BiI w w2 w.heap.size (w.heap.size + 1 + 1) w.heap.size w1.heap.size w2.heap.size p M R []) := ⟨⟨_, H1.out.2.2.1.kept g2 (by simp), own_keep H1.out.2.2.2.1 g2, fun k hk => .inl (by have e : some (w.heap.size + 1) = some k := hk; have := Option.some.inj e; omega)⟩, H1.out.2.1.kept g2 (by simp), HF1.out.then g2, grown_trans H1.out.1 g2, Nat.le_refl _⟩
  have HI := hide (And.intro hI (And.intro hB0 hso))
  have HQ : Hid (∀ i, vbk B so M.length i → w1.heap.size ≤ i ∧ i < w2.heap.size) := by
    intro i hi
    refine ⟨?_, ItE_lt hI i hi⟩
    rcases hi with rfl | ⟨-, a, ha, rfl⟩
    · exact hB0
    · exact hso a ha
  have HB : Hid (p.b < w2.heap.size ∧ p.sg < w2.heap.size ∧ ∀ i, p.ip.own i → i < w2.heap.size) := (HF1.out.then g2).lts
  have HP0 : Hid (p.b < w.heap.size ∧ p.sg < w.heap.size ∧ ∀ i, p.ip.own i → i < w.heap.size) := HP00.out
  clear hI hB0 hso HA HN HL HW1 hmk hb8 c18 HP00
  go_wp2
  refine (wpIn_wide (n := 6)).1 (wpIn_range_V (w := w2) rfl (by decide) (gf := 154) (lb := #[.pointer (some ⟨B, 0, none⟩)]) rfl trivial (enters_of Tryz.func154 (by kernel_rfl) rfl)
    (encs := Ix.encE) (Kp := KpB (vbk B so M.length)) (V := fun pre x _ => pre ++ [x] <+: M) (S := fun ys => ys = M)
    (fun W hW => Ix.ix_seqV _ 5 (by decide) B so cap M HM.out.1 (fun _ _ k h => ItE_keep h k) W (HI.out.1.grown hW))
    (fun h k => h.trans k) (fun W l o hl => KpB.put (fun hq => by have := (HQ.out l hq).2; omega)) (fun W W' _ hg => KpB.new hg) (fun _ => rfl)
    (fun pre => fun _ _ _ _ h _ _ => h)
    (fun pre W => BiI w W w.heap.size (w.heap.size + 1 + 1) w.heap.size w1.heap.size w2.heap.size p M R pre) (fun _ _ _ => False)
    (BiI.own_from (by omega) HB.out) (fun _ _ _ _ _ h _ _ => h) I0.out
    (fun x a' _ => a' = { tmps := #[Value.pointer (some ⟨p.b, 0, none⟩), Value.pointer (some ⟨w.heap.size, 0, none⟩), Value.slice none 0 0, Value.pointer (some ⟨w.heap.size + 1 + 1, 0, none⟩), undef, Value.int IntKind.i64 x.2, Value.pointer (some ⟨p.b, 0, none⟩), Value.bool false, Value.pointer (some ⟨p.b, 0, none⟩), Value.pointer (some ⟨p.b, 0, none⟩), Value.pointer (some ⟨p.b, 8, none⟩), Value.pointer (some ⟨p.ip.x, 0, none⟩), Value.int IntKind.i64 (n : Int), Value.slice (some ⟨w.heap.size + 1, 0, none⟩) 0 n, Value.pointer (some ⟨p.b, 0, none⟩), Value.pointer (some ⟨p.b, 0, none⟩), Value.pointer (some ⟨p.b, 8, none⟩), Value.pointer (some ⟨p.ip.x, 0, none⟩), Value.func (Fn.func 154) #[] #[Value.pointer (some ⟨B, 0, none⟩)], Value.int IntKind.u32 (x.1 : Int), Value.int IntKind.i64 x.2, undef, undef, undef, undef, undef, undef, undef, undef, undef, undef, undef], defers := [] }) (fun x => fun _ _ _ _ h _ _ => h) ?assign ?body ?done (fun _ _ _ _ _ h _ => h.elim))
  case assign =>
    intro l pre x W K hI hV hK
    simp only [Ix.encE]
    gi_wp2
    exact hK _ _ (grown_refl _ _) rfl
  case body =>
    rintro l pre ⟨x1, x2⟩ a' W hI hV rfl
    have hmem : (x1, x2) ∈ M := hV.subset (by simp)
    have hpl : pre.length + 1 ≤ M.length := by have := hV.length_le; simpa using this
    obtain ⟨s0, s9⟩ := HM.out.2.2.2 _ hmem
    simp only at s0 s9
    obtain ⟨s, rfl⟩ : ∃ s : Nat, x2 = (s : Int) := ⟨x2.toNat, by omega⟩
    simp only [Int.toNat_natCast] at s9
    obtain ⟨v, hb2, hr2, hq2⟩ := hI.row
    have hM0 := HM.out.1
    obtain ⟨v', w3, hrun, hown, hgr, hob⟩ := app_bg (rd R s) hr2 (by omega) (Nat.le_trans hI.gr.size (Nat.le_refl _))
    obtain ⟨q1, q2, q3, q4, q5, q6⟩ := box_app hb2 (by decide) hr2 hown hgr
    have hrow1 : ∀ k, v.ownBlock = some k → w.heap.size ≤ k ∧ ∃ cur : Array Value, W.heap[k]? = some (.cells cur 51 (0, 0)) := fun k hk => by
      obtain ⟨h1, cur, h2⟩ := Ix.own_block hr2 hk; exact ⟨h1, cur, h2⟩
    have hBb : ¬ w.heap.size = w.heap.size + 1 + 1 := by omega
    have hbl : p.b < w.heap.size + 0 ∨ True := .inr trivial
    have hlt := HB.out
    have hne1 : ∀ i, i < w.heap.size → ¬ (i = w.heap.size + 1 + 1 ∨ v.ownBlock = some i) := by
      rintro i hi (e | e)
      · omega
      · have := (hrow1 i e).1; omega
    have hfl := HP0.out
    have fd3 : Fd w3 p.b p.sg p.ip M R := hI.fd.far q5 (fun e => hne1 _ hfl.1 (.inr e)) (fun e => hne1 _ hfl.2.1 (.inr e)) (fun i hi e => hne1 _ (hfl.2.2 i hi) (.inr e))
    have fd4 : Fd (w3.setCell ⟨w.heap.size + 1 + 1, 0, none⟩ v') p.b p.sg p.ip M R := hI.fd.far q6 (hne1 _ hfl.1) (hne1 _ hfl.2.1) (fun i hi => hne1 _ (hfl.2.2 i hi))
    have hbx : ∀ k, v.ownBlock = some k → k ≠ w.heap.size := fun k hk e => by
      obtain ⟨-, cur, hc⟩ := hrow1 k hk
      have h2 : W.heap[w.heap.size]? = _ := hI.bx
      rw [e, h2] at hc
      cases hc
    have bx3 : Boxed w3 w.heap.size 34 (.pointer (some ⟨p.b, 0, none⟩)) := q5.at hI.bx (fun e => hbx _ e rfl)
    have bx4 : Boxed (w3.setCell ⟨w.heap.size + 1 + 1, 0, none⟩ v') w.heap.size 34 (.pointer (some ⟨p.b, 0, none⟩)) := q6.at hI.bx (by
      rintro (e | e)
      · omega
      · exact hbx _ e rfl)
    have hkp : KpB (vbk B so M.length) W (w3.setCell ⟨w.heap.size + 1 + 1, 0, none⟩ v') := KpB.of q6 (by
      intro i hi
      have h2 := (HQ.out i hi).1
      rintro (e | e)
      · omega
      · have h3 := (HQ.out i hi).2
        have := hq2 i e
        omega)
    have HZZ : Hid (∀ a', ownPostG w2.heap.size (KpB (vbk B so M.length)) (fun pre W => BiI w W w.heap.size (w.heap.size + 1 + 1) w.heap.size w1.heap.size w2.heap.size p M R pre) (fun _ _ _ => False) (pre ++ [(x1, (s : Int))]) W .normal a' (w3.setCell ⟨w.heap.size + 1 + 1, 0, none⟩ v')) := by
      intro a'
      refine ⟨q4.from _, hkp, ⟨⟨v', q2, ?_⟩, bx4, fd4, ?_, Nat.le_trans hI.sz q6.size⟩⟩
      · rw [List.length_append, List.map_append]
        refine ⟨q3, fun k hk => ?_⟩
        rcases hob with e | e
        · exact hq2 k (by rw [← e]; exact hk)
        · rw [e] at hk
          have := Option.some.inj hk
          have := hI.sz
          exact .inr (by omega)
      · refine Kept.grown (((Kept.new hI.gr (fun i => w.heap.size ≤ i)).trans q6 ?_)) (fun i hi e => by omega)
        rintro i hi (e | e)
        · omega
        · exact (hrow1 _ e).1
    obtain ⟨vo, vcap, rfl, -⟩ := Ix.own_form hr2
    obtain ⟨vo', vcap', rfl, -⟩ := Ix.own_form hown
    have hS : ∀ W', Fd W' p.b p.sg p.ip M R → Boxed W' w.heap.size 34 (.pointer (some ⟨p.b, 0, none⟩)) → W'.cell? ⟨w.heap.size, 0, none⟩ = some (.pointer (some ⟨p.b, 0, none⟩)) ∧ W'.cell? ⟨p.b, 7, none⟩ = some (.slice (some ⟨p.sg, 0, none⟩) R.length R.length) ∧ W'.cell? ⟨p.sg, s * 3, none⟩ = some (.int .u32 ((rd R s).i : Int)) ∧ W'.cell? ⟨p.sg, s * 3 + 1, none⟩ = some (.int .i64 ((rd R s).s : Int)) ∧ W'.cell? ⟨p.sg, s * 3 + 2, none⟩ = some (.int .i64 (rd R s).u) := fun W' h1 h2 => ⟨h2.cell, h1.cells.1, h1.seat s9⟩
    have gA : W.grownBy (W.alloc (.cells (bgc (rd R s)).toArray 51)).drew none := gn_drew (grown_alloc W _)
    have HK0 := hide (hS W.drew (hI.fd.then (grown_drew W none)) (hI.bx.kept (grown_drew W none) (by simp)))
    have HK1 := hide (hS _ (hI.fd.then gA) (hI.bx.kept gA (by simp)))
    have HK2 := hide (hS w3 fd3 bx3)
    have HK3 := hide (hS _ fd4 bx4)
    have HRun := hide hrun
    have l0 : W.cell? ⟨w.heap.size + 1 + 1, 0, none⟩ = some (.slice vo pre.length vcap) := hb2.cell
    have l1 : (W.alloc (.cells (bgc (rd R s)).toArray 51)).cell? ⟨w.heap.size + 1 + 1, 0, none⟩ = some (.slice vo pre.length vcap) := (grown_alloc W _).cell hb2.cell (by simp)
    have l2 : w3.cell? ⟨w.heap.size + 1 + 1, 0, none⟩ = some (.slice vo pre.length vcap) := q1.cell
    have l3 := q1.frozen
    clear hS gA hrun hgr hown hob q1 q2 q3 q4 q5 q6 fd3 fd4 bx3 bx4 hbx hne1 hrow1 hkp hI hb2 hr2 hq2 hfl hlt hbl hmem hV
    generalize rd R s = x at *
    obtain ⟨xi, xs, xu⟩ := x
    simp only [bgc] at *
    gi_wp2
    refine wpIn_round_held (S := (fun W => W.cell? ⟨w.heap.size, 0, none⟩ = some (.pointer (some ⟨p.b, 0, none⟩)) ∧ W.cell? ⟨p.b, 7, none⟩ = some (.slice (some ⟨p.sg, 0, none⟩) R.length R.length) ∧ W.cell? ⟨p.sg, s * 3, none⟩ = some (.int .u32 (xi : Int)) ∧ W.cell? ⟨p.sg, s * 3 + 1, none⟩ = some (.int .i64 (xs : Int)) ∧ W.cell? ⟨p.sg, s * 3 + 2, none⟩ = some (.int .i64 xu))) (by kernel_rfl) (by kernel_rfl) (by rintro ⟨_, _, h⟩; exact h) ?_ (fun hHeld => ?_)
    · (exact HK0.out)
    refine wpAnyH_take (i := 1) (v := ?_) rfl (by kernel_rfl) (by kernel_rfl) (by kernel_rfl) (fun _ _ _ h => h) (Or.inl ⟨by rfl, ?_⟩) (by assumption) ?_
    rotate_left
    · (intro w hSw; (try dsimp only at hSw); (go_simp <;> with_reducible rfl))
    try simp only [Act.put, List.setIfInBounds_toArray]
    refine wpAnyH_take (i := 2) (v := ?_) rfl (by kernel_rfl) (by kernel_rfl) (by kernel_rfl) (fun _ _ _ h => h) (Or.inl ⟨by rfl, ?_⟩) (by assumption) ?_
    rotate_left
    · (intro w hSw; (try dsimp only at hSw); (go_simp <;> with_reducible rfl))
    try simp only [Act.put]
    refine wpAnyH_take (i := 3) (v := ?_) rfl (by kernel_rfl) (by kernel_rfl) (by kernel_rfl) (fun _ _ _ h => h) (Or.inl ⟨by rfl, ?_⟩) (by assumption) ?_
    rotate_left
    · (intro w hSw; (try dsimp only at hSw); (go_simp <;> with_reducible rfl))
    try simp only [Act.put]
    refine wpAnyH_take (i := 4) (v := ?_) rfl (by kernel_rfl) (by kernel_rfl) (by kernel_rfl) (fun _ _ _ h => h) (Or.inl ⟨by rfl, ?_⟩) (by assumption) ?_
    rotate_left
    · (intro w hSw; (try dsimp only at hSw); (go_simp <;> with_reducible rfl))
    try simp only [Act.put]
    refine wpAnyH_take (i := 5) (v := ?_) rfl (by kernel_rfl) (by kernel_rfl) (by kernel_rfl) (fun _ _ _ h => h) (Or.inl ⟨by rfl, ?_⟩) (by assumption) ?_
    rotate_left
    · (intro w hSw; (try dsimp only at hSw); (go_simp <;> with_reducible rfl))
    try simp only [Act.put]
    refine wpAnyH_take (i := 6) (v := ?_) rfl (by kernel_rfl) (by kernel_rfl) (by kernel_rfl) (fun _ _ _ h => h) (Or.inl ⟨by rfl, ?_⟩) (by assumption) ?_
    rotate_left
    · (intro w hSw; (try dsimp only at hSw); (go_simp <;> with_reducible rfl))
    try simp only [Act.put]
    refine wpAnyH_take (i := 7) (v := ?_) rfl (by kernel_rfl) (by kernel_rfl) (by kernel_rfl) (fun _ _ _ h => h) (Or.inl ⟨by rfl, ?_⟩) (by assumption) ?_
    rotate_left
    · (intro w hSw; (try dsimp only at hSw); (go_simp <;> with_reducible rfl))
    try simp only [Act.put]
    refine wpAnyH_ready (rs := [0, 8]) (by kernel_rfl) (by simp) ?_
    refine AllReadyH.cons rfl (fun K hK => ?_) ?_
    · skip
      go_simp
      refine hK.out _ _ ?_ (fun hHeld => ?_)
      · ((try dsimp only); first | exact HK0.out | exact HK1.out | exact HK2.out | exact HK3.out)
      clear hK K
      try simp only [Act.put, List.setIfInBounds_toArray, List.set_cons_zero, List.set_cons_succ]
      refine wpAnyH_ready (rs := [8]) (by kernel_rfl) (by simp) ?_
      refine AllReadyH.cons rfl (fun K hK => ?_) ?_
      rotate_left
      · exact AllReadyH.nil
      go_simp
      refine hK.out _ _ ?_ (fun hHeld => ?_)
      · ((try dsimp only); first | exact HK0.out | exact HK1.out | exact HK2.out | exact HK3.out)
      clear hK K
      try simp only [Act.put, List.setIfInBounds_toArray, List.set_cons_zero, List.set_cons_succ]
      refine wpAnyH_ready (rs := [9]) (by kernel_rfl) (by simp) ?_
      refine AllReadyH.cons rfl (fun K hK => ?_) ?_
      rotate_left
      · exact AllReadyH.nil
      refine step_append_run (by rfl) _ _ _ (by rfl) _ _ (by rfl) (by rfl) HRun.out ?_
      refine hK.out _ _ ?_ (fun hHeld => ?_)
      · ((try dsimp only); first | exact HK0.out | exact HK1.out | exact HK2.out | exact HK3.out)
      clear hK K
      try simp only [Act.put, List.setIfInBounds_toArray]
      refine wpAnyH_ready (rs := [10]) (by kernel_rfl) (by simp) ?_
      refine AllReadyH.cons rfl (fun K hK => ?_) ?_
      rotate_left
      · exact AllReadyH.nil
      go_simp
      refine hK.out _ _ ?_ (fun hHeld => ?_)
      · ((try dsimp only); first | exact HK0.out | exact HK1.out | exact HK2.out | exact HK3.out)
      clear hK K
      try simp only [Act.put, List.setIfInBounds_toArray, List.set_cons_zero, List.set_cons_succ]
      refine wpAnyH_done (by kernel_rfl) ?_ _
      gi_wp2
      exact HZZ.out _
    refine AllReadyH.cons rfl (fun K hK => ?_) ?_
    · skip
      go_simp
      refine hK.out _ _ ?_ (fun hHeld => ?_)
      · ((try dsimp only); first | exact HK0.out | exact HK1.out | exact HK2.out | exact HK3.out)
      clear hK K
      try simp only [Act.put, List.setIfInBounds_toArray, List.set_cons_zero, List.set_cons_succ]
      refine wpAnyH_ready (rs := [0]) (by kernel_rfl) (by simp) ?_
      refine AllReadyH.cons rfl (fun K hK => ?_) ?_
      rotate_left
      · exact AllReadyH.nil
      go_simp
      refine hK.out _ _ ?_ (fun hHeld => ?_)
      · ((try dsimp only); first | exact HK0.out | exact HK1.out | exact HK2.out | exact HK3.out)
      clear hK K
      try simp only [Act.put, List.setIfInBounds_toArray, List.set_cons_zero, List.set_cons_succ]
      refine wpAnyH_ready (rs := [9]) (by kernel_rfl) (by simp) ?_
      refine AllReadyH.cons rfl (fun K hK => ?_) ?_
      rotate_left
      · exact AllReadyH.nil
      refine step_append_run (by rfl) _ _ _ (by rfl) _ _ (by rfl) (by rfl) HRun.out ?_
      refine hK.out _ _ ?_ (fun hHeld => ?_)
      · ((try dsimp only); first | exact HK0.out | exact HK1.out | exact HK2.out | exact HK3.out)
      clear hK K
      try simp only [Act.put, List.setIfInBounds_toArray]
      refine wpAnyH_ready (rs := [10]) (by kernel_rfl) (by simp) ?_
      refine AllReadyH.cons rfl (fun K hK => ?_) ?_
      rotate_left
      · exact AllReadyH.nil
      go_simp
      refine hK.out _ _ ?_ (fun hHeld => ?_)
      · ((try dsimp only); first | exact HK0.out | exact HK1.out | exact HK2.out | exact HK3.out)
      clear hK K
      try simp only [Act.put, List.setIfInBounds_toArray, List.set_cons_zero, List.set_cons_succ]
      refine wpAnyH_done (by kernel_rfl) ?_ _
      gi_wp2
      exact HZZ.out _
    exact AllReadyH.nil
  case done =>
    rintro D ys W hD rfl hI hK
    obtain ⟨v, hb2, hr2, -⟩ := hI.row
    obtain ⟨vo, vcap, rfl, -⟩ := Ix.own_form hr2
    have l0 : W.cell? ⟨w.heap.size + 1 + 1, 0, none⟩ = some (.slice vo ys.length vcap) := hb2.cell
    have HX := hide (And.intro hI (And.intro hr2 hK))
    clear hI hb2 hr2 hK
    go_wp2
    obtain ⟨hI, hr2, hK⟩ := HX.out
    refine ⟨by simp, .inl ⟨_, _, rfl, run_takeDeferred hK, ?_⟩⟩
    have hf2 := ownsRow_putObj hr2 (.deferred none) hK rfl
    rw [HM.out.2.1] at hf2
    refine ⟨_, results_tmp rfl _ _ _, _, rfl, ?_, ?_⟩
    · have e := HM.out.2.2.1
      rw [← e]
      exact hf2
    · exact grown_then hI.gr (grownBy_putObj' _ D _) (fun j e => by cases e; exact Or.inl (by omega))
/-- What goes through X, its blocks from B0 on. -/
def VlV (w : World) (B0 : Nat) (v : Value) (X : List Bg) : Prop := ∃ B so cap, v = .func (.func 149) #[] #[.pointer (some ⟨B, 0, none⟩)] ∧ ItB w B so cap X ∧ ∀ i, vbk B so X.length i → B0 ≤ i
theorem VlV.then {w w' : World} {B0 : Nat} {v : Value} {X : List Bg} (h : VlV w B0 v X) (g : w.grownBy w' none) : VlV w' B0 v X := by
  obtain ⟨B, so, cap, h1, h2, h3⟩ := h
  exact ⟨B, so, cap, h1, h2.grown g, h3⟩
theorem VlV.far {w w' : World} {B0 : Nat} {v : Value} {X : List Bg} {Z : Nat → Prop} (h : VlV w B0 v X) (k : Kept w w' Z) (hZ : ∀ i, B0 ≤ i → i < w.heap.size → ¬ Z i) : VlV w' B0 v X := by
  obtain ⟨B, so, cap, h1, h2, h3⟩ := h
  have hl := h2.lt
  have hk : KpB (vbk B so X.length) w w' := ⟨k.size, fun i hi hlt => k.block i hlt (hZ i (h3 i hi) hlt)⟩
  exact ⟨B, so, cap, h1, h2.keep hk, h3⟩
theorem values_any {w : World} {B0 : Nat} {v : Value} {X : List Bg} (h : w.ownsRow B0 51 3 v X.length (bgs X)) (hB : B0 ≤ w.heap.size) : Calls Tryz.prog 107 #[v] w fun e w' => ∃ u, e = .returned u ∧ VlV w' B0 u X ∧ w.grownBy w' none := by
  have hmf : ∀ (fn : Fn) (first cap : Array Value) (w : World), (Instr.makeFunc fn first cap).run Tryz.prog w = .ok (.func fn first cap) w := fun _ _ _ _ => rfl
  obtain ⟨vo, vcap, rfl, hle⟩ := Ix.own_form h
  have HX : Hid (∀ W, W = w.alloc (.cells #[.slice vo X.length vcap] 40) → VlV W B0 (.func (.func 149) #[] #[.pointer (some ⟨w.heap.size, 0, none⟩)]) X ∧ w.grownBy W none) := by
    intro W hW
    have g : w.grownBy W none := by rw [hW]; exact grown_alloc _ _
    refine ⟨⟨w.heap.size, vo, vcap, rfl, ⟨by rw [hW]; exact heap_alloc_new w _, hle, fun i hi => ?_⟩, ?_⟩, g⟩
    · obtain ⟨q, c, cur, e1, e2, e3, e4, e5, e6, e7⟩ := Ix.own_row h (by omega)
      cases e1
      obtain ⟨b1, b2, b3⟩ := bgs_get hi
      exact ⟨q, rfl, g.cell (Ix.own_cell e3 e7 b1) (by simp), g.cell (Ix.own_cell e3 e7 b2) (by simp), g.cell (Ix.own_cell e3 e7 b3) (by simp)⟩
    · rintro i (rfl | ⟨hn, a, ha, rfl⟩)
      · exact hB
      · obtain ⟨q, c, cur, e1, e2, -⟩ := Ix.own_row h (by omega)
        cases e1
        cases ha
        exact e2
  clear h
  go_enter Tryz.func107, Tryz.ntmps107
  go_wp2
  go_ret
  exact ⟨_, rfl, HX.out _ rfl⟩
theorem all_any {w : World} {p : Bp} {S : Sb} {K : Nat} (h : BkAt w p S K) (hw : S.Wk) : Calls Tryz.prog 46 #[.pointer (some ⟨p.b, 0, none⟩)] w fun e w' => ∃ u, e = .returned u ∧ VlV w' w.heap.size u S.L ∧ w.grownBy w' none := by
  have HB := hide (bookings_any h hw)
  clear h
  go_enter Tryz.func46, Tryz.ntmps46
  go_wp2_with fail
  refine HB.out.mono ?_
  rintro e w1 ⟨v, rfl, h1, h2⟩
  have HV := hide (values_any h1 h2.size)
  have HG := hide h2
  clear h1 h2 HB
  go_wp2_with fail
  refine HV.out.mono ?_
  rintro e w2 ⟨u, rfl, h3, h4⟩
  have HF := hide (And.intro h3 (grown_trans HG.out h4))
  clear h3 h4 HV HG
  go_wp2
  go_ret
  exact ⟨u, rfl, HF.out⟩
end Go.Proofs.YtjfhilignbeboaaGreatDoor
/- What an iterator tells, gathered. -/
namespace Go.Proofs.YtjfhilignbeboaaGreatDoor
open Go.RowKit Go.Shelf
attribute [local go_sem ↓] Go.wp_at_zero Go.wp_at_succ
attribute [local go_sem] Oper.semAt_some
theorem eqlNil74 (w : World) (f : Nat) (lb : Array Value) : (binOp .eql 105 (.func (.func f) #[] lb) .nilFunc).run Tryz.prog w = .ok (.bool false) w := by kernel_rfl
theorem cells_own_from {cs : Array Value} {t : TypeId} {f : Nat × Nat} {b : Nat} (B : Nat) : OwnFrom B (fun (_ : Unit) W => W.heap[b]? = some (.cells cs t f)) := fun _ W W' row h hg hr => (hg.block b (row_lt h) (fun e => by
  obtain ⟨_, o, ho, hc⟩ := hr b e.symm
  rw [h] at ho
  cases ho
  cases hc)).trans h
theorem own_base {W : World} {b b' : Nat} {e : TypeId} {size n : Nat} {v : Value} {xs : List Value} (h : W.ownsRow b e size v n xs) (hb : b' ≤ b) : W.ownsRow b' e size v n xs := by
  refine ⟨h.1, ?_⟩
  rcases h.2 with h2 | ⟨g, cap, cur, h2, h3, h4⟩
  · exact .inl h2
  · exact .inr ⟨g, cap, cur, h2, Nat.le_trans hb h3, h4⟩
/-- Inside told, between two of them. -/
structure ToI (w W : World) (pre : List Bg) : Prop where
  row : ∃ v, Boxed W w.heap.size 40 v ∧ W.ownsRow (w.heap.size + 1) 51 3 v pre.length (bgs pre)
  gr : w.grownBy W none
  sz : w.heap.size + 1 ≤ W.heap.size
theorem ToI.own_from {w : World} {B : Nat} (hB : w.heap.size ≤ B) : OwnFrom B (fun pre W => ToI w W pre) := fun pre W W' row h hg hr => by
  obtain ⟨v, h1, h2⟩ := h.row
  exact ⟨⟨v, box_own_from B () W W' row h1 hg hr, own_own_from B () W W' row h2 hg hr⟩, grown_then h.gr hg (fun j e => Or.inl (Nat.le_trans hB (hr j e).1)), Nat.le_trans h.sz hg.size⟩
end Go.Proofs.YtjfhilignbeboaaGreatDoor
