/- Texts joined: Rr, BkH. -/
import Derived.OrdersIn
import Derived.OrdersHeld
import Derived.Deep.RegionHeld
import Derived.RangeFuncCalls
import Derived.RangeFuncNested
import Derived.Deep.Quiet
import Derived.Test.YtcbiloomnkbalaaGreatDoorJoAq
import Derived.Test.YtcbiloomnkbalaaGreatDoorJoAr
/- A region that draws its order, inside a round of a range over a function: what is shown of it outside a round holds there too. -/
namespace Go.Proofs.YtcbiloomnkbalaaGreatDoor
open Go

variable {P : Program} {ops : Array Oper} {Q : Exit → Act → World → Prop} {md : Region.Mode}
theorem oper_round {o : Oper} {l n : Nat} {a : Act} {w : World} {K : Act → World → Prop} (hd : ∀ c, o.op ≠ .defer c) (h : o.wp P a w K Q) : o.wpIn (Fence.wide.inRound l) n P a w K Q := by
  unfold Oper.wp at h
  refine ⟨fun _ _ => trivial, ?_⟩
  rw [Oper.semAt_eq _ _ _ hd]
  generalize (execOp a.eval o).run P w = r at *
  cases r with
  | ok x w' =>
    cases x <;> simp only [Oper.upon, Oper.uponIn] at h ⊢ <;>
      first
        | exact h
        | exact ⟨fun e => (by have e2 : false = true := e; cases e2), CallsIn.inRound l (callsIn_wide.2 h)⟩
        | exact ⟨fun e => (by have e2 : false = true := e; cases e2), fun c cs _ => let ⟨v, w'', r, s⟩ := h c cs; ⟨v, w'', r, stepsIn_wide.2 s⟩⟩
        | exact h.elim
  | halt x w' => cases x <;> simp only [Oper.upon, Oper.uponIn] at h ⊢ <;> exact h
theorem op_round {i l n : Nat} {a : Act} {w : World} {K : Act → World → Prop} (hd : ∀ (j : Nat) (o : Oper), ops[j]? = some o → ∀ c, o.op ≠ .defer c) (hno : ¬ LetsOut Q) (h : wpOp P ops Q i K a w) : wpOpIn (Fence.wide.inRound l) n P ops Q i K a w := by
  unfold wpOp at h
  unfold wpOpIn
  split
  · rename_i ho; simp only [ho] at h; exact h
  · rename_i o ho
    simp only [ho] at h
    split
    · rename_i hw
      simp only [hw, if_true] at h
      rcases h with h | h
      · exact oper_round (hd _ _ ho) h
      · exact absurd h.2 hno
    · rename_i hw
      simp only [hw] at h
      exact ⟨fun _ _ => trivial, h⟩
theorem any_round {l n : Nat} (hd : ∀ (j : Nat) (o : Oper), ops[j]? = some o → ∀ c, o.op ≠ .defer c) (hno : ¬ LetsOut Q) : ∀ (fuel : Nat) (listed : Array Bool) (a : Act) (w : World), wpAny P md ops Q fuel listed a w → wpAnyIn (Fence.wide.inRound l) n P md ops Q fuel listed a w
  | 0, _, _, _, h => h
  | fuel + 1, _, _, _, h => ⟨h.1, fun i hi => wpOpIn_mono (fun a' w' h' => any_round hd hno fuel _ a' w' h') (op_round hd hno (h.2 i hi))⟩
def noDefer (ops : Array Oper) : Bool := ops.toList.all fun o => match o.op with | .defer _ => false | _ => true
theorem noDefer_spec (h : noDefer ops = true) : ∀ (j : Nat) (o : Oper), ops[j]? = some o → ∀ c, o.op ≠ .defer c := by
  intro j o ho c e
  have hm : o ∈ ops.toList := by simpa using Array.mem_of_getElem? ho
  have := List.all_eq_true.1 h o hm
  rw [e] at this
  cases this
/-- The beginning, inside a round. -/
theorem wpIn_round_held {S : World → Prop} {id l n : Nat} {a : Act} {w : World} (hm : P.follows .mixedOrders = true) (hd : noDefer ops = true) (hno : ¬ LetsOut Q) (hS : S w.drew)
    (h : S w.drew → wpAnyH P .any ops Q S ops.size (Array.replicate ops.size false) a w.drew) : (Code.region id ops true).wpIn (Fence.wide.inRound l) n P Q a w :=
  wpIn_region_any hm (any_round (noDefer_spec hd) hno _ _ _ _ (wpAny_of_held _ _ _ _ (h hS)))
/-- Where all only read. -/
theorem wpIn_round_quiet {id l n : Nat} {a : Act} {w : World} {os : List Oper} (hm : P.follows .mixedOrders = true) (hB : Region.lexB .any os.toArray = true) (hd : noDefer os.toArray = true) (hno : ¬ LetsOut Q)
    (h : wpQuiet P os.toArray (fun w' => ∃ n, w' = w.drewN n) (fun a' => ∀ w', (∃ n, w' = w.drewN n) → Q .normal a' w') os a) : (Code.region id os.toArray true).wpIn (Fence.wide.inRound l) n P Q a w := by
  simp only [Region.lexB, Bool.and_eq_true] at hB
  refine wpIn_region_any hm (any_round (noDefer_spec hd) hno _ _ _ _ (wpAny_of_quiet (C := fun w' => ∃ n, w' = w.drewN n) (Q := fun a' => ∀ w', (∃ n, w' = w.drewN n) → Q .normal a' w') (fun _ w' hw' h => h w' hw') _ _ _ _ ⟨1, rfl⟩ ?_))
  have := wpAnyQ_lex (C := fun w' => ∃ n, w' = w.drewN n) (md := .any) hB.1 os 0 (Array.replicate os.toArray.size false) a (by simp) (by simpa using hB.2) h
  simpa using this
end Go.Proofs.YtcbiloomnkbalaaGreatDoor
/- What slices.Values goes through. -/
namespace Go.Proofs.YtcbiloomnkbalaaGreatDoor
open Go.RowKit Go.Shelf
attribute [local go_sem ↓] Go.wp_at_zero Go.wp_at_succ
def encB (x : Bg) : Array Value := #[bgV x]
/-- The row that is gone through. -/
structure ItB (W : World) (B : Nat) (so : Option Addr) (cap : Nat) (X : List Bg) : Prop where
  box : W.heap[B]? = some (.cells [Value.slice so X.length cap].toArray 25 (0, 0))
  le : X.length ≤ cap
  row : ∀ i, i < X.length → ∃ g, so = some ⟨g, 0, none⟩ ∧ W.cell? ⟨g, i * 3, none⟩ = some (.int .u32 ((rd X i).i : Int)) ∧ W.cell? ⟨g, i * 3 + 1, none⟩ = some (.int .i64 ((rd X i).s : Int)) ∧ W.cell? ⟨g, i * 3 + 2, none⟩ = some (.int .i64 (rd X i).u)
theorem ItB.grown {W W' : World} {B : Nat} {so : Option Addr} {cap : Nat} {X : List Bg} (h : ItB W B so cap X) (g : W.grownBy W' none) : ItB W' B so cap X :=
  ⟨(g.block _ (row_lt h.box) (by simp)).trans h.box, h.le, fun i hi => by obtain ⟨q, h1, h2, h3, h4⟩ := h.row i hi; exact ⟨q, h1, g.cell h2 (by simp), g.cell h3 (by simp), g.cell h4 (by simp)⟩⟩
theorem take_rd {X : List Bg} {i : Nat} (h : i < X.length) : X.take i ++ [rd X i] = X.take (i + 1) := by
  rw [List.take_add_one, List.getElem?_eq_getElem h]
  unfold rd
  rw [List.getElem?_eq_getElem h]
  rfl
def leftB (n : Nat) (q : Value) : Nat := match q with | .int _ i => n - i.toNat | _ => 0
theorem leftB_nat (n i : Nat) : leftB n (.int .i64 (i : Int)) = n - i := by simp [leftB]
set_option maxRecDepth 100000 in
set_option maxHeartbeats 1000000 in
theorem vt_genV (Kp : World → World → Prop) (Iv : World → Prop) (n : Nat) (hn : 1 ≤ n) (l B : Nat) (so : Option Addr) (cap : Nat) (X : List Bg) (hX : X.length ≤ 65536) (J Jx : List Bg → World → Prop)
    (hY : ∀ pre (x : Bg) W, J pre W → pre ++ [x] <+: X → YieldAt Fence.wide (n - 1) Tryz.prog l (encB x) W fun e W' =>
      (e = .returned (.bool true) ∧ J (pre ++ [x]) W' ∧ Kp W W') ∨ (e = .returned (.bool false) ∧ Jx (pre ++ [x]) W'))
    (hIv : ∀ W, Iv W → ItB W B so cap X) (hkp : ∀ W W', Kp W W' → Iv W → Iv W') (hga : ∀ W W' : World, W.grownBy W' none → Iv W → Iv W') (hJa : ∀ pre (W W' : World), W.grownBy W' none → J pre W → J pre W') (W : World) (hI : Iv W) (h0 : J [] W) :
    CallsIn Fence.wide n Tryz.prog 82 #[.func (.yield l) #[] #[], .pointer (some ⟨B, 0, none⟩)] W fun e W' => (∃ v, e = .returned v) ∧
      ((∃ ys, ys = X ∧ J ys W') ∨ (∃ pre, Jx pre W')) := by
  refine callsIn_of_wp Tryz.func82 rfl trivial ?_ rfl
  simp only [Tryz.ntmps82, List.size_toArray, List.length_cons, List.length_nil, Nat.reduceAdd, Nat.reduceSub, Array.replicate_succ, Array.replicate_zero, List.push_toArray, List.append_toArray, List.nil_append, List.cons_append]
  have hc := cell_row (hIv _ hI).box 0
  simp at hc
  gi_wp2
  gi_loopw [7] (fun q wr => ∃ i : Nat, q = .int .i64 (i : Int) ∧ i ≤ X.length ∧ Hid (J (X.take i) wr ∧ Iv wr)) (fun q _ => leftB X.length q)
  case atStart => exact ⟨0, rfl, Nat.zero_le _, by rw [List.take_zero]; exact ⟨h0, hI⟩⟩
  case round =>
    obtain ⟨i, rfl, hi, HJ⟩ := hrel
    clear hc
    by_cases hlt : i < X.length
    · obtain ⟨g, rfl, c0, c1, c2⟩ := (hIv _ HJ.out.2).row i hlt
      have hle := (hIv _ HJ.out.2).le
      have ga := World.grownBy_alloc wr (.cells #[.int .u32 ((rd X i).i : Int), .int .i64 ((rd X i).s : Int), .int .i64 (rd X i).u] 78) none
      obtain ⟨fn, tmps, assign, body, hy, hR⟩ := hY (X.take i) (rd X i) _ (hJa _ _ _ ga HJ.out.1) (by rw [take_rd hlt]; exact List.take_prefix _ _)
      have nb : (wr.alloc (.cells #[.int .u32 ((rd X i).i : Int), .int .i64 ((rd X i).s : Int), .int .i64 (rd X i).u] 78)).heap[wr.heap.size]? = some (.cells [Value.int .u32 ((rd X i).i : Int), .int .i64 ((rd X i).s : Int), .int .i64 (rd X i).u].toArray 78 (0, 0)) := heap_alloc_new wr _
      have HT := hide (take_rd hlt)
      rw [HT.out] at hR
      have HI2 := hide (hga _ _ ga HJ.out.2)
      clear ga nb hi
      unfold encB bgV at hy
      generalize (rd X i).i = a at *
      generalize (rd X i).s = b at *
      generalize (rd X i).u = d at *
      have hil : ((i : Int) < (X.length : Int)) = True := by simp; omega
      gi_wp2
      refine hR.mono ?_
      rintro e W3 (⟨rfl, hJ3, hk3⟩ | ⟨rfl, hJx3⟩)
      · have H3 := hide (And.intro hJ3 (hkp _ _ hk3 HI2.out))
        clear hJ3 hk3
        have hw1 : IntKind.i64.wrap ((i : Int) + 1) = (i : Int) + 1 := by rw [IntKind.wrap_i64]; omega
        gi_wp2
        go_roundw
        case rel => exact ⟨i + 1, by simp, by omega, H3.out⟩
        case measure =>
          have e1 := leftB_nat X.length (i + 1)
          have e2 := leftB_nat X.length i
          rw [show ((i : Int) + 1) = (((i + 1 : Nat)) : Int) by omega, e1, e2]
          omega
      · gi_wp2
        refine bodyPost_ret (results_none rfl _ _ _) rfl ?_
        exact ⟨⟨_, rfl⟩, .inr ⟨_, hJx3⟩⟩
    · have hil : decide ((i : Int) < (X.length : Int)) = false := by simp; omega
      obtain rfl : i = X.length := by omega
      gi_wp2
      go_end0
      exact ⟨⟨_, rfl⟩, .inl ⟨_, rfl, by have := HJ.out.1; rw [List.take_length] at this; exact this⟩⟩
/-- Its blocks: they stay. -/
def vbk (B : Nat) (so : Option Addr) (n : Nat) (i : Nat) : Prop := i = B ∨ (n ≠ 0 ∧ ∃ a, so = some a ∧ i = a.block)
def KpB (Q : Nat → Prop) (W W' : World) : Prop := W.heap.size ≤ W'.heap.size ∧ ∀ i, Q i → i < W.heap.size → W'.heap[i]? = W.heap[i]?
theorem KpB.trans {Q : Nat → Prop} {a b c : World} (h : KpB Q a b) (k : KpB Q b c) : KpB Q a c := ⟨Nat.le_trans h.1 k.1, fun i hi hl => (k.2 i hi (Nat.lt_of_lt_of_le hl h.1)).trans (h.2 i hi hl)⟩
theorem KpB.of {Q X : Nat → Prop} {W W' : World} (k : Kept W W' X) (hX : ∀ i, Q i → ¬ X i) : KpB Q W W' := ⟨k.size, fun i hi hl => k.block i hl (hX i hi)⟩
theorem KpB.new {Q : Nat → Prop} {W W' : World} (g : W.grownBy W' none) : KpB Q W W' := KpB.of (Kept.new g (fun _ => False)) (fun _ _ e => e)
theorem KpB.put {Q : Nat → Prop} {W : World} {l : Nat} {o : Obj} (h : ¬ Q l) : KpB Q W (W.putObj l o) := KpB.of (Kept.of (grownBy_putObj' W l o) (S := fun i => i = l) (fun j e _ => (Option.some.inj e).symm)) (fun i hi e => h (by rw [← e]; exact hi))
theorem ItB.lt {W : World} {B : Nat} {so : Option Addr} {cap : Nat} {X : List Bg} (h : ItB W B so cap X) : ∀ i, vbk B so X.length i → i < W.heap.size := by
  rintro i (rfl | ⟨hn, a, ha, rfl⟩)
  · exact row_lt h.box
  · obtain ⟨q, h1, h2, _⟩ := h.row 0 (by omega)
    rw [h1] at ha
    cases ha
    unfold World.cell? at h2
    cases hq : W.heap[q]? with
    | none => simp [hq] at h2
    | some o => exact row_lt hq
theorem ItB.keep {W W' : World} {B : Nat} {so : Option Addr} {cap : Nat} {X : List Bg} (h : ItB W B so cap X) (k : KpB (vbk B so X.length) W W') : ItB W' B so cap X :=
  ⟨(k.2 _ (.inl rfl) (h.lt _ (.inl rfl))).trans h.box, h.le, fun i hi => by
    obtain ⟨q, h1, h2, h3, h4⟩ := h.row i hi
    have hq : vbk B so X.length q := .inr ⟨by omega, _, h1, rfl⟩
    have hb : W'.heap[q]? = W.heap[q]? := k.2 _ hq (h.lt _ hq)
    refine ⟨q, h1, ?_, ?_, ?_⟩
    · unfold World.cell? at h2 ⊢; simp only [hb]; exact h2
    · unfold World.cell? at h3 ⊢; simp only [hb]; exact h3
    · unfold World.cell? at h4 ⊢; simp only [hb]; exact h4⟩
theorem ItE_lt {W : World} {B : Nat} {so : Option Addr} {cap : Nat} {X : List (Nat × Int)} (h : Ix.ItE W B so cap X) : ∀ i, vbk B so X.length i → i < W.heap.size := by
  rintro i (rfl | ⟨hn, a, ha, rfl⟩)
  · exact row_lt h.box
  · obtain ⟨q, h1, h2, _⟩ := h.row 0 (by omega)
    rw [h1] at ha
    cases ha
    unfold World.cell? at h2
    cases hq : W.heap[q]? with
    | none => simp [hq] at h2
    | some o => exact row_lt hq
theorem ItE_keep {W W' : World} {B : Nat} {so : Option Addr} {cap : Nat} {X : List (Nat × Int)} (h : Ix.ItE W B so cap X) (k : KpB (vbk B so X.length) W W') : Ix.ItE W' B so cap X :=
  ⟨(k.2 _ (.inl rfl) (ItE_lt h _ (.inl rfl))).trans h.box, h.le, fun i hi => by
    obtain ⟨q, h1, h2, h3⟩ := h.row i hi
    have hq : vbk B so X.length q := .inr ⟨by omega, _, h1, rfl⟩
    have hb : W'.heap[q]? = W.heap[q]? := k.2 _ hq (ItE_lt h _ hq)
    refine ⟨q, h1, ?_, ?_⟩
    · unfold World.cell? at h2 ⊢; simp only [hb]; exact h2
    · unfold World.cell? at h3 ⊢; simp only [hb]; exact h3⟩
theorem vt_seqV (n : Nat) (hn : 1 ≤ n) (B : Nat) (so : Option Addr) (cap : Nat) (X : List Bg) (hX : X.length ≤ 65536) (W : World) (hI : ItB W B so cap X) :
    SeqV Fence.wide n Tryz.prog 82 #[.pointer (some ⟨B, 0, none⟩)] encB (KpB (vbk B so X.length)) (fun pre x _ => pre ++ [x] <+: X) (fun ys => ys = X) W := fun l J Jx hJ _hJx hY h0 =>
  vt_genV (KpB (vbk B so X.length)) (fun W => ItB W B so cap X) n hn l B so cap X hX J Jx hY (fun _ h => h) (fun _ _ k h => h.keep k) (fun _ _ g h => h.grown g) (fun pre A A' g h => hJ pre A A' h g) W hI h0
end Go.Proofs.YtcbiloomnkbalaaGreatDoor
