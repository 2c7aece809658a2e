/- Texts joined: JnAo, JnAp. -/
import Derived.Test.YtinkkocleognbaaGreatDoorJuAn
import Derived.RangeFuncWrites
import Derived.Test.YtinkkocleognbaaGreatDoorJuAa
import Derived.Test.YtinkkocleognbaaGreatDoorJuAl
/- Texts joined: Rp1, Rw, Rp2, BkR, BkX. -/
namespace Go.Proofs.YtinkkocleognbaaGreatDoor
/- What records come to: Of. -/
open Go.RowKit
attribute [local go_sem ↓] Go.wp_at_zero Go.wp_at_succ
attribute [local go_sem] Oper.semAt_some
theorem Lk.base {w w0 W : World} {b : Nat} {S : Sb} {K : Nat} {p : Bp} {Bs : List (Nat × List Value × TypeId)} (h : Lk w0 W b S K p Bs) (g : w.grownBy w0 none) : Lk w W b S K p Bs :=
  ⟨h.eb, h.bk, grown_trans g h.gr, fun i hi => Nat.le_trans g.size (h.own i hi), fun x hx => ⟨(h.bx x hx).1, (h.bx x hx).2.1, Nat.le_trans g.size (h.bx x hx).2.2⟩⟩
/-- A new book's state. -/
def nS (a b c : Nat) : Sb := ⟨a, b, c, 1, 0, []⟩
theorem nS_ok {a b c : Nat} (h : Gx.OkS a b c) : (nS a b c).Ok := Sb.Ok.new h
set_option maxRecDepth 20000 in
set_option maxHeartbeats 16000000 in
theorem of_any {w : World} {a b c : Nat} (ho : Gx.OkS a b c) {ao : Option Addr} {len cap : Nat} {rs : List Rc} (hl : rs.length = len) (hlen : len ≤ 10000) (hR : RecsAt w ao rs) (hO : ∀ r ∈ rs, r.Ok) (hT : Rk.Tab w) : Calls Tryz.prog 10 #[limV a b c, .slice ao len cap] w fun e w' => ∃ d p, e = .returned (.tuple #[.pointer (some ⟨d, 0, none⟩), .int .i64 (rn (nS a b c) rs : Int), .int .i64 (rE (nS a b c) rs)]) ∧ Lk w w' d (fo (nS a b c) rs (rn (nS a b c) rs)) 10000 p [] := by
  have HRan := hide (ran_is (nS a b c) rs)
  have HN : Hid (∀ W, w.grownBy W none → Calls Tryz.prog 38 #[limV a b c] W fun e w' => ∃ d p, e = .returned (.tuple #[.pointer (some ⟨d, 0, none⟩), .int .i64 0]) ∧ Lk w w' d (nS a b c) 0 p []) := by
    intro W hW
    refine (new_lk a b c ho W (by have := hT.lt; have := hW.size; omega)).mono ?_
    rintro e w' ⟨d, p, rfl, h⟩
    exact ⟨d, p, rfl, h.base hW⟩
  unfold limV at HN
  unfold limV
  have HD := hide (And.intro hl (And.intro hR hO))
  have HA0 : Hid (∀ W d j p Bs, j ≤ 10000 → Lk w W d (fo (nS a b c) rs j) j p Bs → ∀ r : Rc, r.Ok → Calls Tryz.prog 39 #[.pointer (some ⟨d, 0, none⟩), .agg #[.int .i64 r.k, .int .u32 r.i, .int .i64 r.s, .int .i64 r.u, .int .i64 r.c]] W fun e w' => e = .returned (.int .i64 (appE (fo (nS a b c) rs j) r)) ∧ ∃ q, Lk w w' d (app (fo (nS a b c) rs j) r) (j + 1) q []) := fun W d j p Bs hj h r hr => by
    refine (h.apply (fo_ok (nS_ok ho) rs j) (by omega) hT r hr).mono ?_
    rintro e w' ⟨rfl, q, h1, -⟩
    exact ⟨rfl, q, h1.bare⟩
  have HF : Hid (∀ j r, rs[j]? = some r → fo (nS a b c) rs (j + 1) = app (fo (nS a b c) rs j) r) := fun j r h => fo_succ h
  have H00 : fo (nS a b c) rs 0 = nS a b c := rfl
  rw [← H00] at HN
  clear hR hO hT hl ho H00
  generalize (nS a b c) = S0 at *
  obtain ⟨f, hf⟩ : ∃ f : Nat → Sb, f = fo S0 rs := ⟨_, rfl⟩
  have HRs : Hid ((∀ j r, rs[j]? = some r → j ≤ rn S0 rs → appE (f j) r = 0 → j + 1 ≤ rn S0 rs) ∧ (∀ j r, rs[j]? = some r → j ≤ rn S0 rs → appE (f j) r ≠ 0 → rn S0 rs = j ∧ rE S0 rs = appE (f j) r) ∧ (∀ j, j ≤ rn S0 rs → j = rs.length → rn S0 rs = j ∧ rE S0 rs = 0)) := by
    rw [hf]
    exact ⟨fun j r h h1 h2 => HRan.out.step h1 h h2, fun j r h h1 h2 => HRan.out.stop h1 h h2, fun j h1 h2 => HRan.out.end_ h1 h2⟩
  rw [← hf] at HN HA0 HF ⊢
  clear hf HRan
  generalize rn S0 rs = n at *
  generalize rE S0 rs = er at *
  have b0 := grown_alloc w (.cells #[.int .i64 (a : Int), .int .i64 (b : Int), .int .i64 (c : Int)] 23)
  have HN1 := hide (HN.out _ b0)
  clear HN b0
  generalize (a : Int) = a at *
  generalize (b : Int) = b at *
  generalize (c : Int) = c at *
  go_enter Tryz.func10, Tryz.ntmps10
  go_wp2_with fail
  refine HN1.out.mono ?_
  rintro e w1 ⟨d, p, rfl, hh⟩
  have H1 := hide hh
  clear hh HN1
  go_wp2
  go_loopg [22] len (fun k i wr => ∃ j : Nat, k + j = len ∧ i = .int .i64 j ∧ ∃ q, Hid (Lk w wr d (f j) j q [] ∧ j ≤ n))
  case atStart => exact ⟨0, by omega, rfl, _, H1.out, Nat.zero_le _⟩
  case round =>
    clear H1
    obtain ⟨j, hkj, rfl, q, HL⟩ := hrel
    by_cases hk : 0 < gk
    · have h1 : (0 : Int) ≤ (j : Int) := by omega
      have h2 : (j : Int) < (len : Int) := by omega
      obtain ⟨r, hr⟩ : ∃ r, rs[j]? = some r := ⟨rs[j]'(by have := HD.out.1; omega), List.getElem?_eq_getElem _⟩
      obtain ⟨rb, off, rfl, c0, c1, c2, c3, c4⟩ := HD.out.2.1 j r hr
      have HR := hide (And.intro (HD.out.2.2 r (List.mem_of_getElem? hr)) hr)
      have g2 := HL.out.1.gr
      have c0 := g2.cell c0 (by simp)
      have c1 := g2.cell c1 (by simp)
      have c2 := g2.cell c2 (by simp)
      have c3 := g2.cell c3 (by simp)
      have c4 := g2.cell c4 (by simp)
      have HB := hide (HL.out.1.box [.int .i64 r.k, .int .u32 r.i, .int .i64 r.s, .int .i64 r.u, .int .i64 r.c] 47)
      have HA := hide (HA0.out _ _ _ _ _ (by omega) HB.out r HR.out.1)
      clear hr g2
      go_wp2_with fail
      refine HA.out.mono ?_
      rintro e w3 ⟨rfl, q3, hh3⟩
      have H3 := hide hh3
      clear hh3 HB HA
      by_cases he : appE (f j) r = 0
      · have HS := hide (And.intro (HF.out j r HR.out.2) (HRs.out.1 j r HR.out.2 HL.out.2 he))
        rw [he]
        clear he
        go_wp2
        go_roundg (gk - 1)
        case measure => omega
        case rel => exact ⟨j + 1, by omega, by go_num, q3, by rw [HS.out.1]; exact H3.out, HS.out.2⟩
      · have HS := hide (HRs.out.2.1 j r HR.out.2 HL.out.2 he)
        have HE := hide (And.intro he (app_no he))
        have hj : j ≤ 10000 := by omega
        generalize hv : appE (f j) r = v at *
        clear hv
        have f1 : (v == 0) = false := by simpa using he
        have f2 : (v != 0) = true := by simpa using he
        clear he
        go_wp2
        go_ret3
        exact ⟨d, q3, by rw [HS.out.1, HS.out.2]; rfl, by rw [HS.out.1]; have := H3.out; rw [HE.out.2] at this; exact this.more (by omega)⟩
    · have hj : j = len := by omega
      subst hj
      have HS := hide (HRs.out.2.2 j HL.out.2 HD.out.1.symm)
      go_wp2
      go_ret3
      exact ⟨d, q, by rw [HS.out.1, HS.out.2]; rfl, by rw [HS.out.1]; exact HL.out.1.more (by omega)⟩
end Go.Proofs.YtinkkocleognbaaGreatDoor
namespace Go.Proofs.YtinkkocleognbaaGreatDoor
/- A range over a function that has blocks of its own, and hands on what leads to memory. -/
open Go.RowKit
/-- What a body may do beside an iterator that owns O: J goes on, whatever the iterator does to its own blocks, and whatever it lays anew. -/
def Goes {α : Type} (J : List α → (Nat → Prop) → World → Prop) : Prop :=
  ∀ pre O O' A B, J pre O A → Kept A B O → (∀ i, O' i → O i ∨ A.heap.size ≤ i) → J pre O' B

/-- What the iterator g does from W on: it hands on elements x, each with V pre x in the world in which it is handed on (pre: those ahead of it); E x: the element's own blocks; O: the iterator's at that time; R: what it reads alone. -/
def SeqW {α : Type} (F : Fence) (n : Nat) (P : Program) (g : Nat) (lb : Array Value) (encs : α → Array Value) (R : Nat → Prop) (E : α → Nat → Prop) (V : List α → α → World → Prop) (S : List α → Prop) (W : World) : Prop :=
  ∀ (l : Nat) (J : List α → (Nat → Prop) → World → Prop) (Jx : List α → World → Prop), Goes J → Stands Jx →
    (∀ pre x O W1, J pre O W1 → V pre x W1 → (∀ i, E x i → W.heap.size ≤ i ∧ i < W1.heap.size ∧ ¬ O i) → (∀ i, O i → W.heap.size ≤ i ∧ i < W1.heap.size) → YieldAt F (n - 1) P l (encs x) W1 fun e W' =>
      (e = .returned (.bool true) ∧ J (pre ++ [x]) O W' ∧ Kept W1 W' (fun i => ¬ (O i ∨ R i))) ∨ (e = .returned (.bool false) ∧ Jx (pre ++ [x]) W')) →
    J [] (fun _ => False) W →
    CallsIn F n P g (#[.func (.yield l) #[] #[]] ++ lb) W fun e W' => (∃ v, e = .returned v) ∧ ((∃ xs O, S xs ∧ J xs O W') ∨ (∃ pre, Jx pre W'))

/-- How a round ends. -/
def postW {α : Type} (Q : Nat → Prop) (O : Nat → Prop) (I : List α → (Nat → Prop) → World → Prop) (Ix : Code → List α → (Nat → Prop) → World → Prop) (xs : List α) (W : World) : Exit → Act → World → Prop
  | .normal, _, W' => Kept W W' (fun i => ¬ Q i) ∧ I xs O W'
  | .ret, _, W' => Kept W W' (fun i => ¬ Q i) ∧ Ix .ret xs O W'
  | .exit id, _, W' => Kept W W' (fun i => ¬ Q i) ∧ Ix (.exit id) xs O W'
  | .goto t, _, W' => Kept W W' (fun i => ¬ Q i) ∧ Ix (.goto t) xs O W'
  | .panic _, _, _ => False
  | .outgrown, _, _ => False

variable {F : Fence} {n : Nat} {P : Program}

theorem wpIn_range_W {α : Type} {g : Operand} {ps : Array Tmp} {assign body : Code} {Q : Exit → Act → World → Prop} {a : Act} {w : World}
    (hro : F.round = none) (h1 : 1 ≤ n) {gf : Nat} {lb : Array Value} (hg : a.eval g = .func (.func gf) #[] lb) (hFg : F.fn gf) (eg : ∀ args w, (callFunc gf args).run P w = .ok (.enter gf args) w)
    {encs : α → Array Value} {R : Nat → Prop} {E : α → Nat → Prop} {V : List α → α → World → Prop} {S : List α → Prop} (hR0 : ∀ i, R i → i < w.heap.size) (hseq : ∀ W, w.grownBy W none → SeqW F (n - 1) P gf lb encs R E V S W)
    (hps : ∀ x, (encs x).size = ps.size)
    (hV : ∀ pre x A B, V pre x A → Kept A B (fun i => ¬ E x i) → V pre x B)
    (I : List α → (Nat → Prop) → World → Prop) (Ix : Code → List α → (Nat → Prop) → World → Prop) (hI : Goes I) (hIx : ∀ c, Goes (Ix c)) (h0 : I [] (fun _ => False) w) (Ax : α → Act → World → Prop) (hAx : ∀ x, OwnFrom w.heap.size (Ax x))
    (hassign : ∀ (l : Nat) (pre : List α) (x : α) (O : Nat → Prop) (W : World) (K : Act → World → Prop), I pre O W → V pre x W → (∀ a' W', W.grownBy W' none → Ax x a' W' → K a' W') →
      assign.wpIn (F.inRound l) (n - 1 - 1) P (Exit.then K (fun _ _ _ => False)) { tmps := (ps.zip (encs x)).foldl (fun t (p, v) => t.setIfInBounds p v) a.tmps, defers := [] } W)
    (hbody : ∀ (l : Nat) (pre : List α) (x : α) (O : Nat → Prop) (a' : Act) (W : World), I pre O W → V pre x W → Ax x a' W → w.heap.size + 2 ≤ W.heap.size → (∀ i, E x i → w.heap.size + 2 ≤ i ∧ i < W.heap.size ∧ ¬ O i) → (∀ i, O i → w.heap.size ≤ i ∧ i < W.heap.size) → body.wpIn (F.inRound l) (n - 1 - 1) P (postW (fun i => O i ∨ R i) O I Ix (pre ++ [x]) W) a' W)
    (hdone : ∀ (D : Nat) (xs : List α) (O : Nat → Prop) (W : World), w.heap.size ≤ D → S xs → I xs O W → O D → W.heap[D]? = some (.deferred (some [])) → Q .normal { a with defers := { target := .collected D, args := #[] } :: a.defers } W)
    (hstop : ∀ (D : Nat) (c : Code) (pre : List α) (O : Nat → Prop) (W : World), w.heap.size ≤ D → Ix c pre O W → O D → W.heap[D]? = some (.deferred (some [])) → c.wpIn F n P Q { a with defers := { target := .collected D, args := #[] } :: a.defers } W) :
    (Code.rangeFunc g ps assign body).wpIn F n P Q a w := by
  refine wpIn_rangeFunc fun fn hfn => ?_
  rw [hro]
  generalize hR : (fun (st : LoopState) (pe : Option Code) => ({ state := st, pending := pe, fn, tmps := a.tmps, params := ps, assign, body, defers := w.heap.size } : Loop)) = R'
  have hRs : ∀ st pe, R' st pe = { state := st, pending := pe, fn, tmps := a.tmps, params := ps, assign, body, defers := w.heap.size } := fun st pe => by rw [← hR]
  generalize hW1 : (w.alloc (.deferred (some []))).alloc (.loop (R' .ready none)) = W1
  have hL1 : W1.heap[w.heap.size + 1]? = some (.loop (R' .ready none)) := by
    have := World.alloc_heap_new (w.alloc (.deferred (some []))) (.loop (R' .ready none))
    rw [← hW1]
    rwa [World.size_alloc] at this
  have hD1 : W1.heap[w.heap.size]? = some (.deferred (some [])) := by
    rw [← hW1]
    exact (Below.heap_alloc _ _ _ (by simp)).trans (World.alloc_heap_new w _)
  have hgr : w.grownBy W1 none := by
    rw [← hW1]
    have k1 := World.grownBy_alloc w (.deferred (some [])) none
    have k2 := World.grownBy_alloc (w.alloc (.deferred (some []))) (.loop (R' .ready none)) none
    exact ⟨k2.os.trans k1.os, k2.tape.trans k1.tape, k2.output.trans k1.output, Nat.le_trans k1.size k2.size, fun i hi hne => (k2.block i (Nat.lt_of_lt_of_le hi k1.size) hne).trans (k1.block i hi hne)⟩
  have hsz : W1.heap.size = w.heap.size + 2 := by rw [← hW1, World.size_alloc, World.size_alloc]
  -- the iterator's blocks, and the loop's two
  generalize hDD : (fun (O : Nat → Prop) (i : Nat) => O i ∨ i = w.heap.size ∨ i = w.heap.size + 1) = DD
  have hDs : ∀ O i, DD O i ↔ (O i ∨ i = w.heap.size ∨ i = w.heap.size + 1) := fun O i => by rw [← hDD]
  have hput : ∀ (A : World) (l : Nat) (o : Obj) (X : Nat → Prop), X l → Kept A (A.putObj l o) X := fun A l o X hX => Kept.of (grownBy_putObj' A l o) (fun j e _ => by cases e; exact hX)
  have hIput : ∀ (J : List α → (Nat → Prop) → World → Prop), Goes J → ∀ pre O (A : World) (o : Obj), J pre (DD O) A → J pre (DD O) (A.putObj (w.heap.size + 1) o) := fun J hJ pre O A o h => hJ pre _ _ A _ h (hput A _ o _ ((hDs _ _).2 (.inr (.inr rfl)))) (fun i hi => .inl hi)
  refine ⟨w.heap.size + 1, [{ target := .collected w.heap.size, args := #[] }], W1, { target := .fn (.func gf) lb, args := #[.func (.yield (w.heap.size + 1)) #[] #[]] }, W1, gf,
    #[.func (.yield (w.heap.size + 1)) #[] #[]] ++ lb, W1, ?_, ?_, ?_, ?_, fun _ => h1, ?_⟩
  · rw [← hW1, hRs]; exact run_enterLoop_outer _ _ _ _ _
  · simp only [resolve, hg]
    simp [go_sem]
  · intro f' hf'; simp [Target.leads] at hf'; subst hf'; exact hFg
  · simp [invoke, go_sem, eg]
  · refine (hseq W1 hgr (w.heap.size + 1)
      (fun pre O W => I pre (DD O) W ∧ W.heap[w.heap.size + 1]? = some (.loop (R' .ready none)) ∧ W.heap[w.heap.size]? = some (.deferred (some [])) ∧ (∀ i, O i → w.heap.size + 2 ≤ i) ∧ w.heap.size + 2 ≤ W.heap.size)
      (fun pre W => ∃ c O, Ix c pre (DD O) W ∧ W.heap[w.heap.size + 1]? = some (.loop (R' .done (some c))) ∧ W.heap[w.heap.size]? = some (.deferred (some [])))
      (fun s O O' A B hs hAB hOO => by
        obtain ⟨q1, q2, q3, q4, q5⟩ := hs
        refine ⟨hI s _ _ A B q1 (hAB.mono (fun i _ e => (hDs _ _).2 (.inl e))) (fun i hi => ?_), hAB.at q2 (fun e => ?_), hAB.at q3 (fun e => ?_), fun i hi => ?_, Nat.le_trans q5 hAB.size⟩
        · rcases (hDs _ _).1 hi with e | e
          · rcases hOO i e with e | e
            · exact .inl ((hDs _ _).2 (.inl e))
            · exact .inr e
          · exact .inl ((hDs _ _).2 (.inr e))
        · have := q4 _ e; omega
        · have := q4 _ e; omega
        · rcases hOO i hi with e | e
          · exact q4 i e
          · omega)
      (fun s A B hs hAB => by
        obtain ⟨c, O, hc, hl, hk⟩ := hs
        have k := Kept.new hAB (DD O)
        have k0 := Kept.new hAB (fun _ => False)
        exact ⟨c, O, hIx c s _ _ A B hc k (fun i hi => .inl hi), k0.at hl (fun e => e), k0.at hk (fun e => e)⟩)
      ?_ ⟨hI [] _ _ w W1 h0 (Kept.new hgr _) (fun i hi => .inr (by rcases (hDs _ _).1 hi with e | e | e <;> first | exact e.elim | omega)), hL1, hD1, fun i e => e.elim, by omega⟩).mono ?_
    · rintro pre x O W0 ⟨hi0, hl0, hk0, hO0, hs0⟩ hv0 hE0 hOl
      have hy := run_yield (P := P) (args := encs x) hl0 (by rw [hRs]; exact hps x)
      rw [hRs] at hy
      refine ⟨fn, _, assign, body, hy, roundIn_of_wpIn hfn (hassign _ pre x _ W0 _ hi0 hv0 ?_)⟩
      intro a' W hW hax
      have hKW := Kept.new hW (DD O)
      have hi := hI pre _ _ W0 W hi0 hKW (fun i hi => .inl hi)
      have hv := hV pre x W0 W hv0 (Kept.new hW _)
      have hl := (Kept.new hW (fun _ => False)).at hl0 (fun e => e)
      have hk := (Kept.new hW (fun _ => False)).at hk0 (fun e => e)
      have hlt : w.heap.size + 1 < W.heap.size := (Array.getElem?_eq_some_iff.1 hl).1
      refine ⟨_, run_beginRound hl (by rw [hRs]), ?_⟩
      generalize hBz : (Obj.loop { R' .ready none with state := .busy }) = busy
      have hl2 : (W.putObj (w.heap.size + 1) busy).heap[w.heap.size + 1]? = some busy := World.putObj_heap_same hlt
      have hk2 : (W.putObj (w.heap.size + 1) busy).heap[w.heap.size]? = some (.deferred (some [])) := (World.putObj_heap_other (by omega)).trans hk
      have hpb : Kept W (W.putObj (w.heap.size + 1) busy) (fun i => i = w.heap.size + 1) := hput W _ _ _ rfl
      have hEn : ∀ i, E x i → w.heap.size + 2 ≤ i := fun i hi => by have := (hE0 i hi).1; omega
      refine wpIn_mono (hbody _ pre x (DD O) a' _ (hIput I hI _ _ _ _ hi) (hV pre x _ _ hv (hpb.mono (fun i _ e e2 => by have := hEn i e2; omega))) ((hAx x).putObj _ hax (by omega) hl rfl) (by rw [show (W.putObj (w.heap.size + 1) busy).heap.size = W.heap.size from by simp]; omega) (fun i hi => ⟨hEn i hi, Nat.lt_of_lt_of_le (Nat.lt_of_lt_of_le (hE0 i hi).2.1 hW.size) hpb.size, fun e => by
        rcases (hDs _ _).1 e with e | e
        · exact (hE0 i hi).2.2 e
        · have := hEn i hi; omega⟩) (fun i hi => by
        rw [show (W.putObj (w.heap.size + 1) busy).heap.size = W.heap.size from by simp]
        rcases (hDs _ _).1 hi with e | e
        · have h3 := hOl i e; have h4 := hO0 i e; have h5 := hW.size; omega
        · omega)) ?_
      -- what a round leaves of the loop's own blocks
      have fin : ∀ (jump : Option Code) (W3 : World), Kept (W.putObj (w.heap.size + 1) busy) W3 (fun i => ¬ (DD O i ∨ R i)) →
          (Instr.endRound (w.heap.size + 1) jump).run P W3 = .ok (.bool jump.isNone) (W3.putObj (w.heap.size + 1) (.loop (R' (if jump.isNone then .ready else .done) jump))) ∧
          W3.heap[w.heap.size + 1]? = some busy ∧
          (W3.putObj (w.heap.size + 1) (.loop (R' (if jump.isNone then .ready else .done) jump))).heap[w.heap.size + 1]? = some (.loop (R' (if jump.isNone then .ready else .done) jump)) ∧
          (W3.putObj (w.heap.size + 1) (.loop (R' (if jump.isNone then .ready else .done) jump))).heap[w.heap.size]? = some (.deferred (some [])) := by
        intro jump W3 hk3
        have hl3 := hk3.at hl2 (fun e => e (.inl ((hDs _ _).2 (.inr (.inr rfl)))))
        have hrun := run_endRound (P := P) jump (by rw [← hBz] at hl3; exact hl3)
        rw [hRs] at hrun ⊢
        exact ⟨hrun, hl3, World.putObj_heap_same (Array.getElem?_eq_some_iff.1 hl3).1, (World.putObj_heap_other (by omega)).trans (hk3.at hk2 (fun e => e (.inl ((hDs _ _).2 (.inr (.inl rfl))))))⟩
      have hleft : ∀ (c : Code) (W3 : World), Kept (W.putObj (w.heap.size + 1) busy) W3 (fun i => ¬ (DD O i ∨ R i)) → Ix c (pre ++ [x]) (DD O) W3 →
          ∃ v W4, (Instr.endRound (w.heap.size + 1) (some c)).run P W3 = .ok v W4 ∧
            ((Ending.returned v = .returned (.bool true) ∧ (I (pre ++ [x]) (DD O) W4 ∧ W4.heap[w.heap.size + 1]? = some (.loop (R' .ready none)) ∧ W4.heap[w.heap.size]? = some (.deferred (some [])) ∧ (∀ i, O i → w.heap.size + 2 ≤ i) ∧ w.heap.size + 2 ≤ W4.heap.size) ∧ Kept W0 W4 (fun i => ¬ (O i ∨ R i))) ∨
             (Ending.returned v = .returned (.bool false) ∧ ∃ c O, Ix c (pre ++ [x]) (DD O) W4 ∧ W4.heap[w.heap.size + 1]? = some (.loop (R' .done (some c))) ∧ W4.heap[w.heap.size]? = some (.deferred (some [])))) := by
        intro c W3 hk3 hi3
        obtain ⟨hr, hl3, hl4, hk4⟩ := fin (some c) W3 hk3
        exact ⟨_, _, hr, .inr ⟨rfl, c, O, hIput (Ix c) (hIx c) _ _ _ _ hi3, hl4, hk4⟩⟩
      rintro e a3 W3 hp
      cases e with
      | normal =>
        obtain ⟨hk3, hi3⟩ := hp
        obtain ⟨hr, hl3, hl4, hk4⟩ := fin none W3 hk3
        have hnO : ∀ i, i = w.heap.size + 1 → ¬ (O i ∨ R i) := fun i e e2 => by
          rcases e2 with e2 | e2
          · have := hO0 _ e2; omega
          · have := hR0 _ e2; omega
        refine ⟨_, _, hr, .inl ⟨rfl, ⟨hIput I hI _ _ _ _ hi3, hl4, hk4, hO0, ?_⟩, ?_⟩⟩
        · have := (Array.getElem?_eq_some_iff.1 hl4).1; omega
        · have k1 : Kept W0 W (fun i => ¬ (O i ∨ R i)) := Kept.new hW _
          have k2 := k1.trans hpb (fun i _ e => hnO i e)
          have k3 := k2.trans hk3 (fun i _ e e2 => e (e2.elim (fun e2 => .inl ((hDs _ _).2 (.inl e2))) .inr))
          exact k3.trans (hput W3 _ _ (fun i => i = w.heap.size + 1) rfl) (fun i _ e => hnO i e)
      | ret => exact hleft .ret W3 hp.1 hp.2
      | exit id => exact hleft (.exit id) W3 hp.1 hp.2
      | goto t => exact hleft (.goto t) W3 hp.1 hp.2
      | panic ch => exact hp.elim
      | outgrown => exact hp.elim
    · rintro e W2 ⟨⟨v, rfl⟩, (⟨xs, O, hS, hi, hl, hk, -, -⟩ | ⟨pre, c, O, hi, hl, hk⟩)⟩
      · exact ⟨none, _, by have := run_endLoop (P := P) hl (by rw [hRs]; simp); rw [hRs] at this; exact this, hdone _ xs _ _ (Nat.le_refl _) hS (hIput I hI _ _ _ _ hi) ((hDs _ _).2 (.inr (.inl rfl))) ((World.putObj_heap_other (by omega)).trans hk)⟩
      · exact ⟨some c, _, by have := run_endLoop (P := P) hl (by rw [hRs]; simp); rw [hRs] at this; exact this, hstop _ c pre _ _ (Nat.le_refl _) (hIput (Ix c) (hIx c) _ _ _ _ hi) ((hDs _ _).2 (.inr (.inl rfl))) ((World.putObj_heap_other (by omega)).trans hk)⟩
/-- The same, where the loop's variables lie in the frame. -/
theorem wpIn_range_F {α : Type} {g : Operand} {ps : Array Tmp} {assign body : Code} {Q : Exit → Act → World → Prop} {a : Act} {w : World}
    (hro : F.round = none) (h1 : 1 ≤ n) {gf : Nat} {lb : Array Value} (hg : a.eval g = .func (.func gf) #[] lb) (hFg : F.fn gf) (eg : ∀ args w, (callFunc gf args).run P w = .ok (.enter gf args) w)
    {encs : α → Array Value} {R : Nat → Prop} {E : α → Nat → Prop} {V : List α → α → World → Prop} {S : List α → Prop} (hR0 : ∀ i, R i → i < w.heap.size) (hseq : ∀ W, w.grownBy W none → SeqW F (n - 1) P gf lb encs R E V S W)
    (hps : ∀ x, (encs x).size = ps.size)
    (hV : ∀ pre x A B, V pre x A → Kept A B (fun i => ¬ E x i) → V pre x B)
    (I : List α → (Nat → Prop) → World → Prop) (Ix : Code → List α → (Nat → Prop) → World → Prop) (hI : Goes I) (hIx : ∀ c, Goes (Ix c)) (h0 : I [] (fun _ => False) w) (fr : α → Act)
    (hassign : ∀ (l : Nat) (x : α) (W : World) (K : Act → World → Prop), K (fr x) W →
      assign.wpIn (F.inRound l) (n - 1 - 1) P (Exit.then K (fun _ _ _ => False)) { tmps := (ps.zip (encs x)).foldl (fun t (p, v) => t.setIfInBounds p v) a.tmps, defers := [] } W)
    (hbody : ∀ (l : Nat) (pre : List α) (x : α) (O : Nat → Prop) (W : World), I pre O W → V pre x W → w.heap.size + 2 ≤ W.heap.size → (∀ i, E x i → w.heap.size + 2 ≤ i ∧ i < W.heap.size ∧ ¬ O i) → (∀ i, O i → w.heap.size ≤ i ∧ i < W.heap.size) → body.wpIn (F.inRound l) (n - 1 - 1) P (postW (fun i => O i ∨ R i) O I Ix (pre ++ [x]) W) (fr x) W)
    (hdone : ∀ (D : Nat) (xs : List α) (O : Nat → Prop) (W : World), w.heap.size ≤ D → S xs → I xs O W → O D → W.heap[D]? = some (.deferred (some [])) → Q .normal { a with defers := { target := .collected D, args := #[] } :: a.defers } W)
    (hstop : ∀ (D : Nat) (c : Code) (pre : List α) (O : Nat → Prop) (W : World), w.heap.size ≤ D → Ix c pre O W → O D → W.heap[D]? = some (.deferred (some [])) → c.wpIn F n P Q { a with defers := { target := .collected D, args := #[] } :: a.defers } W) :
    (Code.rangeFunc g ps assign body).wpIn F n P Q a w :=
  wpIn_range_W hro h1 hg hFg eg hR0 hseq hps hV I Ix hI hIx h0 (fun x a' _ => a' = fr x) (fun _ _ _ _ _ h _ _ => h)
    (fun l _ x _ W K _ _ hK => hassign l x W K (hK _ _ ⟨rfl, rfl, rfl, Nat.le_refl _, fun _ _ _ => rfl⟩ rfl))
    (fun l pre x O a' W h2 h3 h4 h5 h6 h7 => by rw [h4]; exact hbody l pre x O W h2 h3 h5 h6 h7) hdone hstop
end Go.Proofs.YtinkkocleognbaaGreatDoor
namespace Go.Proofs.YtinkkocleognbaaGreatDoor
/- The states, one behind the other: what the iterator hands on. -/
open Go.RowKit Go.Shelf
attribute [local go_sem ↓] Go.wp_at_zero Go.wp_at_succ
attribute [local go_sem] Oper.semAt_some
theorem Kept.cell {a b : World} {X : Nat → Prop} (h : Kept a b X) {g o : Nat} {v : Value} (hX : ¬ X g) (hv : a.cell? ⟨g, o, none⟩ = some v) : b.cell? ⟨g, o, none⟩ = some v := by
  have hl : g < a.heap.size := by
    unfold World.cell? at hv
    cases hq : a.heap[g]? with
    | none => simp [hq] at hv
    | some o => exact row_lt hq
  have hb := h.block g hl hX
  unfold World.cell? at hv ⊢
  simp only [hb]
  exact hv
/-- What the iterator reads. -/
structure StI (W : World) (Bs Bl : Nat) (a b c : Int) (so : Option Addr) (cap : Nat) (rs : List Rc) : Prop where
  bs : W.heap[Bs]? = some (.cells [Value.int .i64 a, .int .i64 b, .int .i64 c].toArray 23 (0, 0))
  bl : W.heap[Bl]? = some (.cells [Value.slice so rs.length cap].toArray 48 (0, 0))
  rcd : RecsAt W so rs
  tab : Rk.Tab W
  ok : ∀ r ∈ rs, r.Ok
  le : rs.length ≤ 10000
/-- Its blocks. -/
def stR (Bs Bl : Nat) (so : Option Addr) (n : Nat) (i : Nat) : Prop := i = 0 ∨ i = Bs ∨ i = Bl ∨ (n ≠ 0 ∧ ∃ a, so = some a ∧ i = a.block)
theorem StI.lt {W : World} {Bs Bl : Nat} {a b c : Int} {so : Option Addr} {cap : Nat} {rs : List Rc} (h : StI W Bs Bl a b c so cap rs) : ∀ i, stR Bs Bl so rs.length i → i < W.heap.size := by
  rintro i (rfl | rfl | rfl | ⟨hn, a, ha, rfl⟩)
  · exact h.tab.lt
  · exact row_lt h.bs
  · exact row_lt h.bl
  · obtain ⟨q, off, h1, h2, -⟩ := h.rcd 0 _ (List.getElem?_eq_getElem (by omega))
    rw [h1] at ha
    cases ha
    unfold World.cell? at h2
    cases hq : W.heap[q]? with
    | none => simp [hq] at h2
    | some o => exact row_lt hq
theorem StI.keep {W W' : World} {Bs Bl : Nat} {a b c : Int} {so : Option Addr} {cap : Nat} {rs : List Rc} {X : Nat → Prop} (h : StI W Bs Bl a b c so cap rs) (k : Kept W W' X) (hX : ∀ i, stR Bs Bl so rs.length i → ¬ X i) : StI W' Bs Bl a b c so cap rs := by
  refine ⟨k.at h.bs (hX _ (.inr (.inl rfl))), k.at h.bl (hX _ (.inr (.inr (.inl rfl)))), fun j r hj => ?_, fun j hj => k.cell (hX _ (.inl rfl)) (h.tab j hj), h.ok, h.le⟩
  obtain ⟨q, off, h1, h2, h3, h4, h5, h6⟩ := h.rcd j r hj
  have hq : ¬ X q := hX _ (.inr (.inr (.inr ⟨by have := (List.getElem?_eq_some_iff.1 hj).1; omega, _, h1, rfl⟩)))
  exact ⟨q, off, h1, k.cell hq h2, k.cell hq h3, k.cell hq h4, k.cell hq h5, k.cell hq h6⟩
theorem StI.grown {W W' : World} {Bs Bl : Nat} {a b c : Int} {so : Option Addr} {cap : Nat} {rs : List Rc} (h : StI W Bs Bl a b c so cap rs) (g : W.grownBy W' none) : StI W' Bs Bl a b c so cap rs := h.keep (Kept.new g (fun _ => False)) (fun _ _ e => e)
def encS (x : Nat × Bp) : Array Value := #[.int .i64 (x.1 : Int), .pointer (some ⟨x.2.b, 0, none⟩)]
/-- A state that is handed on. -/
def StV (S : Sb) (rs : List Rc) (pre : List (Nat × Bp)) (x : Nat × Bp) (W : World) : Prop := x.1 = pre.length ∧ x.1 ≤ rn S rs ∧ BkAt W x.2 (fo S rs x.1) 4096
theorem StV.keep {S : Sb} {rs : List Rc} {pre : List (Nat × Bp)} {x : Nat × Bp} {A B : World} (h : StV S rs pre x A) (k : Kept A B (fun i => ¬ x.2.own i)) : StV S rs pre x B := ⟨h.1, h.2.1, h.2.2.far k (fun _ hi e => e hi)⟩
/-- Between two states. -/
structure StL (J : List (Nat × Bp) → (Nat → Prop) → World → Prop) (W wr : World) (Bs Bl a b c : Nat) (so : Option Addr) (cap : Nat) (rs : List Rc) (d k : Nat) (v : Int) (pre : List (Nat × Bp)) (p : Bp) : Prop where
  len : pre.length = k
  pb : p.b = d
  j : J pre p.own wr
  it : StI wr Bs Bl (a : Int) (b : Int) (c : Int) so cap rs
  own : ∀ i, p.own i → W.heap.size ≤ i
  sz : W.heap.size ≤ wr.heap.size
  st : (v = 0 ∧ k ≤ rn (nS a b c) rs ∧ BkAt wr p (fo (nS a b c) rs k) k) ∨ (v ≠ 0 ∧ k = rn (nS a b c) rs + 1)
def leftS (n : Nat) (q : Value) : Nat := match q with | .int _ i => n + 2 - i.toNat | _ => 0
theorem leftS_nat (n i : Nat) : leftS n (.int .i64 (i : Int)) = n + 2 - i := by simp [leftS]
set_option maxRecDepth 100000 in
set_option maxHeartbeats 4000000 in
theorem st_gen (n : Nat) (hn : 1 ≤ n) (l Bs Bl a b c : Nat) (ho : Gx.OkS a b c) (so : Option Addr) (cap : Nat) (rs : List Rc) (W : World) (hI : StI W Bs Bl a b c so cap rs) (J : List (Nat × Bp) → (Nat → Prop) → World → Prop) (Jx : List (Nat × Bp) → World → Prop) (hJ : Goes J)
    (hY : ∀ pre x O W1, J pre O W1 → StV (nS a b c) rs pre x W1 → (∀ i, x.2.own i → W.heap.size ≤ i ∧ i < W1.heap.size ∧ ¬ O i) → (∀ i, O i → W.heap.size ≤ i ∧ i < W1.heap.size) → YieldAt Fence.wide (n - 1) Tryz.prog l (encS x) W1 fun e W' =>
      (e = .returned (.bool true) ∧ J (pre ++ [x]) O W' ∧ Kept W1 W' (fun i => ¬ (O i ∨ stR Bs Bl so rs.length i))) ∨ (e = .returned (.bool false) ∧ Jx (pre ++ [x]) W'))
    (h0 : J [] (fun _ => False) W) :
    CallsIn Fence.wide n Tryz.prog 41 #[.func (.yield l) #[] #[], .pointer (some ⟨Bs, 0, none⟩), .pointer (some ⟨Bl, 0, none⟩)] W fun e W' => (∃ v, e = .returned v) ∧
      ((∃ xs O, xs.length = rn (nS a b c) rs + 1 ∧ J xs O W') ∨ (∃ pre, Jx pre W')) := by
  refine callsIn_of_wp Tryz.func41 rfl trivial ?_ rfl
  simp only [Tryz.ntmps41, List.size_toArray, List.length_cons, List.length_nil, Nat.reduceAdd, Nat.reduceSub, Array.replicate_succ, Array.replicate_zero, List.push_toArray, List.append_toArray, List.nil_append, List.cons_append]
  have hRan := ran_is (nS a b c) rs
  have HN := hide (new_ok a b c ho W hI.tab.lt)
  have s0 := cell_row hI.bs 0
  have s1 := cell_row hI.bs 1
  have s2 := cell_row hI.bs 2
  simp at s0 s1 s2
  have hle := hI.le
  have HAp : Hid (∀ wr p k r, StI wr Bs Bl (a : Int) (b : Int) (c : Int) so cap rs → BkAt wr p (fo (nS a b c) rs k) k → k ≤ 10000 → r.Ok → Calls Tryz.prog 39 #[.pointer (some ⟨p.b, 0, none⟩), .agg #[.int .i64 r.k, .int .u32 r.i, .int .i64 r.s, .int .i64 r.u, .int .i64 r.c]] wr fun e w' => e = .returned (.int .i64 (appE (fo (nS a b c) rs k) r)) ∧ ∃ q, BkAt w' q (app (fo (nS a b c) rs k) r) (k + 1) ∧ Bst wr w' p q) := fun wr p k r h1 h2 h3 h4 => apply_any h2 (fo_ok (nS_ok ho) rs k) (by omega) r h4 h1.tab
  have HCo : Hid (∀ wr p k, BkAt wr p (fo (nS a b c) rs k) k → Calls Tryz.prog 42 #[.pointer (some ⟨p.b, 0, none⟩)] wr fun e w' => ∃ q : Bp, e = .returned (.pointer (some ⟨q.b, 0, none⟩)) ∧ BkAt w' q (fo (nS a b c) rs k) 4096 ∧ wr.grownBy w' none ∧ (∀ i, q.own i → wr.heap.size ≤ i)) := fun wr p k h => copy_any h (fo_ok (nS_ok ho) rs k).wk
  have HR := hide hRan
  have HI := hide hI
  clear hI hRan
  unfold limV at HN
  gi_wp2_with fail
  refine ⟨trivial, ?_⟩
  refine (callsIn_wide.2 HN.out).mono ?_
  rintro e w1 ⟨p, rfl, k1, k2, k3⟩
  obtain ⟨d, hd⟩ : ∃ d, d = p.b := ⟨_, rfl⟩
  rw [← hd]
  have HL : Hid (StL J W w1 Bs Bl a b c so cap rs d 0 0 [] p) := ⟨rfl, hd.symm, hJ _ _ _ _ _ h0 (Kept.new k2 _) (fun i hi => .inr (k3 i hi)), HI.out.grown k2, k3, k2.size, .inl ⟨rfl, Nat.zero_le _, k1⟩⟩
  clear k1 k2 k3 HN hd s0 s1 s2 h0
  gi_wp2
  gi_loopw [5, 6] (fun q5 q6 wr => ∃ (k : Nat) (v : Int), q5 = .int .i64 v ∧ q6 = .int .i64 (k : Int) ∧ Hid (∃ pre p, StL J W wr Bs Bl a b c so cap rs d k v pre p)) (fun _ q6 _ => leftS (rn (nS a b c) rs) q6)
  case atStart => exact ⟨0, 0, rfl, rfl, _, _, HL.out⟩
  case round =>
    clear HL
    obtain ⟨k, v, rfl, rfl, HP⟩ := hrel
    obtain ⟨pre, p, hL⟩ := HP.out
    clear HP
    rcases hL.st with ⟨rfl, hk, hb⟩ | ⟨hv, hk⟩
    · have HC := hide (HCo.out wr p k hb)
      rw [hL.pb] at HC
      have HB := hide hb
      have HL := hide hL
      have hk10 : k ≤ 10000 := by have := HR.out.le; omega
      clear hL hb
      gi_wp2_with fail
      refine ⟨trivial, ?_⟩
      refine (callsIn_wide.2 HC.out).mono ?_
      rintro e w2 ⟨q, rfl, q1, q2, q3⟩
      have hj2 := hJ _ _ _ _ _ HL.out.j (Kept.new q2 _) (fun i hi => .inl hi)
      have hsz2 := q2.size
      have hszW := HL.out.sz
      have hpl := HB.out.lt
      obtain ⟨fn, tmps, assign, body, hy, hRd⟩ := hY pre (k, q) p.own w2 hj2 ⟨HL.out.len.symm, hk, q1⟩ (fun i hi => ⟨Nat.le_trans hszW (q3 i hi), q1.lt i hi, fun e => by have := q3 i hi; have := hpl i e; omega⟩) (fun i hi => ⟨HL.out.own i hi, Nat.lt_of_lt_of_le (hpl i hi) hsz2⟩)
      simp only [encS] at hy
      have HQ := hide (And.intro (HB.out.then q2) (HL.out.it.grown q2))
      clear q1 q2 q3 hj2 hpl HC
      gi_wp2
      refine hRd.mono ?_
      rintro e W3 (⟨rfl, hJ3, hk3⟩ | ⟨rfl, hJx3⟩)
      · have hit3 := HQ.out.2.keep hk3 (fun i hi e => e (.inr hi))
        have hbk3 := HQ.out.1.far hk3 (fun i hi e => e (.inl hi))
        have hbl := cell_row hit3.bl 0
        simp at hbl
        have hs3 := hk3.size
        have H3 := hide (And.intro hJ3 (And.intro hit3 hbk3))
        clear hJ3 hk3 hit3 hbk3 HQ hRd hy
        by_cases hkl : k = rs.length
        · have hkl2 : ((k : Int) == (rs.length : Int)) = true := by simp [hkl]
          have hkl3 : decide ((k : Int) = (rs.length : Int)) = true := by simp [hkl]
          have hE := HR.out.end_ hk hkl
          have HE := hide (And.intro hE.1 (And.intro HL.out.len H3.out.1))
          clear HL H3 hE HB
          subst hkl
          gi_wp2
          refine bodyPost_ret (results_none rfl _ _ _) rfl ?_
          exact ⟨⟨_, rfl⟩, .inl ⟨_, _, by simp [HE.out.2.1, HE.out.1], HE.out.2.2⟩⟩
        · have hkl1 : k < rs.length := by have := HR.out.le; omega
          have hkl2 : ((k : Int) == (rs.length : Int)) = false := by simp; omega
          have hkl3 : decide ((k : Int) = (rs.length : Int)) = false := by simp; omega
          obtain ⟨r, hr⟩ : ∃ r, rs[k]? = some r := ⟨rs[k]'hkl1, List.getElem?_eq_getElem _⟩
          obtain ⟨rb, off, rfl, c0, c1, c2, c3, c4⟩ := H3.out.2.1.rcd k r hr
          have hi1 : (k : Int) < (rs.length : Int) := by omega
          have hi0 : (0 : Int) ≤ (k : Int) := by omega
          have HA := hide (HAp.out W3 p k r H3.out.2.1 H3.out.2.2 hk10 (H3.out.2.1.ok r (List.mem_of_getElem? hr)))
          rw [HL.out.pb] at HA
          have HRr := hide hr
          clear hkl hr
          gi_wp2_with fail
          refine ⟨trivial, ?_⟩
          refine (callsIn_wide.2 HA.out).mono ?_
          rintro e w4 ⟨rfl, q', g1, g2⟩
          have hn1 : k + 1 ≤ rn (nS a b c) rs ∨ (appE (fo (nS a b c) rs k) r ≠ 0 ∧ rn (nS a b c) rs = k) := by
            by_cases he : appE (fo (nS a b c) rs k) r = 0
            · exact .inl (HR.out.step hk HRr.out he)
            · exact .inr ⟨he, (HR.out.stop hk HRr.out he).1⟩
          have hF : Hid (∃ pre p, StL J W w4 Bs Bl a b c (some ⟨rb, off, none⟩) cap rs d (k + 1) (appE (fo (nS a b c) rs k) r) pre p) := by
            refine ⟨pre ++ [(k, q)], q', ⟨by simp [HL.out.len], g2.b.trans HL.out.pb, hJ _ _ _ _ _ H3.out.1 g2.kept g2.own, H3.out.2.1.keep g2.kept (fun i hi e => ?_), fun i hi => ?_, Nat.le_trans hszW (Nat.le_trans hsz2 (Nat.le_trans hs3 g2.kept.size)), ?_⟩⟩
            · have h1 := HL.out.own i e
              have h2 := HI.out.lt i hi
              omega
            · rcases g2.own i hi with e | e
              · exact HL.out.own i e
              · omega
            · rcases hn1 with h | ⟨h, h2⟩
              · refine .inl ⟨?_, h, by rw [fo_succ HRr.out]; exact g1⟩
                exact HR.out.ok k r HRr.out (by omega)
              · exact .inr ⟨h, by omega⟩
          generalize appE (fo (nS a b c) rs k) r = v at *
          have hw1 : IntKind.i64.wrap ((k : Int) + 1) = (k : Int) + 1 := by rw [IntKind.wrap_i64]; omega
          clear hn1 g1 g2 HA c0 c1 c2 c3 c4
          gi_wp2
          go_roundw
          case rel => exact ⟨k + 1, v, rfl, by simp, hF.out⟩
          case measure =>
            have e1 := leftS_nat (rn (nS a b c) rs) (k + 1)
            have e2 := leftS_nat (rn (nS a b c) rs) k
            rw [show ((k : Int) + 1) = (((k + 1 : Nat)) : Int) by omega, e1, e2]
            omega
      · gi_wp2
        refine bodyPost_ret (results_none rfl _ _ _) rfl ?_
        exact ⟨⟨_, rfl⟩, .inr ⟨_, hJx3⟩⟩
    · have f1 : (v == 0) = false := by simpa using hv
      have f2 : decide (v = 0) = false := by simpa using hv
      have HE := hide (And.intro hk (And.intro hL.len hL.j))
      clear hv hL hk
      gi_wp2
      go_end0
      exact ⟨⟨_, rfl⟩, .inl ⟨_, _, HE.out.2.1.trans HE.out.1, HE.out.2.2⟩⟩
/-- All states, each as it is handed on. -/
theorem st_seq (n : Nat) (hn : 1 ≤ n) (Bs Bl a b c : Nat) (ho : Gx.OkS a b c) (so : Option Addr) (cap : Nat) (rs : List Rc) (W : World) (hI : StI W Bs Bl a b c so cap rs) :
    SeqW Fence.wide n Tryz.prog 41 #[.pointer (some ⟨Bs, 0, none⟩), .pointer (some ⟨Bl, 0, none⟩)] encS (stR Bs Bl so rs.length) (fun x => x.2.own) (StV (nS a b c) rs) (fun xs => xs.length = rn (nS a b c) rs + 1) W := fun l J Jx hJ _hJx hY h0 =>
  st_gen n hn l Bs Bl a b c ho so cap rs W hI J Jx hJ hY h0
end Go.Proofs.YtinkkocleognbaaGreatDoor
/- Two books side by side; ticks, numbers alone. -/
namespace Go.Proofs.YtinkkocleognbaaGreatDoor
open Go.RowKit
section
variable {w W W' : World} {b c : Nat} {S S' : Sb} {K K' : Nat} {p q q' : Bp} {Bs : List (Nat × List Value × TypeId)}
theorem Lk.same (h : Lk w W b S K p Bs) (hq : Lk w W c S K' q Bs) (hw : S.Wk) : Calls Tryz.prog 34 #[.pointer (some ⟨b, 0, none⟩), .pointer (some ⟨c, 0, none⟩)] W fun e w' => e = .returned (.bool true) ∧ W.grownBy w' none := by
  have := same_eq h.bk hq.bk hw
  rw [h.eb, hq.eb] at this
  exact this
end
end Go.Proofs.YtinkkocleognbaaGreatDoor
/- Books alike but for the group; their rows copied. -/
namespace Go.Proofs.YtinkkocleognbaaGreatDoor
open Go.RowKit
attribute [local go_sem ↓] Go.wp_at_zero Go.wp_at_succ
attribute [local go_sem] Oper.semAt_some
set_option maxHeartbeats 4000000 in
theorem shape_any {w : World} {p : Bp} {S : Sb} {K : Nat} (h : BkAt w p S K) : Calls Tryz.prog 44 #[.pointer (some ⟨p.b, 0, none⟩)] w fun e w' => e = .returned (limV S.a S.b S.c) ∧ w.grownBy w' none := by
  have m0 := Bm.start h [.int .i64 0, .int .i64 0, .int .i64 0] 23
  have HC1 := hide m0.bk.isNone
  have a0 := m0.ff.a0
  have a1 := m0.ff.a1
  have a2 := m0.ff.a2
  obtain ⟨d0, d1, d2, d3⟩ := box3 m0.box
  have HM := hide m0
  clear h m0
  unfold limV
  go_enter Tryz.func44, Tryz.ntmps44
  go_wp2_with fail
  refine HC1.out.mono ?_
  rintro e w1 ⟨rfl, rfl⟩
  go_wp2
  obtain ⟨r1, r2⟩ := row3 _ HM.out.box (.int .i64 (S.a : Int)) (.int .i64 (S.b : Int)) (.int .i64 (S.c : Int))
  first
    | exact bodyPost_ret (results_cell_row rfl _ _ w.heap.size 23 #[.int .i64 (S.a : Int), .int .i64 (S.b : Int), .int .i64 (S.c : Int)] (0, 0) _ rfl r1 Tryz.underlying23 rfl (by kernel_rfl)) rfl ⟨rfl, gn_set (gn_set (gn_set HM.out.gr (Nat.le_refl _)) (Nat.le_refl _)) (Nat.le_refl _)⟩
    | exact bodyPost_ret (results_cell_row rfl _ _ w.heap.size 23 #[.int .i64 (S.a : Int), .int .i64 (S.b : Int), .int .i64 (S.c : Int)] (0, 0) _ rfl (heap_alloc_new w _) Tryz.underlying23 rfl (by kernel_rfl)) rfl ⟨rfl, grown_alloc _ _⟩
end Go.Proofs.YtinkkocleognbaaGreatDoor
/- Texts joined: Rp3. -/
namespace Go.Proofs.YtinkkocleognbaaGreatDoor
/- Rows of records; their clone; States. -/
open Go.RowKit Go.Shelf
attribute [local go_sem ↓] Go.wp_at_zero Go.wp_at_succ
attribute [local go_sem] Oper.semAt_some
theorem info47 : (Tryz.prog.info? 47).map (fun i => (i.zero, i.size, i.bytes)) = some (some (.agg #[.int .i64 0, .int .u32 0, .int .i64 0, .int .i64 0, .int .i64 0]), 5, 40) := by kernel_rfl
def rcc (r : Rc) : List Value := [.int .i64 r.k, .int .u32 r.i, .int .i64 r.s, .int .i64 r.u, .int .i64 r.c]
def rcs (l : List Rc) : List Value := l.flatMap rcc
theorem rcc_length (r : Rc) : (rcc r).length = 5 := rfl
theorem rcs_cons (r : Rc) (l : List Rc) : rcs (r :: l) = rcc r ++ rcs l := by simp [rcs]
theorem rcs_append (l m : List Rc) : rcs (l ++ m) = rcs l ++ rcs m := by simp [rcs]
theorem rcs_snoc (l : List Rc) (r : Rc) : rcs (l ++ [r]) = rcs l ++ rcc r := by rw [rcs_append]; simp [rcs]
theorem rcs_length (l : List Rc) : (rcs l).length = l.length * 5 := by
  induction l with
  | nil => rfl
  | cons r l ih => rw [rcs_cons, List.length_append, ih, rcc_length, List.length_cons]; omega
theorem rcs_at {l : List Rc} {i : Nat} {r : Rc} (h : l[i]? = some r) {o : Nat} (ho : o < 5) : (rcs l)[i * 5 + o]? = (rcc r)[o]? := by
  induction l generalizing i with
  | nil => simp at h
  | cons q l ih =>
    rw [rcs_cons]
    cases i with
    | zero =>
      simp at h
      subst h
      rw [List.getElem?_append_left (by rw [rcc_length]; omega)]
      simp
    | succ i =>
      rw [List.getElem?_append_right (by rw [rcc_length]; omega), rcc_length, show (i + 1) * 5 + o - 5 = i * 5 + o by omega]
      exact ih (by simpa using h)
theorem rcs_get {l : List Rc} {j : Nat} {u : Value} (h : (rcs l)[j]? = some u) : ∃ r, l[j / 5]? = some r ∧ (rcc r)[j % 5]? = some u := by
  have hj : j < l.length * 5 := by have := (List.getElem?_eq_some_iff.1 h).1; rwa [rcs_length] at this
  have hi : j / 5 < l.length := by omega
  refine ⟨l[j / 5], List.getElem?_eq_getElem hi, ?_⟩
  rw [← rcs_at (List.getElem?_eq_getElem hi) (Nat.mod_lt _ (by decide)), show j / 5 * 5 + j % 5 = j by omega]
  exact h
theorem rcs_one (l : List Rc) : ∀ u ∈ rcs l, u.oneCell' = true := by
  intro u hu
  simp only [rcs, List.mem_flatMap] at hu
  obtain ⟨r, -, hu⟩ := hu
  simp [rcc] at hu
  rcases hu with rfl | rfl | rfl | rfl | rfl <;> rfl
theorem RecsAt.cells {w : World} {g off : Nat} {l : List Rc} (h : RecsAt w (some ⟨g, off, none⟩) l) : ∀ j u, (rcs l)[j]? = some u → w.cell? (Addr.add ⟨g, off, none⟩ j) = some u := by
  intro j u hj
  obtain ⟨r, h1, h2⟩ := rcs_get hj
  obtain ⟨b, o, e, c0, c1, c2, c3, c4⟩ := h _ r h1
  cases e
  rw [Addr.add_lit]
  have hm : j % 5 < 5 := Nat.mod_lt _ (by decide)
  have hd : j = j / 5 * 5 + j % 5 := by omega
  generalize hk : j % 5 = k at *
  generalize j / 5 = i at *
  rw [hd]
  have : k = 0 ∨ k = 1 ∨ k = 2 ∨ k = 3 ∨ k = 4 := by omega
  rcases this with rfl | rfl | rfl | rfl | rfl <;> simp [rcc] at h2 <;> subst h2
  · exact c0
  · exact c1
  · exact c2
  · exact c3
  · exact c4
/-- A row of one's own, as records that lie somewhere. -/
theorem recs_own {w : World} {B0 : Nat} {so : Option Addr} {cap : Nat} {l : List Rc} (h : w.ownsRow B0 47 5 (.slice so l.length cap) l.length (rcs l)) : RecsAt w so l ∧ ∀ a, l.length ≠ 0 → so = some a → B0 ≤ a.block := by
  refine ⟨fun j r hj => ?_, fun a hn ha => ?_⟩
  · have hl := (List.getElem?_eq_some_iff.1 hj).1
    obtain ⟨g, c, cur, e1, e2, e3, e4, e5, e6, e7⟩ := Ix.own_row h (by omega)
    cases e1
    have key : ∀ o u, o < 5 → (rcc r)[o]? = some u → w.cell? ⟨g, 0 + j * 5 + o, none⟩ = some u := fun o u ho hu => by
      rw [Nat.zero_add]
      exact Ix.own_cell e3 e7 ((rcs_at hj ho).trans hu)
    exact ⟨g, 0, rfl, key 0 _ (by decide) rfl, key 1 _ (by decide) rfl, key 2 _ (by decide) rfl, key 3 _ (by decide) rfl, key 4 _ (by decide) rfl⟩
  · obtain ⟨g, c, cur, e1, e2, -⟩ := Ix.own_row h (by omega)
    cases e1
    cases ha
    exact e2
theorem recs_none {w : World} {l : List Rc} (h : RecsAt w none l) : l = [] := by
  cases l with
  | nil => rfl
  | cons r l => obtain ⟨b, o, e, -⟩ := h 0 r rfl; cases e
theorem RecsAt.form {w : World} {ao : Option Addr} {l : List Rc} (h : RecsAt w ao l) (hl : l ≠ []) : ∃ g off, ao = some ⟨g, off, none⟩ := by
  cases l with
  | nil => exact absurd rfl hl
  | cons r l => obtain ⟨b, o, e, -⟩ := h 0 r rfl; exact ⟨b, o, e⟩
theorem RecsAt.nil (w : World) (ao : Option Addr) : RecsAt w ao [] := fun j r h => by simp at h
set_option maxHeartbeats 4000000 in
theorem clone_any {w : World} {ao : Option Addr} {cap : Nat} {l : List Rc} (h : RecsAt w ao l) (hl : l.length ≤ 65536) : Calls Tryz.prog 40 #[.slice ao l.length cap] w fun e w' => ∃ so c2, e = .returned (.slice so l.length c2) ∧ w'.ownsRow w.heap.size 47 5 (.slice so l.length c2) l.length (rcs l) ∧ w.grownBy w' none := by
  have q48 : ∀ (w : World) (a : Option Addr) (n c n' c' : Nat), (binOp .eql 48 (.slice a n c) (.slice none n' c')).run Tryz.prog w = .ok (.bool a.isNone) w := fun w a n c n' c' => Lib.run_eql_slice_nil w _ _ a n c n' c' Tryz.underlying48
  cases ao with
  | none =>
    have h0 := recs_none h
    subst h0
    clear h
    go_enter Tryz.func40, Tryz.ntmps40
    go_wp2
    go_ret
    exact ⟨none, 0, rfl, World.ownsRow_nil _ _ _ _, grown_refl _ _⟩
  | some a =>
    have hcells : ∀ j u, (rcs l)[j]? = some u → w.cell? (Addr.add a j) = some u := by
      by_cases h0 : l = []
      · subst h0; intro j u hj; simp [rcs] at hj
      · obtain ⟨g, off, e⟩ := h.form h0
        cases e
        exact h.cells
    obtain ⟨i0, hi0, hz0, hz1, hz2⟩ := info_parts info47
    have HI0 := hide (And.intro hi0 (And.intro hz0 (And.intro hz1 hz2)))
    have HC := hide (And.intro hcells (rcs_one l))
    clear hi0 hz0 hz1 hz2 hcells h
    go_enter Tryz.func40, Tryz.ntmps40
    have hr0 : (w.alloc (.cells #[] 47)).ownsRow w.heap.size 47 5 (.slice (some ⟨w.heap.size, 0, none⟩) 0 0) 0 [] := ⟨rfl, Or.inr ⟨w.heap.size, 0, #[], rfl, Nat.le_refl _, heap_alloc_new w _, Nat.le_refl _, by unfold maxLen; omega, rfl, rfl⟩⟩
    have g1 := World.grownBy_alloc w (.cells #[] 47) none
    have hc1 : ∀ j u, (rcs l)[j]? = some u → (w.alloc (.cells #[] 47)).cell? (Addr.add a j) = some u := fun j u hj => g1.cell (HC.out.1 j u hj) (by simp)
    have HR := hide (And.intro hr0 (And.intro g1 hc1))
    clear hr0 g1 hc1
    go_wp2_with (at_builtin; refine wpList_append_own _ rfl (.tmp 5) (.tmp 6) 48 rfl w.heap.size 47 i0 (.agg #[.int .i64 0, .int .u32 0, .int .i64 0, .int .i64 0, .int .i64 0]) 5 40 Tryz.underlying48 HI0.out.1 HI0.out.2.1 HI0.out.2.2.1 HI0.out.2.2.2 rfl (by decide) (.slice (some ⟨w.heap.size, 0, none⟩) 0 0) 0 [] rfl HR.out.1 a l.length cap (rcs l) rfl (rcs_length l) HR.out.2.2 HC.out.2 (by unfold maxLen; omega) (by omega) HR.out.2.1.size ?_)
    intro v' w' ho hg hv
    clear hv
    obtain ⟨so, c2, rfl, -⟩ := Ix.own_form ho
    have H := hide (And.intro ho (grown_then HR.out.2.1 hg (fun j e => Or.inl (by cases e; exact Nat.le_refl _))))
    clear ho hg
    go_wp2
    go_ret
    exact ⟨so, c2, rfl, H.out.1, H.out.2⟩
/-- What States answers: what goes through the states, its blocks new but for the table. -/
def StF (w : World) (B0 : Nat) (v : Value) (a b c : Int) (rs : List Rc) : Prop := ∃ Bs Bl so cap, v = .func (.func 41) #[] #[.pointer (some ⟨Bs, 0, none⟩), .pointer (some ⟨Bl, 0, none⟩)] ∧ StI w Bs Bl a b c so cap rs ∧ ∀ i, stR Bs Bl so rs.length i → i = 0 ∨ B0 ≤ i
set_option maxHeartbeats 4000000 in
theorem states_any {w : World} {a b c : Int} {ao : Option Addr} {cap : Nat} {rs : List Rc} (hR : RecsAt w ao rs) (hO : ∀ r ∈ rs, r.Ok) (hl : rs.length ≤ 10000) (hT : Rk.Tab w) : Calls Tryz.prog 12 #[.agg #[.int .i64 a, .int .i64 b, .int .i64 c], .slice ao rs.length cap] w fun e w' => ∃ v, e = .returned v ∧ StF w' w.heap.size v a b c rs ∧ w.grownBy w' none := by
  have hmf : ∀ (fn : Fn) (first cap : Array Value) (w : World), (Instr.makeFunc fn first cap).run Tryz.prog w = .ok (.func fn first cap) w := fun _ _ _ _ => rfl
  have g1 := grown_alloc w (.cells [Value.int .i64 a, .int .i64 b, .int .i64 c].toArray 23)
  have b1 := heap_alloc_new w (.cells [Value.int .i64 a, .int .i64 b, .int .i64 c].toArray 23)
  obtain ⟨W1, hW1⟩ : ∃ W1, W1 = w.alloc (.cells [Value.int .i64 a, .int .i64 b, .int .i64 c].toArray 23) := ⟨_, rfl⟩
  rw [← hW1] at g1 b1
  have z1 : W1.heap.size = w.heap.size + 1 := by rw [hW1]; exact World.size_alloc ..
  have g2 := grown_alloc W1 (.cells [Value.slice ao rs.length cap].toArray 48)
  have b2 := heap_alloc_new W1 (.cells [Value.slice ao rs.length cap].toArray 48)
  obtain ⟨W2, hW2⟩ : ∃ W2, W2 = W1.alloc (.cells [Value.slice ao rs.length cap].toArray 48) := ⟨_, rfl⟩
  rw [← hW2] at g2 b2
  have z2 : W2.heap.size = w.heap.size + 2 := by rw [hW2, World.size_alloc, z1]
  rw [z1] at b2
  have g3 := grown_trans g1 g2
  have hcl := clone_any (cap := cap) (hR.grown g3) (by omega)
  have hc0 := cell_row b2 0
  have hf0 := free_row b2 0
  have b1' := (g2.block _ (row_lt b1) (by simp)).trans b1
  simp at hc0
  have HX : Hid (∀ (w' : World) (so : Option Addr) (c2 : Nat), w'.ownsRow W2.heap.size 47 5 (.slice so rs.length c2) rs.length (rcs rs) → W2.grownBy w' none → w'.cell? ⟨w.heap.size + 1, 0, none⟩ = some (.slice ao rs.length cap) ∧ w'.frozen? ⟨w.heap.size + 1, 0, none⟩ = false ∧ StF (w'.setCell ⟨w.heap.size + 1, 0, none⟩ (.slice so rs.length c2)) w.heap.size (.func (.func 41) #[] #[.pointer (some ⟨w.heap.size, 0, none⟩), .pointer (some ⟨w.heap.size + 1, 0, none⟩)]) a b c rs ∧ w.grownBy (w'.setCell ⟨w.heap.size + 1, 0, none⟩ (.slice so rs.length c2)) none) := by
    intro w' so c2 ho hg
    have b2' := (hg.block _ (row_lt b2) (by simp)).trans b2
    have hk := kept_setCell w' (w.heap.size + 1) 0 (.slice so rs.length c2)
    obtain ⟨r1, r2⟩ := recs_own ho
    refine ⟨?_, free_row b2' 0, ⟨w.heap.size, w.heap.size + 1, so, c2, rfl, ⟨?_, ?_, ?_, ?_, hO, hl⟩, ?_⟩, ?_⟩
    · have := cell_row b2' 0; simpa using this
    · exact hk.at ((hg.block _ (row_lt b1') (by simp)).trans b1') (by omega)
    · have := row_setCell b2' 0 (.slice so rs.length c2); simpa using this
    · intro j r hj
      obtain ⟨q, off, h1, h2, h3, h4, h5, h6⟩ := r1 j r hj
      have hq : ¬ q = w.heap.size + 1 := by
        have := r2 _ (by have := (List.getElem?_eq_some_iff.1 hj).1; omega) h1
        simp only at this
        omega
      exact ⟨q, off, h1, hk.cell hq h2, hk.cell hq h3, hk.cell hq h4, hk.cell hq h5, hk.cell hq h6⟩
    · exact fun j hj => hk.cell (by omega) (((hT.new g3).new hg) j hj)
    · rintro i (rfl | rfl | rfl | ⟨hn, a, ha, rfl⟩)
      · exact .inl rfl
      · exact .inr (Nat.le_refl _)
      · exact .inr (by omega)
      · have := r2 a hn ha; exact .inr (by omega)
    · exact gn_set (grown_trans g3 hg) (by omega)
  have HC := hide hcl
  rw [hW2, hW1] at HC
  rw [hW2, hW1] at HX
  clear hcl g1 b1 z1 g2 b2 z2 g3 hf0 b1' hc0 hR hO hT hW2 hW1
  go_enter Tryz.func12, Tryz.ntmps12
  go_wp2_with fail
  refine HC.out.mono ?_
  rintro e w3 ⟨so, c2, rfl, h1, h2⟩
  obtain ⟨x1, x2, x3, x4⟩ := HX.out w3 so c2 h1 h2
  have HF := hide (And.intro x3 x4)
  clear x3 x4 HX HC h1 h2
  go_wp2
  go_ret
  exact ⟨_, rfl, HF.out⟩
end Go.Proofs.YtinkkocleognbaaGreatDoor
