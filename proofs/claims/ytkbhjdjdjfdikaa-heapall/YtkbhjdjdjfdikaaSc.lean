/- A row of items put behind an empty one; a range left by break, of which the end is told. -/
import Derived.Test.YtkbhjdjdjfdikaaSa
import Derived.Test.YtkbhjdjdjfdikaaRk
import Derived.RangeFuncNested
namespace Go.Proofs.Ytkbhjdjdjfdikaa
open Go.RowKit Ap Go.Shelf
theorem append_items {w : World} {ops : Array Oper} {rest : List Oper} {o : Oper} {a : Act} {Q : Exit → Act → World → Prop} (hgd : o.guard = none) (s x : Operand)
    (ho : o.op = .call { callee := .builtin .append, args := #[s, x], argTypes := #[35, 35] }) (base : Nat) (v : Value) (hs : a.eval s = v) (hown : w.ownsRow base 50 2 v 0 [])
    (vl : Value) (B0 : Nat) (X : List (Nat × Int)) (hx : a.eval x = vl) (hr : w.ownsRow B0 50 2 vl X.length (ecells X)) (hX : X.length ≤ 65536) (hbase : base ≤ w.heap.size)
    (h : ∀ so cap w', w'.ownsRow base 50 2 (.slice so X.length cap) X.length (ecells X) → w.grownBy w' v.ownBlock → wpList Try.prog ops Q rest (a.put o.dst (.slice so X.length cap)) w') : wpList Try.prog ops Q (o :: rest) a w := by
  obtain ⟨i0, hi, hz0, hz1, hz2⟩ := info_parts info50
  rcases hr.2 with ⟨h1, h0⟩ | ⟨g, cap, cur, hv, hb, hg, hn, hm, hsz, ht⟩
  · subst h1
    have hX0 : X = [] := by simpa using h0
    subst hX0
    obtain ⟨so, cap, rfl, -⟩ := own_formA hown
    exact wpList_append_own_none hgd s x 35 ho base 50 i0 2 Try.underlying35 hi _ 0 [] hs hown hx (h so cap w hown (grown_refl w _))
  · subst hv
    have hg' : w.heap[g]? = some (.cells cur.toList.toArray 50 (0, 0)) := by simpa using hg
    have hcells : ∀ j u, (ecells X)[j]? = some u → w.cell? (Addr.add ⟨g, 0, none⟩ j) = some u := fun j u hj => by rw [Addr.add_lit, Nat.zero_add]; exact own_cell hg' ht hj
    have hone : ∀ u ∈ ecells X, u.oneCell' = true := fun u hu => by
      simp [ecells] at hu
      obtain ⟨a, b, _, hu⟩ := hu
      rcases hu with rfl | rfl <;> rfl
    refine wpList_append_own _ hgd s x 35 ho base 50 i0 (.agg #[.int .i64 0, .int .i64 0]) 2 16 Try.underlying35 hi hz0 hz1 hz2 rfl (by decide) v 0 [] hs hown ⟨g, 0, none⟩ X.length cap (ecells X) hx (ecells_length X) hcells hone (by unfold maxLen; omega) (by omega) hbase ?_
    intro v' w' h1 h2 _
    rw [Nat.zero_add, List.nil_append] at h1
    obtain ⟨so, c2, rfl, -⟩ := own_formA h1
    exact h so c2 w' h1 h2
/-- A range whose body may be left by break, or by a return that cannot be; at its end all has come. -/
theorem wpIn_rangeFunc_brkE {F : Fence} {n : Nat} {P : Program} {α : Type} {g : Operand} {ps : Array Tmp} {assign body : Code} {Q : Exit → Act → World → Prop} {a : Act} {w : World} (id : Nat)
    (hro : F.round = none) (h1 : 1 ≤ n) {gf : Nat} {lb : Array Value} (hg : a.eval g = .func (.func gf) #[] lb) (hFg : F.fn gf) (eg : ∀ args w, (callFunc gf args).run P w = .ok (.enter gf args) w)
    {encs : α → Array Value} {Kp : World → World → Prop} {S Sp : List α → Prop} {N : Nat} {w0 : World} (hseq : SeqStopsK F (n - 1) P gf lb encs Kp S Sp N w0)
    (hKt : ∀ {A B C : World}, Kp A B → Kp B C → Kp A C) (hKr : ∀ A, Kp A A) (hKb : ∀ (W : World) (l : Nat) (o o' : Obj), w.heap.size ≤ l → W.heap[l]? = some o → o.isCells = false → o.isWalk = false → Kp W (W.putObj l o')) (hb0 : Below w0.heap.size w0 w) (hps : ∀ x, (encs x).size = ps.size)
    (I : List α → World → Prop) (X : World → Prop) (hI : OwnFrom w.heap.size I) (hX : OwnFrom w.heap.size (fun (_ : Unit) => X)) (h0 : I [] w) (hIX : ∀ pre W, S pre → I pre W → X W) (a₁ : α → Act)
    (hassign : ∀ (l : Nat) (x : α) (W : World) (K : Act → World → Prop), K (a₁ x) W →
      assign.wpIn (F.inRound l) (n - 1 - 1) P (Exit.then K (fun _ _ _ => False)) { tmps := (ps.zip (encs x)).foldl (fun t (p, v) => t.setIfInBounds p v) a.tmps, defers := [] } W)
    (hbody : ∀ (l : Nat) (pre : List α) (x : α) (W : World), w.heap.size ≤ l → (∃ r, W.heap[l]? = some (.loop r)) → I pre W → pre.length < N → body.wpIn (F.inRound l) (n - 1 - 1) P (ownPostG w.heap.size Kp I (fun c s W => (c = .exit id ∧ X W) ∨ (c = .ret ∧ ¬ Sp s)) (pre ++ [x]) W) (a₁ x) W)
    (hend : ∀ (D : Nat) (W : World), w.heap.size ≤ D → X W → W.heap[D]? = some (.deferred (some [])) → Q .normal { a with defers := { target := .collected D, args := #[] } :: a.defers } W) :
    (Code.rangeFunc g ps assign body).wpIn F n P (Exit.inBlock id Q) a w := by
  refine wpIn_rangeFunc_ownH hro h1 hg hFg eg hseq (fun h k => hKt h k) hKb hb0 hps I (fun c s W => (c = .exit id ∧ X W) ∨ (c = .ret ∧ ¬ Sp s)) hI (fun c s W W' row hs hgr hr => hs.imp (fun h => ⟨h.1, hX () W W' row h.2 hgr hr⟩) (fun h => h)) h0 (fun x a' _ => a' = a₁ x) (fun _ _ _ _ _ _ hs _ _ => hs)
    (fun l pre x W K hi hK => hassign l x W K (hK _ _ (KeepsFrom.refl _ _) (hKr W) hi rfl)) (fun l pre x a' W hl hr hi e hlt => by subst e; exact hbody l pre x W hl hr hi hlt) ?_ ?_
  · intro D xs W hD hs hi hK
    exact hend D W hD (hIX xs W hs hi) hK
  · rintro D c pre W hD hsp (⟨rfl, hx⟩ | ⟨_, hx⟩) hK
    · refine wpIn_exit ?_
      show (if id = id then Q .normal _ W else Q (.exit id) _ W)
      rw [if_pos rfl]
      exact hend D W hD hx hK
    · exact absurd hsp hx
/-- What the iterator needs of a step. -/
def KpE (B : Nat) (so : Option Addr) (n : Nat) (W W' : World) : Prop := W'.heap[B]? = W.heap[B]? ∧ ∀ a, so = some a → n ≠ 0 → W'.heap[a.block]? = W.heap[a.block]?
theorem KpE.trans {B n : Nat} {so : Option Addr} {a b c : World} (h : KpE B so n a b) (k : KpE B so n b c) : KpE B so n a c := ⟨k.1.trans h.1, fun x e hn => (k.2 x e hn).trans (h.2 x e hn)⟩
theorem KpE.refl (B : Nat) (so : Option Addr) (n : Nat) (W : World) : KpE B so n W W := ⟨rfl, fun _ _ _ => rfl⟩
theorem ItE.keep {W W' : World} {B : Nat} {so : Option Addr} {cap : Nat} {X : List (Nat × Int)} (h : ItE W B so cap X) (k : KpE B so X.length W W') : ItE W' B so cap X :=
  ⟨k.1.trans h.box, h.le, fun i hi => by
    obtain ⟨g, e, h1, h2⟩ := h.row i hi
    have hs := k.2 _ e (by omega)
    refine ⟨g, e, ?_, ?_⟩
    · rw [← h1]; unfold World.cell?; rw [hs]
    · rw [← h2]; unfold World.cell?; rw [hs]⟩
theorem ItE.lt {W : World} {B : Nat} {so : Option Addr} {cap : Nat} {X : List (Nat × Int)} (h : ItE W B so cap X) : B < W.heap.size ∧ ∀ a, so = some a → X.length ≠ 0 → a.block < W.heap.size := by
  refine ⟨row_lt h.box, fun a e hn => ?_⟩
  obtain ⟨g, e2, h1, -⟩ := h.row 0 (by omega)
  rw [e] at e2
  cases e2
  unfold World.cell? at h1
  split at h1
  · rename_i hh; exact row_lt hh
  · cases h1
end Go.Proofs.Ytkbhjdjdjfdikaa
