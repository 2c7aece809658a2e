/- Texts joined: Ep1, Ka0, Ka1, Lh, Kb. -/
import Derived.Test.YtofdijaipjkfbaaGreatDoorJkAy
import Derived.Test.YtofdijaipjkfbaaGreatDoorJkAi
/- WalEpochs: the walk. -/
namespace Go.Proofs.YtofdijaipjkfbaaGreatDoor
open Go.RowKit Ap
attribute [local go_sem ↓] Go.wp_at_zero Go.wp_at_succ
theorem pN7 : pN 7 = 8 := by decide
theorem u1e : U64 1 := ⟨by decide, by decide⟩
theorem u0e : U64 0 := ⟨by decide, by decide⟩
theorem ep_drop (xs : List Nat) (h : xs.length ≤ 512) : (bytesAt (splice (zs ((8 + 1) * 64)) (1 * 64 + 0) xs) (1 * 64) (8 * 64)).drop xs.length = zs (512 - xs.length) := by
  have hz : (zs ((8 + 1) * 64)).length = 576 := List.length_replicate ..
  have hz2 : (zs (8 * 64)).length = 512 := List.length_replicate ..
  rw [bytesAt_splice _ _ _ _ _ (by omega) (by omega), bytesAt_zs _ _ _ (by omega)]
  apply List.ext_getElem?
  intro i
  rw [List.getElem?_drop, splice_get _ _ _ _ (by omega), if_neg (by omega)]
  simp only [zs, List.getElem?_replicate]
  by_cases hi : i < 512 - xs.length
  · rw [if_pos (by omega), if_pos hi]
  · rw [if_neg (by omega), if_neg hi]
/-- At an epoch's begin. -/
def EpO (w wr : World) (b r l j : Nat) : Prop := ∃ k c D g, FrS w wr 8 b r k c D g g.la [] ∧ g.l = l ∧ c ≤ 40 * j ∧ (j = 0 → D = zs ((8 + 1) * 64) ∧ g.e = 1)
/-- In an epoch. -/
structure EpI (w wr : World) (b r l : Nat) (k : Dk) (c : Nat) (D : List Nat) (E S : Int) (v : Value) (t : Nat) (g : Lg) (fs : List Fm.Fr) (bs : List (List Nat)) : Prop where
  fr : FrS w wr 8 b r k c D g S fs
  l : g.l = l
  e : g.e = E
  a : g.a = 0
  ins : InS w wr v bs
  bod : Bod E S fs bs
  few : bs.length ≤ t
theorem LgAt.away {w0 w w' : World} {n b r F C : Nat} {s : Dv} {k : Dk} {D : List Nat} {W : List Wt} {g : Lg} {T : Nat → Prop} (h : LgAt w0 w n b r F C s k D W g) (hk : Kept w w' T) (hS : ∀ i, T i → ¬ (foot k W i ∨ i = b ∨ lfoot g i) ∧ w0.heap.size ≤ i ∧ i ≠ r) : LgAt w0 w' n b r F C s k D W g :=
  ⟨h.dev.away hk (fun i hi => ⟨fun e => (hS i hi).1 (.inl e), fun e => (hS i hi).1 (.inr (.inl e)), (hS i hi).2.1⟩), h.rg.kept hk (fun e => (hS r e).2.2 rfl), hk.at h.head (fun e => (hS _ e).1 (.inr (.inr (.inl rfl)))), owns_off h.row hk (fun i hi e => (hS i e).1 (.inr (.inr (.inr hi)))), h.off, h.low, h.byt, h.fit, h.hFC, h.few, h.ue, h.ul, h.ud, h.rlow⟩
theorem FrS.away {w0 w w' : World} {N b r c : Nat} {k : Dk} {D : List Nat} {g : Lg} {S : Int} {fs : List Fm.Fr} {T : Nat → Prop} (h : FrS w0 w N b r k c D g S fs) (hk : Kept w w' T) (hS : ∀ i, T i → ¬ (foot k [] i ∨ i = b ∨ lfoot g i) ∧ w0.heap.size ≤ i ∧ i ≠ r) : FrS w0 w' N b r k c D g S fs := ⟨h.at_.away hk hS, h.hist, h.byt⟩
theorem EpI.next {w wr w' : World} {b r l : Nat} {k : Dk} {c : Nat} {D : List Nat} {E S : Int} {v : Value} {t : Nat} {g : Lg} {fs : List Fm.Fr} {bs : List (List Nat)} (h : EpI w wr b r l k c D E S v t g fs bs) (hg : wr.grownBy w' none) : EpI w w' b r l k c D E S v (t + 1) g fs bs := ⟨h.fr.then hg, h.l, h.e, h.a, h.ins.grown hg, h.bod, by have := h.few; omega⟩
theorem owns_low {w : World} {base e s : Nat} {v : Value} {n : Nat} {xs : List Value} (h : w.ownsRow base e s v n xs) {i : Nat} (hi : v.ownBlock = some i) : base ≤ i := by
  rcases h.2 with ⟨rfl, _⟩ | ⟨g, cap, cur, rfl, hb, _⟩
  · simp [Value.ownBlock] at hi
  · simp [Value.ownBlock] at hi
    omega
/-- A body more was taken. -/
theorem EpI.more {w wr w6 w7 : World} {b r l : Nat} {k : Dk} {c : Nat} {D : List Nat} {E S : Int} {v v6 v7 : Value} {t : Nat} {g : Lg} {fs : List Fm.Fr} {bs : List (List Nat)} {x : List Nat} {ao : Option Addr} {ac : Nat} {vs : List Value} {ob : Obj}
    (h : EpI w wr b r l k c D E S v t g fs bs) (f6 : FrS w w6 8 b r k c D (g.more x v6) S (fs ++ [g.fr x])) (h1 : w6.ownsRow w.heap.size 39 1 v bs.length vs) (h2 : ∀ (j : Nat) (y : List Nat), bs[j]? = some y → ∃ ao c, vs[j]? = some (.slice ao y.length c) ∧ At w ao y)
    (o7 : w7.ownsRow w.heap.size 39 1 v7 (bs.length + 1) (vs ++ [.slice ao x.length ac])) (g7 : (w6.alloc ob).grownBy w7 v.ownBlock) (hax : At w ao x) : EpI w w7 b r l k c D E S v7 (t + 1) (g.more x v6) (fs ++ [g.fr x]) (bs ++ [x]) := by
  have hI : InS w w6 v bs := ⟨vs, h1, h2⟩
  have hk : Kept w6 w7 (fun i => v.ownBlock = some i) := (Kept.new (World.grownBy_alloc w6 ob none) _).trans (Kept.of g7 (fun j e _ => e)) (fun i _ e => e)
  have hla := h.fr.hist.la
  refine ⟨f6.away hk ?_, h.l, h.e, h.a, ?_, h.bod.snoc ?_, by rw [List.length_append]; have := h.few; simp; omega⟩
  · intro i hi
    refine ⟨hI.off f6.at_ i hi, owns_low h1 hi, ?_⟩
    rintro rfl
    obtain ⟨cs, hcs⟩ := Fm.own_cells h1 hi
    have := f6.at_.rg.head
    rw [hcs] at this
    simp at this
  · exact InS.push (w := w6) (v := v) hI (fun vs' h' => by
      have : vs' = vs := by
        rcases h'.2 with ⟨e1, e2⟩ | ⟨g1, c1, u1, e1, _, e3, _, _, _, e7⟩
        · have a1 := h'.1; have a2 := h1.1
          rw [e2] at a1 a2
          have b1 : vs' = [] := List.eq_nil_of_length_eq_zero (by simpa using a1)
          have b2 : vs = [] := List.eq_nil_of_length_eq_zero (by simpa using a2)
          rw [b1, b2]
        · rcases h1.2 with ⟨f1, f2⟩ | ⟨g2, c2, u2, f1, _, f3, _, _, _, f7⟩
          · rw [e1] at f1; cases f1
          · rw [e1] at f1
            cases f1
            rw [e3] at f3
            cases f3
            rw [← e7, ← f7]
      rw [this]; exact o7) hax
  · show (⟨g.e, g.la + 1, ints x⟩ : Fm.Fr) = _
    rw [h.e, hla, h.bod.1]
/-- What the end of an epoch finds. -/
theorem ep_found {w wr : World} {b r c : Nat} {k : Dk} {D : List Nat} {g : Lg} {E S : Int} {fs : List Fm.Fr} {bs : List (List Nat)} {ys : List Fm.El} (h : FrS w wr 8 b r k c D g S fs) (hb : g.bs = []) (he : g.e = E) (hB : Bod E S fs bs) (hS : 0 ≤ S) (hy : Fm.frs ys = Fm.rowF E S (ints (bytesAt D (1 * 64) (8 * 64)))) :
    bs.length ≤ ys.length ∧ ys.length ≤ 1000 ∧ S + (bs.length : Int) < 18446744073709551616 ∧ 0 ≤ S ∧ ∀ (j : Nat) (x : List Nat), bs[j]? = some x → ∃ y : Fm.El, ys[j]? = some y ∧ y.f = ⟨E, S + (j : Int) + 1, ints x⟩ := by
  have hX := bytes_bytesAt h.byt (1 * 64) (8 * 64)
  have hp := h.hist.pre hb hX
  rw [he, ← hy] at hp
  have hl := hp.length_le
  rw [Fm.frs_length, hB.1] at hl
  have h1 := Fm.fend_len (Fm.rowF E S (ints (bytesAt D (1 * 64) (8 * 64))))
  have h2 := Fm.rowF_end E _ S (ints (bytesAt D (1 * 64) (8 * 64))) (Nat.le_refl _) (ints_byt hX)
  rw [ints_length, h.xlen] at h2
  rw [← hy, Fm.frs_length] at h1
  have h3 := h.at_.ul
  have h4 := h.hist.la
  rw [hB.1] at h4
  have h5 := h.hist
  refine ⟨hl, by rw [hy] at h1; omega, by have := h3.2; omega, hS, ?_⟩
  · intro j x hx
    have h6 := hB.2 j x hx
    obtain ⟨rest, hr⟩ := hp
    have h7 : (Fm.frs ys)[j]? = some ⟨E, S + (j : Int) + 1, ints x⟩ := by
      rw [← hr, List.getElem?_append_left (List.getElem?_eq_some_iff.1 h6).1]; exact h6
    unfold Fm.frs at h7
    rw [List.getElem?_map] at h7
    cases hyj : ys[j]? with
    | none => rw [hyj] at h7; simp at h7
    | some y => rw [hyj] at h7; simp at h7; exact ⟨y, rfl, h7⟩
end Go.Proofs.YtofdijaipjkfbaaGreatDoor
/- What a crash leaves of a log: numbers alone. -/
namespace Go.Proofs.YtofdijaipjkfbaaGreatDoor
open Go.RowKit Ap
/-- Writes that wait fit the disk. -/
def FitA (n : Nat) (A : List Pr) : Prop := ∀ x ∈ A, x.1 < n ∧ x.2.length = 64 ∧ Bytes x.2
/-- At these places all that waits has the byte that lies there. -/
def Firm (D : List Nat) (A : List Pr) (o m : Nat) : Prop := ∀ x ∈ A, ∀ i, i < 64 → o ≤ x.1 * 64 + i → x.1 * 64 + i < o + m → x.2[i]? = D[x.1 * 64 + i]?
theorem FitA.nil (n : Nat) : FitA n [] := fun x h => by simp at h
theorem Firm.nil (D : List Nat) (o m : Nat) : Firm D [] o m := fun x h => by simp at h
theorem splice_at (D ys : List Nat) (off i : Nat) (h : off + ys.length ≤ D.length) : (splice D off ys)[i]? = if off ≤ i ∧ i < off + ys.length then ys[i - off]? else D[i]? := splice_get D ys off i h
theorem stlP_firm {n o m : Nat} (L : Nat → Nat) {D : List Nat} {A : List Pr} (hD : D.length = n * 64) (hA : FitA n A) (hF : Firm D A o m) (hB : Bytes D) (j : Nat) :
    (stlP 64 L D A j).length = n * 64 ∧ Bytes (stlP 64 L D A j) ∧ ∀ p, o ≤ p → p < o + m → (stlP 64 L D A j)[p]? = D[p]? := by
  induction j with
  | zero => exact ⟨hD, hB, fun p _ _ => rfl⟩
  | succ j ih =>
    rw [stlP]
    split
    · rename_i x hx
      have hm := List.mem_of_getElem? hx
      obtain ⟨h1, h2, h3⟩ := hA x hm
      have h4 : (x.2.take (L j)).length ≤ 64 := by rw [List.length_take]; omega
      have h5 : x.1 * 64 + (x.2.take (L j)).length ≤ (stlP 64 L D A j).length := by rw [ih.1]; omega
      refine ⟨by rw [length_splice _ _ _ h5]; exact ih.1, bytes_splice ih.2.1 (fun y hy => h3 y (List.mem_of_mem_take hy)) _, ?_⟩
      intro p hp1 hp2
      rw [splice_at _ _ _ _ h5]
      split
      · rename_i hc
        rw [List.length_take] at hc
        have e : x.1 * 64 + (p - x.1 * 64) = p := by omega
        have h6 := hF x hm (p - x.1 * 64) (by omega) (by omega) (by omega)
        rw [e] at h6
        rw [List.getElem?_take, if_pos (by omega)]
        exact h6
      · exact ih.2.2 p hp1 hp2
    · exact ih
theorem wgo_le (f : Nat → Bool) : ∀ (m k : Nat) (s : Dv), (wgo f m k s).1 ≤ m ∧ ((wgo f m k s).2.1 = 0 → (wgo f m k s).1 = m) ∧ ((wgo f m k s).2.1 = 0 ∨ (wgo f m k s).2.1 = 60)
  | 0, k, s => ⟨Nat.le_refl _, fun _ => rfl, .inl rfl⟩
  | m + 1, k, s => by
    have h1 := wgo_le f m (k + 1) s.next
    have h2 := wgo_le f m (k + 1) s.next.next
    rw [wgo]
    split
    · split
      · exact ⟨by have := h1.1; simp only; omega, fun h => by have := h1.2.1 h; simp only; omega, h1.2.2⟩
      · split
        · exact ⟨by have := h2.1; simp only; omega, fun h => by have := h2.2.1 h; simp only; omega, h2.2.2⟩
        · exact ⟨Nat.zero_le _, fun h => by simp at h, .inr rfl⟩
    · exact ⟨Nat.zero_le _, fun h => by simp at h, .inr rfl⟩
/-- The pieces of a write behind what is firm. -/
theorem pcs_firm {n F a m j : Nat} {D : List Nat} {A : List Pr} {xs : List Nat} (hD : D.length = n * 64) (hA : FitA n A) (hB : Bytes D) (hF : Firm D A (F * 64) a) (hx : Bytes xs) (hm : xs.length = m) (hfit : F * 64 + a + m ≤ n * 64) (hj : j ≤ pcn 64 a m) :
    FitA n (A ++ pcs 64 F a (splice (now 64 D A) (F * 64 + a) xs) j) ∧ Firm D (A ++ pcs 64 F a (splice (now 64 D A) (F * 64 + a) xs) j) (F * 64) a := by
  obtain ⟨h1, h2, h3⟩ := stlP_firm (fun _ => 64) hD hA hF hB A.length
  have h4 : (splice (now 64 D A) (F * 64 + a) xs).length = n * 64 := by rw [length_splice _ _ _ (by show _ ≤ (stlP _ _ _ _ _).length; omega)]; exact h1
  have h5 : Bytes (splice (now 64 D A) (F * 64 + a) xs) := bytes_splice h2 hx _
  have hin : ∀ x ∈ pcs 64 F a (splice (now 64 D A) (F * 64 + a) xs) j, ∃ i, i < pcn 64 a m ∧ x = (F + (a / 64 + i), secOf 64 (splice (now 64 D A) (F * 64 + a) xs) (F + (a / 64 + i))) := by
    intro x hx
    unfold pcs at hx
    obtain ⟨i, hi, rfl⟩ := List.mem_map.1 hx
    exact ⟨i, by have := List.mem_range.1 hi; omega, rfl⟩
  constructor
  · intro x hx
    rcases List.mem_append.1 hx with e | e
    · exact hA x e
    · obtain ⟨i, hi, rfl⟩ := hin x e
      have h6 := (pc_facts (size := 64) (at_ := a) (by omega) hi).2.2.2
      have h7 : F + (a / 64 + i) < n := by
        have : (F + (a / 64 + i)) * 64 = F * 64 + (a / 64 + i) * 64 := Nat.add_mul _ _ _
        omega
      exact ⟨h7, secOf_length h4 h7, fun y hy => h5 y (List.mem_of_mem_drop (List.mem_of_mem_take hy))⟩
  · intro x hx i hi h8 h9
    rcases List.mem_append.1 hx with e | e
    · exact hF x e i hi h8 h9
    · obtain ⟨t, ht, rfl⟩ := hin x e
      simp only at h8 h9 ⊢
      rw [secOf_get, if_pos hi, splice_at _ _ _ _ (by show _ ≤ (stlP _ _ _ _ _).length; omega), if_neg (by omega)]
      exact h3 _ h8 h9
/-- What a flush comes to: all of it, or what is firm stays so. -/
theorem flA_firm {n F a m : Nat} {s : Dv} {D : List Nat} {A : List Pr} {xs : List Nat} (hD : D.length = n * 64) (hA : FitA n A) (hB : Bytes D) (hF : Firm D A (F * 64) a) (hx : Bytes xs) (hm : xs.length = m) (hfit : F * 64 + a + m ≤ n * 64) :
    ((flA F a xs s D A).1 = 0 ∧ (flA F a xs s D A).2.2 = (splice (now 64 D A) (F * 64 + a) xs, [])) ∨
    ((flA F a xs s D A).1 = 60 ∧ (flA F a xs s D A).2.2.1 = D ∧ FitA n (flA F a xs s D A).2.2.2 ∧ Firm D (flA F a xs s D A).2.2.2 (F * 64) a ∧ (flA F a xs s D A).2.2.2.length ≤ A.length + pcn 64 a m) := by
  subst hm
  obtain ⟨h1, h2, h3⟩ := wgo_le (full 64 a xs.length) (pcn 64 a xs.length) 0 s
  have h4 := pcs_firm hD hA hB hF hx rfl hfit h1
  obtain ⟨h5, h6, h7⟩ := stlP_firm (fun _ => 64) hD hA hF hB A.length
  unfold flA
  simp only
  by_cases hq : (wgo (full 64 a xs.length) (pcn 64 a xs.length) 0 s).2.1 = 0
  · rw [if_pos hq]
    split
    · refine .inl ⟨rfl, ?_⟩
      show syncA 64 _ = _
      unfold syncA
      have := now_all (n := n) (size := 64) (F := F) (at_ := a) (D := D) (P := A) (b := xs) (by omega) h5 hfit
      rw [h2 hq]
      exact congrArg (fun z => (z, ([] : List Pr))) this
    · exact .inr ⟨rfl, rfl, h4.1, h4.2, by rw [List.length_append, pcs_length]; omega⟩
  · rw [if_neg hq]
    exact .inr ⟨h3.resolve_left hq, rfl, h4.1, h4.2, by rw [List.length_append, pcs_length]; omega⟩
/-- A history speaks of the bytes below alone. -/
theorem Hist.cong {g : Lg} {S : Int} {fs : List Fm.Fr} {X Y : List Nat} (h : Hist g S fs X) (hl : Y.length = X.length) (he : ∀ i, i < g.a → Y[i]? = X[i]?) : Hist g S fs Y := by
  have e : Y.take g.a = X.take g.a := by
    apply List.ext_getElem?
    intro i
    rw [List.getElem?_take, List.getElem?_take]
    split
    · exact he i (by assumption)
    · rfl
  exact ⟨h.chn, h.la, by rw [e]; exact h.bytes, by rw [hl]; exact h.fit, h.du, h.le⟩
/-- What is durable, as a history of its own. -/
theorem Hist.dur {g : Lg} {S : Int} {fs0 fs1 : List Fm.Fr} {X : List Nat} (h : Hist g S (fs0 ++ fs1) X) (hb : X.take g.a = Fm.nats (Fm.outs fs0)) : Hist { g with v := .slice none 0 0, bs := [], la := S + fs0.length, du := S + fs0.length } S fs0 X := by
  refine ⟨fun i f hf => h.chn i f ?_, rfl, by simp [hb], h.fit, fun _ => rfl, Int.le_refl _⟩
  rw [List.getElem?_append_left (List.getElem?_eq_some_iff.1 hf).1]
  exact hf
end Go.Proofs.YtofdijaipjkfbaaGreatDoor
/- WalKept: a log over a device that may be armed. -/
namespace Go.Proofs.YtofdijaipjkfbaaGreatDoor
open Go.RowKit Ap
/-- A log over a device that may be armed: what is durable (fs0), what is not (fs1). -/
structure KpS (w0 w : World) (N b r : Nat) (k : Dk) (s : Dv) (D : List Nat) (W : List Wt) (g : Lg) (S : Int) (fs0 fs1 : List Fm.Fr) : Prop where
  at_ : LgAt w0 w (N + 1) b r 1 N s k D W g
  hist : Hist g S (fs0 ++ fs1) (bytesAt D (1 * 64) (N * 64))
  dur : (bytesAt D (1 * 64) (N * 64)).take g.a = Fm.nats (Fm.outs fs0)
  du : g.du = S + fs0.length
  byt : Bytes D
  fit : FitA (N + 1) (abs W)
  firm : Firm D (abs W) (1 * 64) g.a
section
variable {w0 w w' : World} {N b r c : Nat} {k k' : Dk} {s s' : Dv} {D : List Nat} {W W' : List Wt} {g : Lg} {S : Int} {fs0 fs1 : List Fm.Fr}
theorem KpS.then (h : KpS w0 w N b r k s D W g S fs0 fs1) (hg : w.grownBy w' none) : KpS w0 w' N b r k s D W g S fs0 fs1 := ⟨h.at_.then hg, h.hist, h.dur, h.du, h.byt, h.fit, h.firm⟩
theorem KpS.of {l : Nat} {E : Int} (h : FrS w0 w N b r k c D (Lg.new l E S) S []) : KpS w0 w N b r k (frD c) D [] (Lg.new l E S) S [] [] :=
  ⟨h.at_, h.hist, rfl, by simp [Lg.new], h.byt, FitA.nil _, Firm.nil _ _ _⟩
/-- The device's own state was changed. -/
theorem KpS.dset (h : KpS w0 w N b r k s D W g S fs0 fs1) (hg : w.grownBy w' (some b)) (hd : DvAt w' b k.d s') : KpS w0 w' N b r k s' D W g S fs0 fs1 :=
  ⟨h.at_.dv (h.at_.dev.dset hg hd) (DvM.row hg), h.hist, h.dur, h.du, h.byt, h.fit, h.firm⟩
theorem KpS.xlen (h : KpS w0 w N b r k s D W g S fs0 fs1) : (bytesAt D (1 * 64) (N * 64)).length = N * 64 := bytesAt_length (by have := h.at_.dlen; omega)
/-- Another disk, alike where it is firm. -/
theorem firm_bytesAt {D D' : List Nat} {a : Nat} (_hl : D'.length = D.length) (he : ∀ p, 1 * 64 ≤ p → p < 1 * 64 + a → D'[p]? = D[p]?) : ∀ i, i < a → (bytesAt D' (1 * 64) (N * 64))[i]? = (bytesAt D (1 * 64) (N * 64))[i]? := by
  intro i hi
  rw [bytesAt_get, bytesAt_get]
  split
  · exact he _ (by omega) (by omega)
  · rfl
theorem take_alike {X Y : List Nat} {a : Nat} (he : ∀ i, i < a → Y[i]? = X[i]?) : Y.take a = X.take a := by
  apply List.ext_getElem?
  intro i
  rw [List.getElem?_take, List.getElem?_take]
  split
  · exact he i (by assumption)
  · rfl
theorem kAppend (h : KpS w0 w N b r k s D W g S fs0 fs1) (hT : Fm.Cr.Tab w0) (hw0 : 0 < w0.heap.size) (ao : Option Addr) (m cap : Nat) (xs : List Nat) (hm : xs.length = m) (hat : At w ao xs) (hb : Bytes xs) (hc : m ≤ cap) (hcm : cap ≤ maxLen) :
    Calls Tryz.prog 19 #[.pointer (some ⟨g.l, 0, none⟩), .slice ao m cap] w fun e w' =>
      (apC N g m ≠ 0 ∧ e = .returned (.tuple #[.int .u64 0, .int .i64 (apC N g m)]) ∧ w.grownBy w' none) ∨
      (apC N g m = 0 ∧ e = .returned (.tuple #[.int .u64 (g.la + 1), .int .i64 0]) ∧ ∃ v', KpS w0 w' N b r k s D W (g.more xs v') S fs0 (fs1 ++ [g.fr xs]) ∧ LgM w w' g (g.more xs v')) := by
  refine (lAppend_at h.at_ hT hw0 ao m cap xs hm hat hb hc hcm).mono ?_
  rintro e w' (h1 | ⟨h1, h2, v', h3, h4⟩)
  · exact .inl h1
  · refine .inr ⟨h1, h2, v', ⟨h3, ?_, h.dur, h.du, h.byt, h.fit, h.firm⟩, h4⟩
    have hq : ¬ 32 < m ∧ fitsB N g (m : Int) = true := by
      unfold apC at h1
      split at h1
      · simp at h1
      · split at h1
        · exact ⟨by assumption, by assumption⟩
        · simp at h1
    have hf := hq.2
    unfold fitsB at hf
    have hf := of_decide_eq_true hf
    rw [← List.append_assoc]
    exact h.hist.more xs v' (fr_ok h.at_ hf.2.2.1 hb) (by omega)
/-- What a flush leaves. -/
structure KfP (w0 w w' : World) (N b r : Nat) (k : Dk) (W : List Wt) (g : Lg) (s : Dv) (S : Int) (fs : List Fm.Fr) (c : Int) (k' : Dk) (s' : Dv) (D' : List Nat) (W' : List Wt) (g' : Lg) (fs0 fs1 : List Fm.Fr) : Prop where
  st : KpS w0 w' N b r k' s' D' W' g' S fs0 fs1
  fs : fs0 ++ fs1 = fs
  gl : g'.l = g.l
  ge : g'.e = g.e
  gla : g'.la = g.la
  code : (c = 0 ∧ g'.du = g'.la) ∨ (c = 60 ∧ g'.du ≠ g'.la)
  cnt : s'.cnt ≤ s.cnt + 25
  len : W'.length ≤ W.length + 11
  mov : LgW w w' b k k' W W' g g'
theorem flA_cnt (F a : Nat) (xs : List Nat) (s : Dv) (D : List Nat) (A : List Pr) (h : pcn 64 a xs.length ≤ 11) : (flA F a xs s D A).2.1.cnt ≤ s.cnt + 25 := by
  have h1 := wgo_cnt (full 64 a xs.length) (pcn 64 a xs.length) 0 s
  unfold flA
  simp only
  have h2 := (wgo (full 64 a xs.length) (pcn 64 a xs.length) 0 s).2.2.next_le
  split
  · split
    · simp only; omega
    · simp only; omega
  · simp only; omega
theorem kFlush (h : KpS w0 w N b r k s D W g S fs0 fs1) (hN : N ≤ 8) (hW : W.length ≤ 800000) (hcnt : s.cnt ≤ 90000) :
    Calls Tryz.prog 21 #[.pointer (some ⟨g.l, 0, none⟩)] w fun e w' => ∃ c k' s' D' W' g' fs0' fs1', e = .returned (.int .i64 c) ∧ KfP w0 w w' N b r k W g s S (fs0 ++ fs1) c k' s' D' W' g' fs0' fs1' := by
  have hD := h.at_.dlen
  have hfit := h.at_.fit
  have hp := pcn64 g.a g.bs.length (by omega)
  have hcn := flA_cnt 1 g.a g.bs s D (abs W) hp
  have hff := flA_firm (n := N + 1) (F := 1) (a := g.a) (m := g.bs.length) (s := s) hD h.fit h.byt h.firm h.at_.byt rfl (by omega)
  refine (lFlush_at h.at_ hW hcnt).mono ?_
  rintro e w' (⟨h1, rfl, h3⟩ | ⟨h1, rfl, k', W', p⟩)
  · exact ⟨0, k, s, D, W, g, fs0, fs1, rfl, h.then h3, rfl, rfl, rfl, rfl, .inl ⟨rfl, h1⟩, by omega, by omega, LgM.lw (LgM.new h3)⟩
  · rcases hff with ⟨hc, hD2⟩ | ⟨hc, hD2, hA2, hF2, hl2⟩
    · have e1 : (flA 1 g.a g.bs s D (abs W)).2.2.1 = splice (now 64 D (abs W)) (1 * 64 + g.a) g.bs := congrArg Prod.fst hD2
      have e2 : (flA 1 g.a g.bs s D (abs W)).2.2.2 = [] := congrArg Prod.snd hD2
      have p1 := p.at_
      have p2 := p.abs
      have p3 := p.mov
      rw [hc, e1] at p1
      rw [e2] at p2
      rw [hc] at p3 ⊢
      have hW2 := abs_nil p2
      subst hW2
      obtain ⟨h5, h6, h7⟩ := stlP_firm (fun _ => 64) hD h.fit h.firm h.byt (abs W).length
      have h8 : (bytesAt (now 64 D (abs W)) (1 * 64) (N * 64)).length = N * 64 := bytesAt_length (by show _ ≤ (stlP _ _ _ _ _).length; rw [h5]; omega)
      have hH : Hist g S (fs0 ++ fs1) (bytesAt (now 64 D (abs W)) (1 * 64) (N * 64)) := h.hist.cong (by rw [h8, h.xlen]) (firm_bytesAt (by show (stlP _ _ _ _ _).length = _; rw [h5, hD]) h7)
      have hH2 := hH.flush (FlG.fl g) (by rw [h8]; exact hfit)
      rw [← bytesAt_splice (now 64 D (abs W)) g.bs (1 * 64) g.a (N * 64) hfit (by show _ ≤ (stlP _ _ _ _ _).length; rw [h5]; omega)] at hH2
      refine ⟨0, k', _, _, [], g.fl 0, fs0 ++ fs1, [], rfl, ⟨p1, by rw [List.append_nil]; exact hH2, ?_, ?_, bytes_splice h6 h.at_.byt _, FitA.nil _, Firm.nil _ _ _⟩, List.append_nil _, rfl, rfl, rfl, .inl ⟨rfl, rfl⟩, hcn, by simp, p3⟩
      · have := hH2.bytes
        rw [← this]
        show _ = _ ++ []
        rw [List.append_nil]
      · have := hH2.la
        exact this
    · have p1 := p.at_
      have p2 := p.abs
      have p3 := p.mov
      rw [hc, hD2, Lg.fl_no g (by decide)] at p1
      rw [hc, Lg.fl_no g (by decide)] at p3
      rw [hc]
      rw [← p2] at hA2 hF2 hl2
      rw [abs_length, abs_length] at hl2
      refine ⟨60, k', _, D, W', g, fs0, fs1, rfl, ⟨p1, h.hist, h.dur, h.du, h.byt, hA2, hF2⟩, rfl, rfl, rfl, rfl, .inr ⟨rfl, h1⟩, hcn, by omega, p3⟩
/-- The power comes again. -/
theorem kRestart (h : KpS w0 w N b r k s D W g S fs0 fs1) (fo : Option Addr) (m cap : Nat) (F : List (Int × Int)) (hm : F.length = m) (hF : FatesAt w fo F) (hfo : ∀ a, fo = some a → 0 < F.length → a.block ≠ k.db ∧ a.block ≠ b) :
    Calls Tryz.prog 11 #[.pointer (some ⟨b, 0, none⟩), .slice fo m cap] w fun e w' => e = .returned (.int .i64 0) ∧ ∃ D', FrS w0 w' N b r k.calm 0 D' g S (fs0 ++ fs1) ∧ (bytesAt D' (1 * 64) (N * 64)).take g.a = Fm.nats (Fm.outs fs0) ∧ LgW w w' b k k.calm W [] g g := by
  have hD := h.at_.dlen
  refine (restart_any h.at_.dev fo m cap F hm hF hfo).mono ?_
  rintro e w' ⟨rfl, D', h1, h2, h3⟩
  obtain ⟨e1, -⟩ := Prod.mk.inj h3
  obtain ⟨h5, h6, h7⟩ := stlP_firm (fun i => lasts (fateK F i) (fateA F i) 64) hD h.fit h.firm h.byt (abs W).length
  rw [← e1] at h5 h6 h7
  have he := firm_bytesAt (N := N) (a := g.a) (by rw [h5, hD]) h7
  have h8 : (bytesAt D' (1 * 64) (N * 64)).length = N * 64 := bytesAt_length (by rw [h5]; omega)
  refine ⟨rfl, D', ⟨h.at_.dv h1 h2, h.hist.cong (by rw [h8, h.xlen]) he, h6⟩, by rw [take_alike he]; exact h.dur, h2.lw⟩
/-- What is found of what is durable. -/
theorem ka_found {E : Int} {X : List Nat} {bs : List (List Nat)} {ys : List Fm.El} (h : Hist g S (fs0 ++ fs1) X) (hd : X.take g.a = Fm.nats (Fm.outs fs0)) (he : g.e = E) (hX : Bytes X) (hx5 : X.length ≤ 576) (hB : Bod E S (fs0 ++ fs1) bs) (hy : Fm.frs ys = Fm.rowF E S (ints X)) :
    fs0.length ≤ ys.length ∧ ys.length ≤ 1000 ∧ Fm.fend fs0 ≤ Fm.fend (Fm.rowF E S (ints X)) ∧ ∀ (j : Nat) (x : List Nat), (bs.take fs0.length)[j]? = some x → ∃ y : Fm.El, ys[j]? = some y ∧ y.f = ⟨E, S + (j : Int) + 1, ints x⟩ := by
  have hp := (h.dur hd).pre rfl hX
  rw [show ({ g with v := .slice none 0 0, bs := [], la := S + fs0.length, du := S + fs0.length } : Lg).e = E from he] at hp
  have hl := hp.length_le
  have h1 := Fm.fend_len (Fm.rowF E S (ints X))
  have h2 := Fm.rowF_end E _ S (ints X) (Nat.le_refl _) (ints_byt hX)
  rw [ints_length] at h2
  have hl2 : fs0.length ≤ ys.length := by
    have := congrArg List.length hy
    rw [Fm.frs_length] at this
    omega
  refine ⟨hl2, ?_, ?_, ?_⟩
  · have := congrArg List.length hy
    rw [Fm.frs_length] at this
    omega
  · obtain ⟨rest, hr⟩ := hp
    rw [← hr, Fm.fend_append]
    omega
  · intro j x hx
    rw [List.getElem?_take] at hx
    split at hx
    · rename_i hj
      have h6 := hB.2 j x hx
      rw [List.getElem?_append_left hj] at h6
      obtain ⟨rest, hr⟩ := hp
      have h7 : (Fm.frs ys)[j]? = some ⟨E, S + (j : Int) + 1, ints x⟩ := by
        rw [hy, ← hr, List.getElem?_append_left hj]; exact h6
      unfold Fm.frs at h7
      rw [List.getElem?_map] at h7
      cases hyj : ys[j]? with
      | none => rw [hyj] at h7; simp at h7
      | some y => rw [hyj] at h7; simp at h7; exact ⟨y, rfl, h7⟩
    · cases hx
end
end Go.Proofs.YtofdijaipjkfbaaGreatDoor
/- Rows of rows of bytes that came in, opened. -/
namespace Go.Proofs.YtofdijaipjkfbaaGreatDoor
open Go.ChangeShapes Go.WideShapes Go.ChangeAt Go.RowKit Go.Deep Ap
/-- Rows of bytes that came in. -/
def BRow (w : World) (ro : Option Addr) (R : List (List Nat)) : Prop := ∀ j xs, R[j]? = some xs → ∃ b o ao cap, ro = some ⟨b, o, none⟩ ∧ w.cell? ⟨b, o + j, none⟩ = some (.slice ao xs.length cap) ∧ At w ao xs ∧ (ao = none → xs.length = 0 ∧ cap = 0) ∧ xs.length ≤ 140737488355000 ∧ Bytes xs ∧ xs.length ≤ cap
theorem BRow.grown {w w' : World} {ro : Option Addr} {R : List (List Nat)} (h : BRow w ro R) (hg : w.grownBy w' none) : BRow w' ro R := by
  intro j xs hj
  obtain ⟨b, o, ao, cap, h1, h2, h3, h4⟩ := h j xs hj
  exact ⟨b, o, ao, cap, h1, hg.cell h2 (by simp), h3.grown hg, h4⟩
/-- Rows of such rows. -/
def BRow3 (w : World) (ro : Option Addr) (R : List (List (List Nat))) : Prop := ∀ j xs, R[j]? = some xs → ∃ b o ao cap, ro = some ⟨b, o, none⟩ ∧ w.cell? ⟨b, o + j, none⟩ = some (.slice ao xs.length cap) ∧ BRow w ao xs ∧ xs.length ≤ 140737488355328
theorem BRow3.grown {w w' : World} {ro : Option Addr} {R : List (List (List Nat))} (h : BRow3 w ro R) (hg : w.grownBy w' none) : BRow3 w' ro R := by
  intro j xs hj
  obtain ⟨b, o, ao, cap, h1, h2, h3, h4⟩ := h j xs hj
  exact ⟨b, o, ao, cap, h1, hg.cell h2 (by simp), h3.grown hg, h4⟩
theorem bytes60x : Tryz.prog.bytesOf 51 = 24 := by kernel_rfl
theorem cells60x : Tryz.prog.cellsOf 51 = 1 := by kernel_rfl
section
variable {H : Type} {enc : TypeId × Value → H}
set_option maxRecDepth 100000 in
theorem open_rowsB {w : World} {base fuel : Nat} {spare : Nat → Bool} {held : Bool} {cs : List Value} {x : DataW H × List MemPlace} (h : DataW.trod enc Tryz.prog w base spare held fuel 51 cs = some x) (hz : ∀ n ∈ x.1.weights Tryz.prog 51, n ≤ reachBytes) :
    ∃ ao cap R, cs = [.slice ao R.length cap] ∧ BRow w ao R ∧ R.length ≤ 140737488355328 := by
  rcases open_slice Tryz.underlying51 h with ⟨rfl, rfl⟩ | ⟨a, len, cap, m, n, D, Pl, rfl, hb, hl, hm, hmm, rfl, hx⟩
  · exact ⟨none, 0, [], rfl, fun j p hj => by simp at hj, by simp⟩
  · have hlm : len ≤ m := by rw [hmm]; split <;> omega
    have hw : ∀ i, i < len → ∀ n ∈ (D i).weights Tryz.prog 39, n ≤ reachBytes := fun i hi n hn => hz n (by
      simp only [DataW.weights, Tryz.underlying51]
      exact List.mem_cons_of_mem _ (List.mem_append_left _ (weights_all_mem (d := D i) (List.mem_map.2 ⟨i, by simpa using hi, rfl⟩) n hn)))
    have hsz : len * 24 ≤ reachBytes := by
      have := hz ((((List.range len).map D).length + ((List.range (m - len)).map fun j => D (len + j)).length) * Tryz.prog.bytesOf 39) (by simp [DataW.weights, Tryz.underlying51])
      rw [Tryz.bytes46] at this
      simp at this
      omega
    have hex : ∀ i, i < len → ∃ xs : List Nat, ∃ b o ao cap, some a = some (⟨b, o, none⟩ : Addr) ∧ w.cell? ⟨b, o + i, none⟩ = some (.slice ao xs.length cap) ∧ At w ao xs ∧ (ao = none → xs.length = 0 ∧ cap = 0) ∧ xs.length ≤ 140737488355000 ∧ Bytes xs ∧ xs.length ≤ cap := by
      intro i hi
      rw [Tryz.cells46] at hx
      have key : ∀ i, i < len → ∃ xs : List Nat, ∃ ao cap, w.cell? (a.add (i * 1)) = some (.slice ao xs.length cap) ∧ At w ao xs ∧ (ao = none → xs.length = 0 ∧ cap = 0) ∧ xs.length ≤ 140737488355000 ∧ Bytes xs ∧ xs.length ≤ cap := by
        intro i hi
        obtain ⟨cs', hc, ht⟩ := hx i (by omega)
        obtain ⟨_, hlen, hcell⟩ := World.cells?_some hc
        obtain ⟨bo, bn, cap, b, rfl, hB, _⟩ := Fm.open_bytes ht (hw i hi)
        have hl2 : (Fm.nats b).length = bn := by rw [Fm.nats_length]; exact hB.len
        refine ⟨Fm.nats b, bo, cap, by rw [hl2]; have := hcell 0 (by omega); simpa [Addr.add] using this, at_of_ints (by rw [ints_nats hB.byt]; exact hB.at_), by rw [hl2]; exact hB.nil, by rw [hl2]; have := hB.sm; omega, nats_bytes hB.byt, by rw [hl2]; exact hB.fits⟩
      obtain ⟨_, _, _, k0, _⟩ := key 0 (by omega)
      have ha : a = ⟨a.block, a.off, none⟩ := addr_flat (by simpa [Addr.add] using k0)
      obtain ⟨xs, ao, cap, k1, k2⟩ := key i hi
      refine ⟨xs, a.block, a.off, ao, cap, by rw [← ha], ?_, k2⟩
      rw [ha, Addr.add_lit, Nat.mul_one] at k1; exact k1
    obtain ⟨R, hF1, hF2⟩ : ∃ R : List (List Nat), R.length = len ∧ BRow w (some a) R := by
      clear hsz hx hz h hlm hmm hl hw
      induction len with
      | zero => exact ⟨[], rfl, fun j p hj => by simp at hj⟩
      | succ k ih =>
        obtain ⟨F, f1, f2⟩ := ih (fun i hi => hex i (by omega))
        obtain ⟨p, g1⟩ := hex k (by omega)
        refine ⟨F ++ [p], by simp [f1], ?_⟩
        intro j q hj
        by_cases hjk : j < F.length
        · rw [List.getElem?_append_left hjk] at hj; exact f2 j q hj
        · have hlt := (List.getElem?_eq_some_iff.1 hj).1
          have hjk2 : j = k := by simp at hlt; omega
          subst hjk2
          rw [List.getElem?_append_right (by omega), f1, Nat.sub_self] at hj
          simp at hj
          subst hj
          exact g1
    exact ⟨some a, cap, R, by rw [hF1], hF2, by rw [hF1]; unfold reachBytes at hsz; omega⟩
end
end Go.Proofs.YtofdijaipjkfbaaGreatDoor
/- Arguments opened: rows of bytes, of bools, of fates; CopyFates. -/
namespace Go.Proofs.YtofdijaipjkfbaaGreatDoor
open Go.ChangeShapes Go.WideShapes Go.ChangeAt Go.RowKit Go.Deep Ap
attribute [local go_sem ↓] Go.wp_at_zero Go.wp_at_succ
set_option maxHeartbeats 1000000 in
theorem copyFates_any (fo : Option Addr) (fc : Nat) (F : List (Int × Int)) (w : World) (hF : FIn w fo fc F) :
    Calls Tryz.prog 24 #[.slice fo F.length fc] w fun e w' => ∃ fo' cap', e = .returned (.slice fo' F.length cap') ∧ FatesAt w' fo' F ∧ (∀ a, fo' = some a → 0 < F.length → w.heap.size ≤ a.block) ∧ w.grownBy w' none := by
  have HF := hide hF
  clear hF
  obtain ⟨n, hn⟩ : ∃ n, n = F.length := ⟨_, rfl⟩
  rw [← hn]
  have HN := hide hn.symm
  clear hn
  go_enter Tryz.func24, Tryz.ntmps24
  go_wp2_with (at_builtin; refine wpList_append_fates rfl (.tmp 4) (.tmp 5) rfl w.heap.size (.slice none 0 0) 0 [] rfl (World.ownsRow_nil _ _ _ _) fo n fc F rfl HN.out HF.out.at_ (fun e => by have := HF.out.nil e; rw [HN.out] at this; exact this) (by have := HF.out.size; have := HN.out; omega) (Nat.le_refl _) ?_)
  intro v' w' hown hg
  have hg2 : w.grownBy w' none := hg
  obtain ⟨ao, cap, rfl, h1, h2, h3⟩ := own_form hown
  have HH : Hid (FatesAt w' ao F ∧ (∀ a, ao = some a → 0 < F.length → w.heap.size ≤ a.block) ∧ w.grownBy w' none) := by
    refine ⟨?_, ?_, hg2⟩
    · by_cases hz : 0 < n
      · obtain ⟨g, rfl⟩ := h1 hz
        exact own_fates hown
      · intro j p hj
        have := (List.getElem?_eq_some_iff.1 hj).1
        have := HN.out
        omega
    · intro a e hl
      subst e
      exact (own_block hown a.block rfl).1
  clear hown hg hg2 h1 h2 h3
  go_wp2
  go_ret
  exact ⟨_, _, rfl, HH.out.1, fun a e hl => HH.out.2.1 a e (by rw [HN.out]; exact hl), HH.out.2.2⟩
/-- A row of bools that came in. -/
def BoRow (w : World) (ro : Option Addr) (R : List Bool) : Prop := ∀ j u, R[j]? = some u → ∃ a, ro = some a ∧ w.cell? (a.add j) = some (.bool u)
theorem borow_of {w : World} {a : Addr} : ∀ n : Nat, (∀ i, i < n → ∃ u : Bool, w.cell? (a.add i) = some (.bool u)) → ∃ R : List Bool, R.length = n ∧ BoRow w (some a) R
  | 0, _ => ⟨[], rfl, fun j p hj => by simp at hj⟩
  | k + 1, key => by
    obtain ⟨F, f1, f2⟩ := borow_of k (fun i hi => key i (by omega))
    obtain ⟨p, g1⟩ := key k (by omega)
    refine ⟨F ++ [p], by simp [f1], ?_⟩
    intro j q hj
    by_cases hjk : j < F.length
    · rw [List.getElem?_append_left hjk] at hj; exact f2 j q hj
    · have hlt := (List.getElem?_eq_some_iff.1 hj).1
      have hjk2 : j = k := by simp at hlt; omega
      subst hjk2
      rw [List.getElem?_append_right (by omega), f1, Nat.sub_self] at hj
      simp at hj
      subst hj
      exact ⟨a, rfl, g1⟩
theorem cells4x : Tryz.prog.cellsOf 4 = 1 := by kernel_rfl
section
variable {H : Type} {enc : TypeId × Value → H}
set_option maxRecDepth 100000 in
/-- An argument of rows of bytes. -/
theorem open_rowsBArg {w : World} {base : Nat} {spare : Nat → Bool} {held : Bool} {r : Reach} {b0 : Nat} {v : Value} {d : DataW H} {ps : List MemPlace} (hval : Value.okWide Tryz.prog w r b0 51 v) (hd : DataW.Trod enc Tryz.prog w base spare held 51 v d ps) (hz : ∀ n ∈ d.weights Tryz.prog 51, n ≤ reachBytes) :
    ∃ ao n cap, ∃ R : List (List Nat), v = .slice ao n cap ∧ R.length = n ∧ BRow w ao R := by
  obtain ⟨ao, n, cap, rfl⟩ := okWide_slice Tryz.underlying51 hval
  obtain ⟨fuel, h⟩ := hd
  have h : DataW.trod enc Tryz.prog w base spare held fuel 51 [.slice ao n cap] = some (d, ps) := h
  obtain ⟨ao', cap', R, e, hB, _⟩ := open_rowsB h hz
  simp only [List.cons.injEq, and_true, Value.slice.injEq] at e
  obtain ⟨rfl, rfl, rfl⟩ := e
  exact ⟨_, _, _, R, rfl, rfl, hB⟩
set_option maxRecDepth 100000 in
/-- An argument of fates. -/
theorem open_fatesArg {w : World} {base : Nat} {spare : Nat → Bool} {held : Bool} {r : Reach} {b0 : Nat} {v : Value} {d : DataW H} {ps : List MemPlace} (hval : Value.okWide Tryz.prog w r b0 40 v) (hd : DataW.Trod enc Tryz.prog w base spare held 40 v d ps) (hz : ∀ n ∈ d.weights Tryz.prog 40, n ≤ reachBytes) :
    ∃ ao n cap, ∃ F : List (Int × Int), v = .slice ao n cap ∧ F.length = n ∧ FIn w ao cap F := by
  obtain ⟨ao, n, cap, rfl⟩ := okWide_slice Tryz.underlying40 hval
  obtain ⟨fuel, h⟩ := hd
  have h : DataW.trod enc Tryz.prog w base spare held fuel 40 [.slice ao n cap] = some (d, ps) := h
  obtain ⟨ao', cap', R, e, hB⟩ := open_fates h hz
  simp only [List.cons.injEq, and_true, Value.slice.injEq] at e
  obtain ⟨rfl, rfl, rfl⟩ := e
  exact ⟨_, _, _, R, rfl, rfl, hB⟩
set_option maxRecDepth 100000 in
/-- An argument of bools. -/
theorem open_boolsArg {w : World} {base : Nat} {spare : Nat → Bool} {held : Bool} {r : Reach} {b0 : Nat} {v : Value} {d : DataW H} {ps : List MemPlace} (hval : Value.okWide Tryz.prog w r b0 58 v) (hd : DataW.Trod enc Tryz.prog w base spare held 58 v d ps) :
    ∃ ao n cap, ∃ R : List Bool, v = .slice ao n cap ∧ R.length = n ∧ BoRow w ao R := by
  obtain ⟨ao, n, cap, rfl⟩ := okWide_slice Tryz.underlying58 hval
  obtain ⟨fuel, h⟩ := hd
  have h : DataW.trod enc Tryz.prog w base spare held fuel 58 [.slice ao n cap] = some (d, ps) := h
  rcases open_slice Tryz.underlying58 h with ⟨e, _⟩ | ⟨a, len, cap', m, n', D, Pl, e, hb, hl, hm, hmm, _, hx⟩
  · simp only [List.cons.injEq, and_true, Value.slice.injEq] at e
    obtain ⟨rfl, rfl, rfl⟩ := e
    exact ⟨none, 0, 0, [], rfl, rfl, fun j u hu => by simp at hu⟩
  · simp only [List.cons.injEq, and_true, Value.slice.injEq] at e
    obtain ⟨rfl, rfl, rfl⟩ := e
    have hlm : n ≤ m := by rw [hmm]; split <;> omega
    rw [cells4x] at hx
    have key : ∀ i, i < n → ∃ u : Bool, w.cell? (a.add i) = some (.bool u) := by
      intro i hi
      obtain ⟨cs', hc, ht⟩ := hx i (by omega)
      obtain ⟨_, hlen, hcell⟩ := World.cells?_some hc
      obtain ⟨u, rfl, _⟩ := DataW.trod_bool Tryz.underlying4 ht
      exact ⟨u, by have := hcell 0 (by omega); simpa [Addr.add] using this⟩
    obtain ⟨R, hF1, hF2⟩ := borow_of n key
    exact ⟨_, _, _, R, rfl, hF1, hF2⟩
end
end Go.Proofs.YtofdijaipjkfbaaGreatDoor
