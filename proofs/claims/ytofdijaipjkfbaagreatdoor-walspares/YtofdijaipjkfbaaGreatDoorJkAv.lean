/- Texts joined: Lg2, Lg3, Lg4, Lg5. -/
import Derived.Test.YtofdijaipjkfbaaGreatDoorJkAu
import Derived.Maps.AppendAt
/- A log goes on: bytes are put behind those that wait; Append, Reset, New. -/
namespace Go.Proofs.YtofdijaipjkfbaaGreatDoor
open Go.RowKit Ap
attribute [local go_sem ↓] Go.wp_at_zero Go.wp_at_succ

theorem wpList_append_lie {w : World} {ops : Array Oper} {rest : List Oper} {o : Oper} {a : Act} {Q : Exit → Act → World → Prop} (hgd : o.guard = none) (s x : Operand)
    (ho : o.op = .call { callee := .builtin .append, args := #[s, x], argTypes := #[39, 39] }) (base : Nat) (v : Value) (n : Nat) (xs : List Nat) (hs : a.eval s = v) (hown : w.ownsRow base 5 1 v n (bv xs))
    (ao : Option Addr) (m c : Nat) (ys : List Nat) (hx : a.eval x = .slice ao m c) (hm : ys.length = m) (hat : At w ao ys) (hnil : ao = none → m = 0 ∧ c = 0)
    (hbytes : n + m ≤ 140737488355328) (hbase : base ≤ w.heap.size)
    (h : ∀ v' w', w'.ownsRow base 5 1 v' (n + m) (bv (xs ++ ys)) → w.grownBy w' v.ownBlock → (v'.ownBlock = v.ownBlock ∨ v'.ownBlock = some w.heap.size) → wpList Tryz.prog ops Q rest (a.put o.dst v') w') : wpList Tryz.prog ops Q (o :: rest) a w := by
  obtain ⟨i0, hi, hz0, hz1, hz2⟩ := info_parts Tryz.info5
  cases ao with
  | none =>
    obtain ⟨rfl, rfl⟩ := hnil rfl
    refine wpList_append_own_none hgd s x 39 ho base 5 i0 1 Tryz.underlying39 hi v n (bv xs) hs hown hx (h v w ?_ (grown_refl w _) (.inl rfl))
    have : ys = [] := List.eq_nil_of_length_eq_zero hm
    subst this
    simpa using hown
  | some ad =>
    refine wpList_append_own_at _ hgd s x 39 ho base 5 i0 (.int .u8 0) 1 1 Tryz.underlying39 hi hz0 hz1 hz2 rfl (by decide) v n (bv xs) hs hown ad m c (bv ys) hx (by simp [bv_length, hm]) ?_ ?_ (by unfold maxLen; omega) (by omega) hbase (fun v' w' h1 h2 _ h4 => h v' w' (by rw [bv_append]; exact h1) h2 h4)
    · intro j u hu
      rw [bv, List.getElem?_map] at hu
      cases hj : ys[j]? with
      | none => simp [hj] at hu
      | some y =>
        simp [hj] at hu
        obtain ⟨a', ha', hc'⟩ := hat j y hj
        cases ha'
        rw [← hu]; exact hc'
    · intro u hu
      obtain ⟨y, _, rfl⟩ := List.mem_map.1 hu
      rfl
section
variable {w0 w w' : World} {n b r F C : Nat} {s : Dv} {k : Dk} {D : List Nat} {W : List Wt} {g g' : Lg}
theorem Dev.away {size : Nat} {S : Nat → Prop} (h : Dev w0 w n size b s k D W) (hk : Kept w w' S) (hS : ∀ i, S i → ¬ foot k W i ∧ i ≠ b ∧ w0.heap.size ≤ i) : Dev w0 w' n size b s k D W := by
  refine ⟨⟨h.disk.disk.kept hk (fun i hi hs => (hS i hs).1 hi), h.disk.own, ?_⟩, ⟨hk.at h.dev.head (fun hs => (hS b hs).2.1 rfl), h.dev.ok⟩, h.low⟩
  exact ((Kept.new h.disk.grown S).trans hk (fun i _ hs => hs)).grown (fun i hi hs => by have := (hS i hs).2.2; omega)
/-- A block of another kind is none of the device's. -/
theorem Dev.clear_of {size : Nat} (h : Dev w0 w n size b s k D W) {i : Nat} {c : Array Value} {t : TypeId} {fr : Nat × Nat} (ho : w.heap[i]? = some (.cells c t fr)) (h1 : t ≠ 138) (h2 : t ≠ 5) (h3 : t ≠ 199) (h4 : t ≠ 99) : ¬ foot k W i ∧ i ≠ b := by
  have := h.far ho h1 h2 h3 h4
  refine ⟨?_, this.2⟩
  rintro (e | ⟨x, hx, rfl⟩)
  · exact this.1 e
  · have h5 := (h.disk.disk.waits x hx).2.2.2
    rw [ho] at h5
    simp at h5
    exact h2 h5.2.1
/-- Which blocks a log may write. -/
def lfoot (g : Lg) (i : Nat) : Prop := i = g.l ∨ g.v.ownBlock = some i
theorem LgAt.lfoot_off (h : LgAt w0 w n b r F C s k D W g) : ∀ i, lfoot g i → ¬ foot k W i ∧ i ≠ b ∧ w0.heap.size ≤ i := by
  rintro i (rfl | hi)
  · have := h.dev.clear_of h.head (by decide) (by decide) (by decide) (by decide)
    exact ⟨this.1, this.2, h.low⟩
  · obtain ⟨c, hc⟩ := Fm.own_cells h.row hi
    obtain ⟨ao, cap, hv, _, _, _, _, _, h6⟩ := own_at h.row
    refine ⟨h.off i hi, ?_, ?_⟩
    · rintro rfl
      have := h.dev.dev.head
      rw [hc] at this
      simp at this
    · rw [hv] at hi
      cases ao with
      | none => simp [Value.ownBlock] at hi
      | some a =>
        have := (h6 a rfl)
        rw [this.1] at hi
        simp [Value.ownBlock] at hi
        omega
theorem LgAt.l_row (h : LgAt w0 w n b r F C s k D W g) : g.v.ownBlock ≠ some g.l := by
  intro e
  obtain ⟨c, hc⟩ := Fm.own_cells h.row e
  have := h.head
  rw [hc] at this
  simp at this
theorem LgAt.r_off (h : LgAt w0 w n b r F C s k D W g) : ¬ lfoot g r := by
  rintro (e | e)
  · have := h.head
    rw [← e, h.rg.head] at this
    simp at this
  · obtain ⟨c, hc⟩ := Fm.own_cells h.row e
    have := h.rg.head
    rw [hc] at this
    simp at this
/-- The log alone went on. -/
structure LgM (w w' : World) (g g' : Lg) : Prop where
  l : g'.l = g.l
  kept : Kept w w' (lfoot g)
  blk : ∀ i, g'.v.ownBlock = some i → g.v.ownBlock = some i ∨ w.heap.size ≤ i
theorem LgM.foot (h : LgM w w' g g') {i : Nat} (hi : lfoot g' i) : lfoot g i ∨ w.heap.size ≤ i := by
  rcases hi with e | e
  · exact .inl (.inl (e.trans h.l))
  · exact (h.blk i e).imp .inr id
theorem LgM.trans {w1 w2 w3 : World} {g1 g2 g3 : Lg} (h : LgM w1 w2 g1 g2) (k : LgM w2 w3 g2 g3) : LgM w1 w3 g1 g3 :=
  ⟨k.l.trans h.l, h.kept.trans k.kept (fun i hi hs => by rcases h.foot hs with e | e; exact e; omega), fun i hi => by
    rcases k.blk i hi with e | e
    · exact h.blk i e
    · exact .inr (Nat.le_trans h.kept.size e)⟩
theorem LgM.new (hg : w.grownBy w' none) : LgM w w' g g := ⟨rfl, Kept.new hg _, fun _ e => .inl e⟩
theorem LgAt.moved (h : LgAt w0 w n b r F C s k D W g) (m : LgM w w' g g') (head : w'.heap[g'.l]? = some (.cells (lcells r g').toArray 94 (0, 0))) (row : w'.ownsRow w0.heap.size 5 1 g'.v g'.bs.length (bv g'.bs))
    (byt : Bytes g'.bs) (fit : g'.a + g'.bs.length ≤ C * 64) (ue : U64 g'.e) (ul : U64 g'.la) (ud : U64 g'.du) : LgAt w0 w' n b r F C s k D W g' := by
  refine ⟨h.dev.away m.kept h.lfoot_off, h.rg.kept m.kept h.r_off, head, row, ?_, by rw [m.l]; exact h.low, byt, fit, h.hFC, h.few, ue, ul, ud, h.rlow⟩
  intro i hi hf
  rcases m.blk i hi with e | e
  · exact h.off i e hf
  · have := h.dev.disk.disk.lt i hf
    omega
set_option maxHeartbeats 1000000 in
theorem lput_at (h : LgAt w0 w n b r F C s k D W g) (ao : Option Addr) (m cap : Nat) (ys : List Nat) (hm : ys.length = m) (hat : At w ao ys) (hnil : ao = none → m = 0 ∧ cap = 0) (hy : Bytes ys) (hfit : g.a + g.bs.length + m ≤ C * 64) :
    Calls Tryz.prog 70 #[.pointer (some ⟨g.l, 0, none⟩), .slice ao m cap] w fun e w' => e = .returned (.tuple #[]) ∧ ∃ v', LgAt w0 w' n b r F C s k D W { g with v := v', bs := g.bs ++ ys } ∧ LgM w w' g { g with v := v', bs := g.bs ++ ys } := by
  have c1 := h.cell 1
  have hC := h.hC
  simp only [lcells, List.getElem?_cons_succ, List.getElem?_cons_zero] at c1
  have HH := hide h
  have HR := hide h.row
  have HS := hide h.grown0.size
  have HM := hide hm
  have HF := hide hfit
  clear h
  have hb : g.bs.length + m ≤ 140737488355328 := by omega
  clear hfit hm
  go_enter Tryz.func70, Tryz.ntmps70
  go_wp2_with (at_builtin; refine wpList_append_lie rfl (.tmp 8) (.tmp 9) rfl w0.heap.size g.v g.bs.length g.bs rfl HR.out ao m cap ys rfl HM.out hat hnil hb HS.out ?_)
  intro v' w1 hown hg hv
  obtain ⟨ao', cap', hv', hz⟩ := own_form hown
  clear hz
  subst hv'
  have hl1 : w1.heap[g.l]? = some (.cells (lcells r g).toArray 94 (0, 0)) := (hg.block _ (row_lt HH.out.head) (fun e => HH.out.l_row e.symm)).trans HH.out.head
  have f1 : w1.frozen? ⟨g.l, 1, none⟩ = false := free_row hl1 1
  have d1 : w1.cell? ⟨g.l, 1, none⟩ = some g.v := cell_row hl1 1
  have HX := hide (And.intro hown (And.intro hg (And.intro hv hl1)))
  clear hown hg hv hl1
  go_wp2
  go_end0
  obtain ⟨hown, hg, hv, hl1⟩ := HX.out
  generalize Value.slice ao' (g.bs.length + m) cap' = v' at *
  have hv2 : ∀ i, v'.ownBlock = some i → g.v.ownBlock = some i ∨ w.heap.size ≤ i := fun i hi => by
    rcases hv with e | e
    · exact .inl (e ▸ hi)
    · rw [e] at hi; cases hi; exact .inr (Nat.le_refl _)
  have M : LgM w (w1.setCell ⟨g.l, 1, none⟩ v') g { g with v := v', bs := g.bs ++ ys } := ⟨rfl, (Kept.of hg (fun j e _ => .inr e)).trans (Kept.of (grown_setCell w1 g.l 1 v') (fun j e _ => .inl (by cases e; rfl))) (fun i _ e => e), hv2⟩
  have hlen : (g.bs ++ ys).length = g.bs.length + m := by rw [List.length_append, HM.out]
  refine ⟨rfl, v', HH.out.moved M (row_setCell hl1 1 v') ?_ ?_ ?_ HH.out.ue HH.out.ul HH.out.ud, M⟩
  · show (w1.setCell ⟨g.l, 1, none⟩ v').ownsRow w0.heap.size 5 1 v' (g.bs ++ ys).length (bv (g.bs ++ ys))
    rw [hlen]
    refine ownsRow_setCell_other hown (fun e => ?_) _
    rcases hv2 _ e with e | e
    · exact HH.out.l_row e
    · have := row_lt HH.out.head
      exact absurd e (by show ¬ (w.heap.size ≤ g.l); omega)
  · intro x hx
    rcases List.mem_append.1 hx with h1 | h1
    · exact HH.out.byt x h1
    · exact hy x h1
  · show g.a + (g.bs ++ ys).length ≤ C * 64
    rw [hlen]; have := HF.out; omega
end
end Go.Proofs.YtofdijaipjkfbaaGreatDoor
/- Append. -/
namespace Go.Proofs.YtofdijaipjkfbaaGreatDoor
open Go.RowKit Ap
attribute [local go_sem ↓] Go.wp_at_zero Go.wp_at_succ
/-- The frame that is appended next. -/
def Lg.fr (g : Lg) (xs : List Nat) : Fm.Fr := ⟨g.e, g.la + 1, ints xs⟩
/-- The log behind it. -/
def Lg.more (g : Lg) (xs : List Nat) (v' : Value) : Lg := { g with v := v', bs := g.bs ++ Fm.nats (g.fr xs).out, la := g.la + 1 }
/-- What Append says of a body of m bytes. -/
def apC (C : Nat) (g : Lg) (m : Nat) : Int := if 32 < m then 3 else if fitsB C g (m : Int) then 0 else 6
section
variable {w0 w w' : World} {n b r F C : Nat} {s : Dv} {k : Dk} {D : List Nat} {W : List Wt} {g : Lg}
theorem fr_ok {xs : List Nat} (h : LgAt w0 w n b r F C s k D W g) (hl : g.la ≠ 18446744073709551615) (hb : Bytes xs) : (g.fr xs).Ok := by
  have h1 := h.ue
  have h2 := h.ul
  unfold U64 at h1 h2
  exact ⟨h1.1, h1.2, by show 0 ≤ g.la + 1; omega, by show g.la + 1 < _; omega, ints_byt hb⟩
theorem fr_len (g : Lg) (xs : List Nat) : (g.fr xs).out.length = 22 + xs.length := by rw [Fm.Fr.out_length]; show 22 + (ints xs).length = _; rw [ints_length]
theorem at_cells {wc : World} {gb : Nat} {ys : List Int} {fr : Nat × Nat} (h : wc.heap[gb]? = some (.cells (ys.map (Value.int .u8)).toArray 5 fr)) (hb : Fm.Byt ys) : At wc (some ⟨gb, 0, none⟩) (Fm.nats ys) := by
  rw [bv_nats hb] at h
  intro j u hu
  refine ⟨_, rfl, ?_⟩
  have e : (⟨gb, 0, none⟩ : Addr).add j = ⟨gb, j, none⟩ := by unfold Addr.add; split <;> simp_all
  rw [e, cell_row h j]
  exact bv_get _ _ _ hu
set_option maxRecDepth 20000 in
set_option maxHeartbeats 4000000 in
theorem lAppend_at (h : LgAt w0 w n b r F C s k D W g) (hT : Fm.Cr.Tab w0) (hw0 : 0 < w0.heap.size) (ao : Option Addr) (m cap : Nat) (xs : List Nat) (hm : xs.length = m) (hat : At w ao xs) (hb : Bytes xs) (hc : m ≤ cap) (hcm : cap ≤ maxLen) :
    Calls Tryz.prog 19 #[.pointer (some ⟨g.l, 0, none⟩), .slice ao m cap] w fun e w' =>
      (apC C g m ≠ 0 ∧ e = .returned (.tuple #[.int .u64 0, .int .i64 (apC C g m)]) ∧ w.grownBy w' none) ∨
      (apC C g m = 0 ∧ e = .returned (.tuple #[.int .u64 (g.la + 1), .int .i64 0]) ∧ ∃ v', LgAt w0 w' n b r F C s k D W (g.more xs v') ∧ LgM w w' g (g.more xs v')) := by
  have H := hide (lnone_at h)
  by_cases h32 : 32 < m
  · have e : apC C g m = 3 := by unfold apC; rw [if_pos h32]
    rw [e]
    clear h hat e hm
    generalize g.l = l at *
    go_enter Tryz.func19, Tryz.ntmps19
    go_wp2_with fail
    refine H.out.mono ?_
    rintro e w' ⟨rfl, rfl⟩
    go_wp2
    go_ret2
    exact .inl ⟨by decide, rfl, grown_refl _ _⟩
  · have HF := hide (lFits_at h (m : Int))
    by_cases hf : fitsB C g (m : Int) = true
    · have e : apC C g m = 0 := by unfold apC; rw [if_neg h32, if_pos hf]
      rw [hf] at HF
      have hla : g.la ≠ 18446744073709551615 ∧ 22 + (m : Int) ≤ (C * 64 : Nat) - (g.end_ : Int) := by
        unfold fitsB at hf
        have := of_decide_eq_true hf
        exact ⟨this.2.2.1, this.2.2.2⟩
      rw [e]
      have hok := hide (fr_ok h hla.1 hb)
      have HP : Hid (∀ w1 : World, w.grownBy w1 none → Calls Tryz.prog 69 #[.agg #[.int .u64 g.e, .int .u64 (g.la + 1), .slice ao m cap]] w1 fun r w' => ∃ gb, r = .returned (.tuple #[.slice (some ⟨gb, 0, none⟩) (22 + m) (22 + m), .int .i64 0]) ∧ w1.heap.size ≤ gb ∧ w'.heap[gb]? = some (.cells ((g.fr xs).out.map (Value.int .u8)).toArray 5 (0, 0)) ∧ w1.grownBy w' none) := by
        intro w1 hg
        have hg0 := grown_trans h.grown0 hg
        exact Fm.fput_any (g.fr xs) hok.out (by show (ints xs).length ≤ 32; rw [ints_length]; omega) ao m cap w1 (by show (ints xs).length = m; rw [ints_length]; exact hm) (At.ints (hat.grown hg)) hc hcm (hT.grown hg0) (Nat.lt_of_lt_of_le hw0 hg0.size)
      have HU : Hid (∀ (w1 : World) (gb : Nat), w.grownBy w1 none → w1.heap[gb]? = some (.cells ((g.fr xs).out.map (Value.int .u8)).toArray 5 (0, 0)) → Calls Tryz.prog 70 #[.pointer (some ⟨g.l, 0, none⟩), .slice (some ⟨gb, 0, none⟩) (22 + m) (22 + m)] w1 fun e w' => e = .returned (.tuple #[]) ∧ ∃ v', LgAt w0 w' n b r F C s k D W { g with v := v', bs := g.bs ++ Fm.nats (g.fr xs).out } ∧ LgM w1 w' g { g with v := v', bs := g.bs ++ Fm.nats (g.fr xs).out }) := by
        intro w1 gb hg hgb
        have hbt := Fm.Fr.out_byt (f := g.fr xs) hok.out.byt
        have h2 := hla.2
        unfold Lg.end_ at h2
        exact lput_at (h.then hg) (some ⟨gb, 0, none⟩) (22 + m) (22 + m) (Fm.nats (g.fr xs).out) (by rw [Fm.nats_length, fr_len, hm]) (at_cells hgb hbt) (fun e => by cases e) (nats_bytes hbt) (by omega)
      have c3 := h.cell 3
      have c4 := h.cell 4
      simp only [lcells, List.getElem?_cons_succ, List.getElem?_cons_zero] at c3 c4
      have hul := h.ul
      unfold U64 at hul
      have hw : IntKind.u64.wrap (g.la + 1) = g.la + 1 := by rw [IntKind.wrap_u64]; omega
      have HH := hide h
      have hl64 : g.la ≠ 18446744073709551615 := hla.1
      clear h hat hla e hm hb hf hw0 hT
      generalize hE : g.e = E at *
      generalize hA : g.la = A at *
      generalize hl : g.l = l at *
      have HE := hide (And.intro hE (And.intro hA hl))
      clear hE hA hl
      go_enter Tryz.func19, Tryz.ntmps19
      go_wp2_with fail
      refine H.out.mono ?_
      rintro e w' ⟨rfl, rfl⟩
      go_wp2_with fail
      refine HF.out.mono ?_
      rintro e w2 ⟨rfl, q, rfl⟩
      have g2 := grown_drewN w' q none
      replace c3 := g2.cell c3 (by simp)
      replace c4 := g2.cell c4 (by simp)
      have G2 := hide g2
      clear g2
      generalize w'.drewN q = w2 at *
      go_wp2_with fail
      go_region_held3 (fun w' => w'.cell? ⟨l, 3, none⟩ = some (.int .u64 E) ∧ w'.cell? ⟨l, 4, none⟩ = some (.int .u64 A)) (first | assumption | go_keep) ((go_at_call 69; refine (HP.out _ (grown_trans G2.out (grown_drew _ none))).mono ?_; rintro e3 w3 ⟨gb, rfl, Z1, Z2, Z3⟩; have hk := And.intro (Z3.cell (a := ⟨l, 3, none⟩) (v := .int .u64 E) (by assumption) (by simp)) (Z3.cell (a := ⟨l, 4, none⟩) (v := .int .u64 A) (by assumption) (by simp))))
      have HZ := hide (And.intro Z2 Z3)
      clear Z1 Z2 Z3 hk
      go_wp2_with fail
      refine (HU.out w3 gb (grown_trans (grown_trans G2.out (grown_drew _ none)) HZ.out.2) HZ.out.1).mono ?_
      rintro e4 w4 ⟨rfl, v', HL, HM⟩
      have f4 : w4.frozen? ⟨l, 4, none⟩ = false := HL.free 4
      have d4 : w4.cell? ⟨l, 4, none⟩ = some (.int .u64 A) := HL.cell 4
      have HX := hide (And.intro HL HM)
      clear HL HM
      go_wp2
      go_ret2
      obtain ⟨hE, hA, hl⟩ := HE.out
      obtain ⟨HL, HM⟩ := HX.out
      clear HE HX H HF HP HU
      subst hE hA hl
      refine .inr ⟨trivial, rfl, v', ?_⟩
      have M2 : LgM w4 (w4.setCell ⟨g.l, 4, none⟩ (.int .u64 (g.la + 1))) { g with v := v', bs := g.bs ++ Fm.nats (g.fr xs).out } (g.more xs v') := ⟨rfl, Kept.of (grown_setCell w4 g.l 4 _) (fun j e _ => .inl (by cases e; rfl)), fun i e => .inl e⟩
      refine ⟨HL.moved M2 (row_setCell HL.head 4 (.int .u64 (g.la + 1))) ?_ HL.byt HL.fit HL.ue ?_ HL.ud, LgM.trans (LgM.new (grown_trans (grown_trans G2.out (grown_drew _ none)) HZ.out.2)) (HM.trans M2)⟩
      · exact ownsRow_setCell_other HL.row (fun e => HL.l_row e) _
      · show U64 (g.la + 1)
        unfold U64; omega
    · have hf' : fitsB C g (m : Int) = false := by simpa using hf
      have e : apC C g m = 6 := by unfold apC; rw [if_neg h32, if_neg hf]
      rw [hf'] at HF
      rw [e]
      clear h hat e hm
      generalize g.l = l at *
      go_enter Tryz.func19, Tryz.ntmps19
      go_wp2_with fail
      refine H.out.mono ?_
      rintro e w' ⟨rfl, rfl⟩
      go_wp2_with fail
      refine HF.out.mono ?_
      rintro e w2 ⟨rfl, q, rfl⟩
      go_wp2
      go_ret2
      exact .inl ⟨by decide, rfl, grown_drewN _ _ _⟩
end
end Go.Proofs.YtofdijaipjkfbaaGreatDoor
/- Reset, New. -/
namespace Go.Proofs.YtofdijaipjkfbaaGreatDoor
open Go.RowKit Ap
attribute [local go_sem ↓] Go.wp_at_zero Go.wp_at_succ
/-- The log begins at the place x, without bytes. -/
def Lg.at0 (g : Lg) (x : Nat) : Lg := { g with v := .slice none 0 0, a := x, bs := [] }
def Lg.reset (g : Lg) (E : Int) : Lg := { g with v := .slice none 0 0, a := 0, bs := [], e := E, du := g.la }
def Lg.new (l : Nat) (E S : Int) : Lg := ⟨l, .slice none 0 0, 0, [], E, S, S⟩
section
variable {w0 w w' : World} {n b r F C : Nat} {s : Dv} {k : Dk} {D : List Nat} {W : List Wt} {g : Lg}
theorem LgM.cell {u : Value} (j : Nat) : LgM w (w.setCell ⟨g.l, j, none⟩ u) g g := ⟨rfl, Kept.of (grown_setCell w g.l j u) (fun i e _ => .inl (by cases e; rfl)), fun _ e => .inl e⟩
theorem LgAt.set2 (h : LgAt w0 w n b r F C s k D W g) (x : Nat) (hx : x ≤ C * 64) :
    LgAt w0 ((w.setCell ⟨g.l, 0, none⟩ (.int .i64 (x : Int))).setCell ⟨g.l, 1, none⟩ (.slice none 0 0)) n b r F C s k D W (g.at0 x) ∧ LgM w ((w.setCell ⟨g.l, 0, none⟩ (.int .i64 (x : Int))).setCell ⟨g.l, 1, none⟩ (.slice none 0 0)) g (g.at0 x) := by
  have h1 := row_setCell h.head 0 (.int .i64 (x : Int))
  have h2 := row_setCell h1 1 (.slice none 0 0)
  have M : LgM w ((w.setCell ⟨g.l, 0, none⟩ (.int .i64 (x : Int))).setCell ⟨g.l, 1, none⟩ (.slice none 0 0)) g (g.at0 x) :=
    ⟨rfl, (Kept.of (grown_setCell w g.l 0 _) (fun i e _ => .inl (by cases e; rfl))).trans (S' := lfoot g) (Kept.of (grown_setCell _ g.l 1 _) (fun i e _ => .inl (by cases e; rfl))) (fun i _ e => e), fun i e => by simp [Lg.at0, Value.ownBlock] at e⟩
  exact ⟨h.moved M h2 (World.ownsRow_nil _ _ _ _) (fun x hx => by cases hx) hx h.ue h.ul h.ud, M⟩
set_option maxHeartbeats 400000 in
theorem ldrop_at (h : LgAt w0 w n b r F C s k D W g) : Calls Tryz.prog 90 #[.pointer (some ⟨g.l, 0, none⟩)] w fun e w' => e = .returned (.tuple #[]) ∧ LgAt w0 w' n b r F C s k D W (g.at0 0) ∧ LgM w w' g (g.at0 0) := by
  have H := hide (h.set2 0 (Nat.zero_le _))
  have c0 := h.cell 0
  have c1 := h.cell 1
  have f0 := h.free 0
  have f1 := h.free 1
  simp only [lcells, List.getElem?_cons_succ, List.getElem?_cons_zero] at c0 c1
  clear h
  go_enter Tryz.func90, Tryz.ntmps90
  go_wp2
  go_end0
  exact ⟨rfl, H.out⟩
set_option maxHeartbeats 400000 in
theorem lsettle_at (h : LgAt w0 w n b r F C s k D W g) : Calls Tryz.prog 72 #[.pointer (some ⟨g.l, 0, none⟩)] w fun e w' => e = .returned (.tuple #[]) ∧ LgAt w0 w' n b r F C s k D W (g.at0 g.end_) ∧ LgM w w' g (g.at0 g.end_) := by
  have H := hide (fun q => (h.drew q).set2 g.end_ h.fit)
  have H2 := hide (lend_at h)
  have HC := hide (fun (q : Nat) (j : Nat) => And.intro ((h.drew q).cell j) ((h.drew q).free j))
  clear h
  go_enter Tryz.func72, Tryz.ntmps72
  go_wp2_with fail
  refine H2.out.mono ?_
  rintro e w' ⟨rfl, q, rfl⟩
  have c0 := (HC.out q 0).1
  have c1 := (HC.out q 1).1
  have f0 := (HC.out q 0).2
  have f1 := (HC.out q 1).2
  simp only [lcells, List.getElem?_cons_succ, List.getElem?_cons_zero] at c0 c1
  have HG := hide (grown_drewN w q none)
  replace H := hide (H.out q)
  generalize w.drewN q = w2 at *
  go_wp2
  go_end0
  exact ⟨rfl, H.out.1, (LgM.new HG.out).trans H.out.2⟩
theorem LgAt.reset3 (h : LgAt w0 w n b r F C s k D W (g.at0 0)) (E : Int) (hE : U64 E) :
    LgAt w0 ((w.setCell ⟨g.l, 3, none⟩ (.int .u64 E)).setCell ⟨g.l, 5, none⟩ (.int .u64 g.la)) n b r F C s k D W (g.reset E) ∧ LgM w ((w.setCell ⟨g.l, 3, none⟩ (.int .u64 E)).setCell ⟨g.l, 5, none⟩ (.int .u64 g.la)) (g.at0 0) (g.reset E) := by
  have h1 := row_setCell h.head 3 (.int .u64 E)
  have h2 := row_setCell h1 5 (.int .u64 g.la)
  have M : LgM w ((w.setCell ⟨g.l, 3, none⟩ (.int .u64 E)).setCell ⟨g.l, 5, none⟩ (.int .u64 g.la)) (g.at0 0) (g.reset E) :=
    ⟨rfl, (Kept.of (grown_setCell w g.l 3 _) (fun i e _ => .inl (by cases e; rfl))).trans (S' := lfoot (g.at0 0)) (Kept.of (grown_setCell _ g.l 5 _) (fun i e _ => .inl (by cases e; rfl))) (fun i _ e => e), fun i e => by simp [Lg.reset, Value.ownBlock] at e⟩
  exact ⟨h.moved M h2 (World.ownsRow_nil _ _ _ _) (fun x hx => by cases hx) (Nat.zero_le _) hE h.ul h.ul, M⟩
set_option maxHeartbeats 1000000 in
theorem lReset_at (h : LgAt w0 w n b r F C s k D W g) (E : Int) (hE : U64 E) : Calls Tryz.prog 44 #[.pointer (some ⟨g.l, 0, none⟩), .int .u64 E] w fun e w' => e = .returned (.int .i64 0) ∧ LgAt w0 w' n b r F C s k D W (g.reset E) ∧ LgM w w' g (g.reset E) := by
  have H := hide (lnone_at h)
  have H2 := hide (ldrop_at h)
  clear h
  go_enter Tryz.func44, Tryz.ntmps44
  go_wp2_with fail
  refine H.out.mono ?_
  rintro e w' ⟨rfl, rfl⟩
  go_wp2_with fail
  refine H2.out.mono ?_
  rintro e w2 ⟨rfl, h2, m2⟩
  have c3 : w2.cell? ⟨g.l, 3, none⟩ = some (.int .u64 g.e) := h2.cell 3
  have c4 : w2.cell? ⟨g.l, 4, none⟩ = some (.int .u64 g.la) := h2.cell 4
  have c5 : w2.cell? ⟨g.l, 5, none⟩ = some (.int .u64 g.du) := h2.cell 5
  have f3 : w2.frozen? ⟨g.l, 3, none⟩ = false := h2.free 3
  have f5 : w2.frozen? ⟨g.l, 5, none⟩ = false := h2.free 5
  have HX := hide (And.intro (h2.reset3 E hE) m2)
  clear h2 m2
  go_wp2
  go_ret
  exact ⟨rfl, HX.out.1.1, HX.out.2.trans HX.out.1.2⟩
set_option maxHeartbeats 1000000 in
theorem lNew_at (h : Dev w0 w n 64 b s k D W) (hr : RgAt w r b F C) (hFC : F + C ≤ n) (hC : 1 ≤ C) (hn : n ≤ 9) (hrl : w0.heap.size ≤ r) (E S : Int) (hE : U64 E) (hS : U64 S) :
    Calls Tryz.prog 7 #[.pointer (some ⟨r, 0, none⟩), .int .u64 E, .int .u64 S] w fun e w' => ∃ l, e = .returned (.tuple #[.pointer (some ⟨l, 0, none⟩), .int .i64 0]) ∧ LgAt w0 w' n b r F C s k D W (Lg.new l E S) ∧ w.heap.size ≤ l ∧ w.grownBy w' none := by
  have H := hide (gBytes_at h hr (by omega))
  have HH := hide (fun q => And.intro (h.drew q) (hr.drew q))
  have hB : 64 ≤ C * 64 := by omega
  have hB2 : C * 64 ≤ 576 := by omega
  clear h hr
  generalize C * 64 = B at *
  go_enter Tryz.func7, Tryz.ntmps7
  go_wp2_with fail
  refine H.out.mono ?_
  rintro e w' ⟨rfl, q, rfl⟩
  replace HH := hide (HH.out q)
  have HG := hide (grown_drewN w q none)
  generalize w.drewN q = w2 at *
  go_wp2
  go_ret2
  have hg := World.grownBy_alloc w2 (.cells (lcells r (Lg.new w2.heap.size E S)).toArray 94) none
  obtain ⟨h1, h2⟩ := HH.out
  refine ⟨w2.heap.size, rfl, ⟨h1.then hg, h2.grown hg, heap_alloc_new w2 _, World.ownsRow_nil _ _ _ _, (fun i e => by simp [Lg.new, Value.ownBlock] at e), h1.disk.grown.size, (fun x hx => by cases hx), Nat.zero_le _, hFC, hn, hE, hS, hS, hrl⟩, HG.out.size, grown_trans HG.out hg⟩
end
end Go.Proofs.YtofdijaipjkfbaaGreatDoor
/- Flush. -/
namespace Go.Proofs.YtofdijaipjkfbaaGreatDoor
open Go.RowKit Ap
attribute [local go_sem ↓] Go.wp_at_zero Go.wp_at_succ
section
variable {w0 w w' w'' : World} {n b r F C : Nat} {s s' : Dv} {k k' : Dk} {D D' : List Nat} {W W' : List Wt} {g g' : Lg}
theorem DvM.footd (h : DvM w w' b k k' W W') {i : Nat} (hi : foot k' W' i) : foot k W i ∨ w.heap.size ≤ i := by
  rcases hi with e | ⟨x, hx, rfl⟩
  · exact (h.own i e).imp .inl id
  · rcases h.blk x hx with ⟨y, hy, e⟩ | e
    · exact .inl (.inr ⟨y, hy, e⟩)
    · exact .inr e
/-- The device went on. -/
theorem LgAt.dv (h : LgAt w0 w n b r F C s k D W g) (hd : Dev w0 w' n 64 b s' k' D' W') (m : DvM w w' b k k' W W') : LgAt w0 w' n b r F C s' k' D' W' g := by
  have h1 := h.dev.far h.rg.head (by decide) (by decide) (by decide) (by decide)
  have h2 := h.dev.far h.head (by decide) (by decide) (by decide) (by decide)
  refine ⟨hd, ⟨m.other h.rg.head h1.1 h1.2⟩, m.other h.head h2.1 h2.2, owns_off h.row m.kept ?_, ?_, h.low, h.byt, h.fit, h.hFC, h.few, h.ue, h.ul, h.ud, h.rlow⟩
  · rintro i hi (e | e)
    · exact h.off i hi (.inl e)
    · exact (h.lfoot_off i (.inr hi)).2.1 e
  · intro i hi hf
    rcases m.footd hf with e | e
    · exact h.off i hi e
    · obtain ⟨c, hc⟩ := Fm.own_cells h.row hi
      have := row_lt hc
      omega
/-- Device and log went on. -/
structure LgW (w w' : World) (b : Nat) (k k' : Dk) (W W' : List Wt) (g g' : Lg) : Prop where
  l : g'.l = g.l
  kept : Kept w w' (fun i => foot k W i ∨ i = b ∨ lfoot g i)
  foot : ∀ i, foot k' W' i ∨ lfoot g' i → foot k W i ∨ lfoot g i ∨ w.heap.size ≤ i
theorem LgW.trans {k'' : Dk} {W'' : List Wt} {g'' : Lg} (h : LgW w w' b k k' W W' g g') (q : LgW w' w'' b k' k'' W' W'' g' g'') : LgW w w'' b k k'' W W'' g g'' := by
  refine ⟨q.l.trans h.l, h.kept.trans q.kept ?_, ?_⟩
  · intro i hi hs
    have : i = b ∨ (YtofdijaipjkfbaaGreatDoor.foot k' W' i ∨ lfoot g' i) := by
      rcases hs with e | e | e
      · exact .inr (.inl e)
      · exact .inl e
      · exact .inr (.inr e)
    rcases this with e | e
    · exact .inr (.inl e)
    · rcases h.foot i e with e | e | e
      · exact .inl e
      · exact .inr (.inr e)
      · omega
  · intro i hi
    rcases q.foot i hi with e | e | e
    · exact h.foot i (.inl e)
    · exact h.foot i (.inr e)
    · exact .inr (.inr (Nat.le_trans h.kept.size e))
theorem LgM.lw (m : LgM w w' g g') : LgW w w' b k k W W g g' :=
  ⟨m.l, m.kept.mono (fun i _ e => .inr (.inr e)), fun i hi => by
    rcases hi with e | e
    · exact .inl e
    · exact .inr (m.foot e)⟩
theorem DvM.lw (m : DvM w w' b k k' W W') : LgW w w' b k k' W W' g g :=
  ⟨rfl, m.kept.mono (fun i _ e => by rcases e with e | e; exact .inl (.inl e); exact .inr (.inl e)), fun i hi => by
    rcases hi with e | e
    · rcases m.footd e with e | e
      · exact .inl e
      · exact .inr (.inr e)
    · exact .inr (.inl e)⟩
/-- A block of another kind stays. -/
theorem LgW.other (q : LgW w w' b k k' W W' g g') (h : LgAt w0 w n b r F C s k D W g) {i : Nat} {c : Array Value} {t : TypeId} {fr : Nat × Nat} (ho : w.heap[i]? = some (.cells c t fr)) (h1 : t ≠ 138) (h2 : t ≠ 5) (h3 : t ≠ 199) (h4 : t ≠ 99) (h5 : t ≠ 94) : w'.heap[i]? = some (.cells c t fr) := by
  have h6 := h.dev.clear_of ho h1 h2 h3 h4
  refine q.kept.at ho ?_
  rintro (e | e | e | e)
  · exact h6.1 e
  · exact h6.2 e
  · have := h.head
    rw [← e, ho] at this
    simp at this
    exact h5 this.2.1
  · obtain ⟨d, hd⟩ := Fm.own_cells h.row e
    rw [ho] at hd
    simp at hd
    exact h2 hd.2.1
/-- What a write of bytes and a sync come to. -/
def flA (F a : Nat) (xs : List Nat) (s : Dv) (D : List Nat) (A : List Pr) : Int × Dv × List Nat × List Pr :=
  let q := wgo (full 64 a xs.length) (pcn 64 a xs.length) 0 s
  let A1 := A ++ pcs 64 F a (splice (now 64 D A) (F * 64 + a) xs) q.1
  if q.2.1 = 0 then (if q.2.2.goes then (0, q.2.2.next, syncA 64 (D, A1)) else (60, q.2.2.next, D, A1)) else (q.2.1, q.2.2, D, A1)
/-- .. in memory. -/
structure FlP (w0 w w' : World) (n b : Nat) (k : Dk) (W : List Wt) (o : Int × Dv × List Nat × List Pr) (k' : Dk) (W' : List Wt) : Prop where
  dev : Dev w0 w' n 64 b o.2.1 k' o.2.2.1 W'
  abs : abs W' = o.2.2.2
  mov : DvM w w' b k k' W W'
theorem pcn64 (a m : Nat) (h : m ≤ 576) : pcn 64 a m ≤ 11 := by
  have := pcn_le (size := 64) (at_ := a) (n := m) (by omega)
  omega
theorem wgo_cnt (f : Nat → Bool) : ∀ (M j : Nat) (s : Dv), (wgo f M j s).2.2.cnt ≤ s.cnt + 2 * M
  | 0, j, s => by simp [wgo]
  | M + 1, j, s => by
    rw [wgo_step]
    have h1 := s.next_le
    have h2 := s.next.next_le
    have h3 := wgo_cnt f M (j + 1) s.next
    have h4 := wgo_cnt f M (j + 1) s.next.next
    split
    · split
      · simp only; omega
      · split
        · simp only; omega
        · simp only; omega
    · simp only; omega
set_option maxRecDepth 20000 in
set_option maxHeartbeats 4000000 in
theorem twrite_at (h : LgAt w0 w n b r F C s k D W g) (hW : W.length ≤ 800000) (hcnt : s.cnt ≤ 90000) :
    Calls Tryz.prog 71 #[.pointer (some ⟨g.l, 0, none⟩), .pointer (some ⟨r, 0, none⟩)] w fun e w' => e = .returned (.int .i64 (flA F g.a g.bs s D (abs W)).1) ∧ ∃ k' W', FlP w0 w w' n b k W (flA F g.a g.bs s D (abs W)) k' W' := by
  have hC := h.hC
  have hfit := h.fit
  have hp := pcn64 g.a g.bs.length (by omega)
  obtain ⟨ao, cap, hv, _, hcap, _, hat, _, _⟩ := own_at h.row
  have hoff : ∀ a, ao = some a → 0 < g.bs.length → ¬ k.own a.block ∧ a.block ≠ b := by
    intro a ha _
    have h9 := own_at h.row
    obtain ⟨ao2, cap2, hv2, _, _, _, _, _, h6⟩ := h9
    rw [hv] at hv2
    cases hv2
    have h7 := h6 a ha
    have : g.v.ownBlock = some a.block := by rw [hv, ha, h7.1]; rfl
    have h8 := h.lfoot_off _ (.inr this)
    exact ⟨fun e => h8.1 (.inl e), h8.2.1⟩
  have HW : Hid (∀ w1 : World, w.grownBy w1 none → Calls Tryz.prog 109 #[.pointer (some ⟨r, 0, none⟩), .int .i64 (g.a : Int), .slice ao g.bs.length cap] w1 fun e w' => ∃ c, e = .returned (.int .i64 c) ∧ c = (wgo (full 64 g.a g.bs.length) (pcn 64 g.a g.bs.length) 0 s).2.1 ∧ WriteP w0 w1 w' n 64 b s k D W F g.a g.bs c ∧ w'.heap[g.l]? = some (.cells (lcells r g).toArray 94 (0, 0))) := by
    intro w1 hg
    have h1 := h.then hg
    refine (gWrite_at h1.dev h1.rg h.hFC g.a cap ao g.bs (hat.grown hg) hcap hfit hoff (by omega) (by omega)).mono ?_
    rintro e w' ⟨c, rfl, p⟩
    refine ⟨c, rfl, p.code, p, ?_⟩
    obtain ⟨k2, W2, h2, h3, h4⟩ := p.left
    exact (h1.dv h2 h3).head
  have HY : Hid (∀ (w1 w2 : World) (c : Int), w.grownBy w1 none → WriteP w0 w1 w2 n 64 b s k D W F g.a g.bs c → c = 0 → Calls Tryz.prog 110 #[.pointer (some ⟨r, 0, none⟩)] w2 fun e w' => e = .returned (.int .i64 (flA F g.a g.bs s D (abs W)).1) ∧ ∃ k' W', FlP w0 w w' n b k W (flA F g.a g.bs s D (abs W)) k' W') := by
    intro w1 w2 c hg p hc
    have h1 := h.then hg
    obtain ⟨k2, W2, h2, h3, h4⟩ := p.left
    have h5 := h1.dv h2 h3
    have hq := p.code
    have hcn := wgo_cnt (full 64 g.a g.bs.length) (pcn 64 g.a g.bs.length) 0 s
    rw [hc] at hq
    unfold flA
    simp only
    rw [if_pos hq.symm]
    generalize hQ : wgo (full 64 g.a g.bs.length) (pcn 64 g.a g.bs.length) 0 s = Q at *
    refine (gSync_at h2 h5.rg (by omega)).mono ?_
    rintro e w' ⟨rfl, k3, D3, W3, h6, h7, h8, h9⟩
    by_cases hgo : Q.2.2.goes = true
    · rw [if_pos hgo]
      rw [if_pos hgo, h4] at h8
      obtain ⟨e1, e2⟩ := Prod.mk.inj h8
      refine ⟨by rw [Dv.code_ok hgo], k3, W3, ?_, e2, ?_⟩
      · show Dev w0 w' n 64 b Q.2.2.next k3 _ W3
        rw [e1] at h6
        exact h6
      · exact (DvM.pre hg h3).trans h7 (row_lt h.dev.dev.head)
    · rw [if_neg hgo]
      rw [if_neg hgo] at h8
      obtain ⟨e1, e2⟩ := Prod.mk.inj h8
      refine ⟨by rw [Dv.code_no (by simpa using hgo)], k3, W3, ?_, by rw [e2, h4], ?_⟩
      · show Dev w0 w' n 64 b Q.2.2.next k3 _ W3
        rw [e1] at h6
        exact h6
      · exact (DvM.pre hg h3).trans h7 (row_lt h.dev.dev.head)
  have HN : Hid (∀ (w1 w2 : World) (c : Int), w.grownBy w1 none → WriteP w0 w1 w2 n 64 b s k D W F g.a g.bs c → c ≠ 0 → c = (flA F g.a g.bs s D (abs W)).1 ∧ ∃ k' W', FlP w0 w w2 n b k W (flA F g.a g.bs s D (abs W)) k' W') := by
    intro w1 w2 c hg p hc
    obtain ⟨k2, W2, h2, h3, h4⟩ := p.left
    have hq := p.code
    unfold flA
    simp only
    rw [if_neg (by rw [← hq]; exact hc)]
    exact ⟨hq, k2, W2, h2, h4, DvM.pre hg h3⟩
  have c0 := h.cell 0
  have c1 := h.cell 1
  simp only [lcells, List.getElem?_cons_succ, List.getElem?_cons_zero] at c0 c1
  rw [hv] at c1
  have HLC : Hid (∀ w3 : World, w3.heap[g.l]? = some (.cells (lcells r g).toArray 94 (0, 0)) → w3.cell? ⟨g.l, 0, none⟩ = some (.int .i64 (g.a : Int)) ∧ w3.cell? ⟨g.l, 1, none⟩ = some (.slice ao g.bs.length cap)) := by
    intro w3 h3
    refine ⟨cell_row h3 0, ?_⟩
    rw [cell_row h3 1]
    show some g.v = _
    rw [hv]
  generalize hR : flA F g.a g.bs s D (abs W) = R at *
  by_cases hc : (wgo (full 64 g.a g.bs.length) (pcn 64 g.a g.bs.length) 0 s).2.1 = 0
  · rw [hc] at HW
    clear hp hat hoff h hfit hC hv hcap hcnt hW hc hR
    generalize g.l = l at *
    generalize g.a = A at *
    generalize g.bs.length = m at *
    go_enter Tryz.func71, Tryz.ntmps71
    go_wp2_with fail
    go_region_held3 (fun w' => w'.cell? ⟨l, 0, none⟩ = some (.int .i64 (A : Int)) ∧ w'.cell? ⟨l, 1, none⟩ = some (.slice ao m cap)) (first | assumption | go_keep) ((go_at_call 109; refine (HW.out _ (grown_drew _ none)).mono ?_; rintro e3 w3 ⟨c, rfl, Z0, Z1, Z2⟩; have hk := HLC.out _ Z2))
    subst Z0
    have HZ := hide (HY.out _ w3 0 (grown_drew _ none) Z1 rfl)
    clear Z1 Z2 hk
    go_wp2_with fail
    refine HZ.out.mono ?_
    rintro e4 w4 ⟨rfl, HX⟩
    go_wp2
    go_ret
    exact ⟨rfl, HX⟩
  · generalize hQ : (wgo (full 64 g.a g.bs.length) (pcn 64 g.a g.bs.length) 0 s).2.1 = Q at *
    clear hp hat hoff h hfit hC hv hcap hcnt hW hR hQ
    generalize g.l = l at *
    generalize g.a = A at *
    generalize g.bs.length = m at *
    have hne : (Q != 0) = true := by simpa using hc
    go_enter Tryz.func71, Tryz.ntmps71
    go_wp2_with fail
    go_region_held3 (fun w' => w'.cell? ⟨l, 0, none⟩ = some (.int .i64 (A : Int)) ∧ w'.cell? ⟨l, 1, none⟩ = some (.slice ao m cap)) (first | assumption | go_keep) ((go_at_call 109; refine (HW.out _ (grown_drew _ none)).mono ?_; rintro e3 w3 ⟨c, rfl, Z0, Z1, Z2⟩; have hk := HLC.out _ Z2))
    subst Z0
    have HZ := hide (HN.out _ w3 c (grown_drew _ none) Z1 hc)
    clear Z1 Z2 hk
    go_wp2
    go_ret
    exact ⟨by rw [← HZ.out.1]; rfl, HZ.out.2⟩
end
end Go.Proofs.YtofdijaipjkfbaaGreatDoor
