/- Texts joined: JnAh. -/
import Derived.Test.YtinkkocleognbaaGreatDoorJuAg
/- Texts joined: Bk4, Bk5, Bk6, Bk7, Bk8. -/
/- A book in memory: where its parts lie, what stays. -/
namespace Go.Proofs.YtinkkocleognbaaGreatDoor
open Go.RowKit
attribute [local go_sem ↓] Go.wp_at_zero Go.wp_at_succ
section
variable {lt lt' : Int → Int → Bool} {E : List (Nat × Int)} {T : List Nat}
theorem ah_congr {x y : Nat × Int} (h1 : lt' x.2 y.2 = lt x.2 y.2) (h2 : lt' y.2 x.2 = lt y.2 x.2) : Hp.ah lt' x y = Hp.ah lt x y := by
  unfold Hp.ah; rw [h1, h2]
theorem good_congr (h : Hp.Good lt E T) (hlt : ∀ i j, i < E.length → j < E.length → lt' (Hp.en E i).2 (Hp.en E j).2 = lt (Hp.en E i).2 (Hp.en E j).2) : Hp.Good lt' E T := by
  refine ⟨h.len, fun b hb => ?_⟩
  rw [h.right b hb]
  have h1 : ∀ l c, l < E.length → Hp.tn T c < E.length → Hp.lw1 lt' E T l c = Hp.lw1 lt E T l c := fun l c hl hc => by
    unfold Hp.lw1; rw [ah_congr (hlt _ _ hc hl) (hlt _ _ hl hc)]
  have hA : Hp.lwA lt' E T b = Hp.lwA lt E T b := by
    unfold Hp.lwA
    split
    · rename_i h2; exact h1 _ _ hb (h.sub _ h2).2
    · rfl
  have hAl : Hp.lwA lt E T b < E.length := by
    rcases Hp.lwA_or (lt := lt) (E := E) (T := T) b with e | ⟨h2, e⟩
    · rw [e]; exact hb
    · rw [e]; exact (h.sub _ h2).2
  unfold Hp.lw
  rw [hA]
  split
  · rename_i h2; exact (h1 _ _ hAl (h.sub _ h2).2).symm
  · rfl
end
/-- The same heap, under a less that tells the same of its items. -/
theorem HS_re {w w' : World} {L L' : Hp.Les} {p : Hp.Hp} {E : List (Nat × Int)} {T : List Nat} {N B : Nat} {X : Nat → Prop} (h : Hp.HS w L p E T N B) (k : Kept w w' X) (hX : ∀ i, p.own i → ¬ X i) (hk : L'.k = L.k) (hc : L'.cap = L.cap) (hI : L'.I w') (hF : ∀ i, L'.F i → L.F i)
    (hlt : ∀ i j, i < E.length → j < E.length → L'.lt (Hp.en E i).2 (Hp.en E j).2 = L.lt (Hp.en E i).2 (Hp.en E j).2) (hok : ∀ e ∈ E, L'.ok e.2) : Hp.HS w' L' p E T N B := by
  have a := h.at_
  have hh : Hp.hpc L' p.h (N : Int) p.ve p.vl p.mb = Hp.hpc L p.h (N : Int) p.ve p.vl p.mb := by unfold Hp.hpc Hp.Les.fv; rw [hk, hc]
  refine ⟨⟨by rw [hh]; exact k.at a.head (hX _ (.inl rfl)), Hp.row_same a.ent (fun g hg => k.block g (a.lt g (.inr (.inl hg))) (hX g (.inr (.inl hg)))), Hp.row_same a.lst (fun g hg => k.block g (a.lt g (.inr (.inr (.inl hg)))) (hX g (.inr (.inr (.inl hg))))), a.map.same (k.block _ a.map.lt (hX _ (.inr (.inr (.inr rfl))))), hI, fun i hi e => a.off i hi (hF i e)⟩, good_congr h.good hlt, h.hds, hok⟩
/-- Where a book lies. -/
structure Bp where
  b : Nat
  vb : Nat
  sg : Nat
  tb : Nat
  tg : Nat
  ip : Ix.Ip
  hp : Hp.Hp
  hm : Nat
/-- Which part of it lies in a block. -/
def Bp.role (p : Bp) (k i : Nat) : Prop := (k = 0 ∧ i = p.b) ∨ (k = 1 ∧ i = p.vb) ∨ (k = 2 ∧ i = p.sg) ∨ (k = 3 ∧ p.ip.own i) ∨ (k = 4 ∧ i = p.tb) ∨ (k = 5 ∧ i = p.tg) ∨ (k = 6 ∧ p.hp.own i) ∨ (k = 7 ∧ i = p.hm)
def Bp.own (p : Bp) (i : Nat) : Prop := ∃ k, p.role k i
def Bp.Apart (p : Bp) : Prop := ∀ i j k, p.role j i → p.role k i → j = k
section
variable {p : Bp}
theorem Bp.r0 : p.role 0 p.b := .inl ⟨rfl, rfl⟩
theorem Bp.r1 : p.role 1 p.vb := .inr (.inl ⟨rfl, rfl⟩)
theorem Bp.r2 : p.role 2 p.sg := .inr (.inr (.inl ⟨rfl, rfl⟩))
theorem Bp.r3 {i : Nat} (h : p.ip.own i) : p.role 3 i := .inr (.inr (.inr (.inl ⟨rfl, h⟩)))
theorem Bp.r4 : p.role 4 p.tb := .inr (.inr (.inr (.inr (.inl ⟨rfl, rfl⟩))))
theorem Bp.r5 : p.role 5 p.tg := .inr (.inr (.inr (.inr (.inr (.inl ⟨rfl, rfl⟩)))))
theorem Bp.r6 {i : Nat} (h : p.hp.own i) : p.role 6 i := .inr (.inr (.inr (.inr (.inr (.inr (.inl ⟨rfl, h⟩))))))
theorem Bp.r7 : p.role 7 p.hm := .inr (.inr (.inr (.inr (.inr (.inr (.inr ⟨rfl, rfl⟩))))))
theorem Bp.Apart.no (h : p.Apart) {i j k : Nat} (h1 : p.role j i) (h2 : p.role k i) (hne : j ≠ k) : False := hne (h i j k h1 h2)
end
/-- The book's own cells. -/
def bkc (p : Bp) (S : Sb) : List Value := [.int .i64 (S.a : Int), .int .i64 (S.b : Int), .int .i64 (S.c : Int), .pointer (some ⟨p.b, 0, none⟩), .int .u32 (S.n : Int), .int .i64 S.t, .pointer (some ⟨p.tb, 0, none⟩), .slice (some ⟨p.sg, 0, none⟩) S.a S.a, .pointer (some ⟨p.ip.x, 0, none⟩), .pointer (some ⟨p.hp.h, 0, none⟩), .map (some p.hm)]
/-- A book's parts in memory. -/
structure BkR (w : World) (p : Bp) (S : Sb) (Lb : List Bool) (R : List Bg) (M E : List (Nat × Int)) (T : List Nat) (N B C : Nat) (f : Int → Option Nat) : Prop where
  head : w.heap[p.b]? = some (.cells (bkc p S).toArray 37 (0, 0))
  var : w.heap[p.vb]? = some (.cells [Value.pointer (some ⟨p.b, 0, none⟩)].toArray 27 (0, 0))
  set : Bt.SetAt w p.tb p.tg Lb
  row : w.heap[p.sg]? = some (.cells (bgs R).toArray 108 (0, 0))
  ix : ∃ lo, Ix.Io w p.ip M lo
  due : Hp.HS w (lsB p.vb p.b p.sg p.ip M R) p.hp E T N B
  map : U.MapAt w Tryz.prog 30 p.hm C (fun k => (f k).map fun (n : Nat) => Value.int .i64 (n : Int))
  ap : p.Apart
  z : ¬ p.own 0
  rl : R.length = S.a
  im : p.ip.m = S.b
  sa : S.a ≤ 1024
  mi : ∀ y ∈ M, 0 ≤ y.2 ∧ y.2.toNat < R.length
/-- What a call on a book does to the world. -/
structure Bst (w w' : World) (p q : Bp) : Prop where
  eq : q = { p with hp := q.hp }
  h : q.hp.h = p.hp.h
  mb : q.hp.mb = p.hp.mb
  kept : Kept w w' p.own
  own : ∀ i, q.own i → p.own i ∨ w.heap.size ≤ i
theorem Bst.b {w w' : World} {p q : Bp} (h : Bst w w' p q) : q.b = p.b := by rw [h.eq]
theorem Bst.hm {w w' : World} {p q : Bp} (h : Bst w w' p q) : q.hm = p.hm := by rw [h.eq]
theorem Bst.refl (w : World) (p : Bp) : Bst w w p p := ⟨rfl, rfl, rfl, Kept.refl _ _, fun _ e => .inl e⟩
theorem Bst.keep {w w' : World} {p : Bp} (k : Kept w w' p.own) : Bst w w' p p := ⟨rfl, rfl, rfl, k, fun _ e => .inl e⟩
theorem Bst.grown {w w' : World} (g : w.grownBy w' none) (p : Bp) : Bst w w' p p := Bst.keep (Kept.new g _)
theorem Bst.trans {a b c : World} {p q r : Bp} (h : Bst a b p q) (k : Bst b c q r) : Bst a c p r := by
  refine ⟨?_, k.h.trans h.h, k.mb.trans h.mb, h.kept.trans k.kept (fun i hi e => ?_), fun i e => ?_⟩
  · have h1 := k.eq
    rw [h.eq] at h1
    exact h1
  · rcases h.own i e with e | e
    · exact e
    · omega
  · rcases k.own i e with e | e
    · exact h.own i e
    · exact .inr (Nat.le_trans h.kept.size e)
section
variable {w w' : World} {p q : Bp} {S : Sb} {Lb Lb' : List Bool} {R : List Bg} {M E : List (Nat × Int)} {T : List Nat} {N B C : Nat} {f : Int → Option Nat}
theorem BkR.fd (h : BkR w p S Lb R M E T N B C f) : Fd w p.b p.sg p.ip M R :=
  ⟨⟨_, h.head, by simp [bkc, h.rl], rfl⟩, h.row, h.ix, h.mi, by rw [h.rl]; exact h.sa, fun e => h.ap.no Bp.r0 (Bp.r3 e) (by decide), fun e => h.ap.no Bp.r2 (Bp.r3 e) (by decide)⟩
theorem BkR.ls (h : BkR w p S Lb R M E T N B C f) : LsI w p.vb p.b p.sg p.ip M R := ⟨h.fd, h.var, fun e => h.ap.no Bp.r1 (Bp.r3 e) (by decide)⟩
theorem BkR.lt (h : BkR w p S Lb R M E T N B C f) : ∀ i, p.own i → i < w.heap.size := by
  rintro i ⟨k, (⟨-, rfl⟩ | ⟨-, rfl⟩ | ⟨-, rfl⟩ | ⟨-, hi⟩ | ⟨-, rfl⟩ | ⟨-, rfl⟩ | ⟨-, hi⟩ | ⟨-, rfl⟩)⟩
  · exact row_lt h.head
  · exact row_lt h.var
  · exact row_lt h.row
  · obtain ⟨lo, h1⟩ := h.ix; exact h1.lt i hi
  · exact h.set.lt.1
  · exact h.set.lt.2
  · exact h.due.at_.lt i hi
  · exact h.map.lt
theorem SetAt_far {X : Nat → Prop} {b g : Nat} (h : Bt.SetAt w b g Lb) (k : Kept w w' X) (hb : ¬ X b) (hg : ¬ X g) : Bt.SetAt w' b g Lb := by
  obtain ⟨W, cap, cur, h1, h2, h3⟩ := h
  exact ⟨W, cap, cur, k.at h1 hb, k.at h2 hg, h3⟩
theorem BkR.far {X : Nat → Prop} (h : BkR w p S Lb R M E T N B C f) (k : Kept w w' X) (hX : ∀ i, p.own i → ¬ X i) : BkR w' p S Lb R M E T N B C f := by
  have hx : ∀ {j i}, p.role j i → ¬ X i := fun e => hX _ ⟨_, e⟩
  have hl := h.ls.far k (hx Bp.r1) (hx Bp.r0) (hx Bp.r2) (fun i hi => hx (Bp.r3 hi))
  exact ⟨k.at h.head (hx Bp.r0), k.at h.var (hx Bp.r1), SetAt_far h.set k (hx Bp.r4) (hx Bp.r5), k.at h.row (hx Bp.r2), hl.fd.ix, HS_re h.due k (fun i hi => hx (Bp.r6 hi)) rfl rfl hl (fun _ e => e) (fun _ _ _ _ => rfl) h.due.ok, h.map.same (k.block _ h.map.lt (hx Bp.r7)), h.ap, h.z, h.rl, h.im, h.sa, h.mi⟩
theorem BkR.then (h : BkR w p S Lb R M E T N B C f) (k : w.grownBy w' none) : BkR w' p S Lb R M E T N B C f := h.far (Kept.new k (fun _ => False)) (fun _ _ e => e)
theorem Bst.bkc {w w' : World} {p q : Bp} (h : Bst w w' p q) (S : Sb) : bkc q S = bkc p S := by
  have e := h.h
  have e2 := h.eq
  unfold Go.Proofs.YtinkkocleognbaaGreatDoor.bkc
  rw [e]
  rw [e2]
theorem BkR.cells (h : BkR w p S Lb R M E T N B C f) : ∀ j v, (bkc p S)[j]? = some v → w.cell? ⟨p.b, j, none⟩ = some v := fun j v hv => by rw [cell_row h.head]; exact hv
/-- One role is written, all others stay. -/
theorem BkR.roleK (h : BkR w p S Lb R M E T N B C f) {j : Nat} : ∀ {i k}, p.role k i → k ≠ j → ¬ p.role j i := fun h1 hne h2 => hne (h.ap _ _ _ h1 h2)
theorem BkR.taken (h : BkR w p S Lb R M E T N B C f) (hg : w.grownBy w' (some p.tg)) (hs : Bt.SetAt w' p.tb p.tg Lb') : BkR w' p S Lb' R M E T N B C f ∧ Kept w w' p.own := by
  have k : Kept w w' (p.role 5) := Kept.of hg (fun _ e _ => by cases e; exact Bp.r5)
  have hl := h.ls.far k (h.roleK Bp.r1 (by decide)) (h.roleK Bp.r0 (by decide)) (h.roleK Bp.r2 (by decide)) (fun i hi => h.roleK (Bp.r3 hi) (by decide))
  exact ⟨⟨k.at h.head (h.roleK Bp.r0 (by decide)), k.at h.var (h.roleK Bp.r1 (by decide)), hs, k.at h.row (h.roleK Bp.r2 (by decide)), hl.fd.ix, HS_re h.due k (fun i hi => h.roleK (Bp.r6 hi) (by decide)) rfl rfl hl (fun _ e => e) (fun _ _ _ _ => rfl) h.due.ok, h.map.same (k.block _ h.map.lt (h.roleK Bp.r7 (by decide))), h.ap, h.z, h.rl, h.im, h.sa, h.mi⟩, k.mono (fun i _ e => ⟨5, e⟩)⟩
/-- The head is written: the next id, the clock. -/
theorem BkR.headed (h : BkR w p S Lb R M E T N B C f) {S' : Sb} (hg : w.grownBy w' (some p.b)) (hh : w'.heap[p.b]? = some (.cells (bkc p S').toArray 37 (0, 0))) (ha : S'.a = S.a) (hb : S'.b = S.b) : BkR w' p S' Lb R M E T N B C f ∧ Kept w w' p.own := by
  have k : Kept w w' (p.role 0) := Kept.of hg (fun _ e _ => by cases e; exact Bp.r0)
  have hix : ∃ lo, Ix.Io w' p.ip M lo := by obtain ⟨lo, h1⟩ := h.ix; exact ⟨lo, h1.far k (fun i hi => h.roleK (Bp.r3 hi) (by decide))⟩
  have hrow := k.at h.row (h.roleK Bp.r2 (by decide))
  have hfd : Fd w' p.b p.sg p.ip M R := ⟨⟨_, hh, by simp [bkc, h.rl, ha], rfl⟩, hrow, hix, h.mi, by rw [h.rl]; exact h.sa, h.fd.nb, h.fd.ns⟩
  have hvar := k.at h.var (h.roleK Bp.r1 (by decide))
  exact ⟨⟨hh, hvar, SetAt_far h.set k (h.roleK Bp.r4 (by decide)) (h.roleK Bp.r5 (by decide)), hrow, hix, HS_re h.due k (fun i hi => h.roleK (Bp.r6 hi) (by decide)) rfl rfl (show LsI _ _ _ _ _ _ _ from ⟨hfd, hvar, h.ls.nv⟩) (fun _ e => e) (fun _ _ _ _ => rfl) h.due.ok, h.map.same (k.block _ h.map.lt (h.roleK Bp.r7 (by decide))), h.ap, h.z, by rw [ha]; exact h.rl, by rw [hb]; exact h.im, by rw [ha]; exact h.sa, h.mi⟩, k.mono (fun i _ e => ⟨0, e⟩)⟩
/-- The seats are written. -/
theorem BkR.seated (h : BkR w p S Lb R M E T N B C f) {R' : List Bg} (hg : w.grownBy w' (some p.sg)) (hh : w'.heap[p.sg]? = some (.cells (bgs R').toArray 108 (0, 0))) (hl : R'.length = R.length) (ht : ∀ e ∈ E, tl M R' e.2.toNat = tl M R e.2.toNat) : BkR w' p S Lb R' M E T N B C f ∧ Kept w w' p.own := by
  have k : Kept w w' (p.role 2) := Kept.of hg (fun _ e _ => by cases e; exact Bp.r2)
  have hix : ∃ lo, Ix.Io w' p.ip M lo := by obtain ⟨lo, h1⟩ := h.ix; exact ⟨lo, h1.far k (fun i hi => h.roleK (Bp.r3 hi) (by decide))⟩
  have hhead := k.at h.head (h.roleK Bp.r0 (by decide))
  have hmi : ∀ y ∈ M, 0 ≤ y.2 ∧ y.2.toNat < R'.length := by rw [hl]; exact h.mi
  have hfd : Fd w' p.b p.sg p.ip M R' := ⟨⟨_, hhead, by simp [bkc, h.rl, hl], rfl⟩, hh, hix, hmi, by rw [hl, h.rl]; exact h.sa, h.fd.nb, h.fd.ns⟩
  have hvar := k.at h.var (h.roleK Bp.r1 (by decide))
  refine ⟨⟨hhead, hvar, SetAt_far h.set k (h.roleK Bp.r4 (by decide)) (h.roleK Bp.r5 (by decide)), hh, hix, HS_re h.due k (fun i hi => h.roleK (Bp.r6 hi) (by decide)) rfl rfl (show LsI _ _ _ _ _ _ _ from ⟨hfd, hvar, h.ls.nv⟩) (fun _ e => e) (fun i j hi hj => ?_) h.due.ok, h.map.same (k.block _ h.map.lt (h.roleK Bp.r7 (by decide))), h.ap, h.z, by rw [hl]; exact h.rl, h.im, h.sa, hmi⟩, k.mono (fun i _ e => ⟨2, e⟩)⟩
  show decide (tl M R' _ < tl M R' _) = decide (tl M R _ < tl M R _)
  rw [ht _ (Hp.en_mem hi), ht _ (Hp.en_mem hj)]
/-- The index is written. -/
theorem BkR.indexed (h : BkR w p S Lb R M E T N B C f) {M' : List (Nat × Int)} (k0 : Kept w w' p.ip.own) (hi : ∃ lo, Ix.Io w' p.ip M' lo) (hm : ∀ y ∈ M', 0 ≤ y.2 ∧ y.2.toNat < R.length) (ht : ∀ e ∈ E, tl M' R e.2.toNat = tl M R e.2.toNat) : BkR w' p S Lb R M' E T N B C f ∧ Kept w w' p.own := by
  have k : Kept w w' (p.role 3) := k0.mono (fun _ _ e => Bp.r3 e)
  have hhead := k.at h.head (h.roleK Bp.r0 (by decide))
  have hrow := k.at h.row (h.roleK Bp.r2 (by decide))
  have hfd : Fd w' p.b p.sg p.ip M' R := ⟨⟨_, hhead, by simp [bkc, h.rl], rfl⟩, hrow, hi, hm, by rw [h.rl]; exact h.sa, h.fd.nb, h.fd.ns⟩
  have hvar := k.at h.var (h.roleK Bp.r1 (by decide))
  refine ⟨⟨hhead, hvar, SetAt_far h.set k (h.roleK Bp.r4 (by decide)) (h.roleK Bp.r5 (by decide)), hrow, hi, HS_re h.due k (fun i hi => h.roleK (Bp.r6 hi) (by decide)) rfl rfl (show LsI _ _ _ _ _ _ _ from ⟨hfd, hvar, h.ls.nv⟩) (fun _ e => e) (fun i j hi hj => ?_) h.due.ok, h.map.same (k.block _ h.map.lt (h.roleK Bp.r7 (by decide))), h.ap, h.z, h.rl, h.im, h.sa, hm⟩, k.mono (fun i _ e => ⟨3, e⟩)⟩
  show decide (tl M' R _ < tl M' R _) = decide (tl M R _ < tl M R _)
  rw [ht _ (Hp.en_mem hi), ht _ (Hp.en_mem hj)]
/-- The index and the seats are written, and what is not the book's. -/
theorem BkR.moved (h : BkR w p S Lb R M E T N B C f) {M' : List (Nat × Int)} {R' : List Bg} {Z : Nat → Prop} (hZ : ∀ i, p.own i → ¬ Z i) (k0 : Kept w w' (fun i => p.ip.own i ∨ i = p.sg ∨ Z i)) (hi : ∃ lo, Ix.Io w' p.ip M' lo) (hh : w'.heap[p.sg]? = some (.cells (bgs R').toArray 108 (0, 0))) (hl : R'.length = R.length) (hm : ∀ y ∈ M', 0 ≤ y.2 ∧ y.2.toNat < R.length) (ht : ∀ e ∈ E, tl M' R' e.2.toNat = tl M R e.2.toNat) : BkR w' p S Lb R' M' E T N B C f := by
  have k : Kept w w' (fun i => p.role 3 i ∨ p.role 2 i ∨ Z i) := k0.mono (fun _ _ e => e.elim (fun e => .inl (Bp.r3 e)) (fun e => e.elim (fun e => .inr (.inl (by rw [e]; exact Bp.r2))) (fun e => .inr (.inr e))))
  have hn : ∀ {i j}, p.role j i → j ≠ 3 → j ≠ 2 → ¬ (p.role 3 i ∨ p.role 2 i ∨ Z i) := fun h1 h2 h3 h4 => h4.elim (h.roleK h1 h2) (fun h4 => h4.elim (h.roleK h1 h3) (hZ _ ⟨_, h1⟩))
  have hhead := k.at h.head (hn Bp.r0 (by decide) (by decide))
  have hm' : ∀ y ∈ M', 0 ≤ y.2 ∧ y.2.toNat < R'.length := by rw [hl]; exact hm
  have hfd : Fd w' p.b p.sg p.ip M' R' := ⟨⟨_, hhead, by simp [bkc, h.rl, hl], rfl⟩, hh, hi, hm', by rw [hl, h.rl]; exact h.sa, h.fd.nb, h.fd.ns⟩
  have hvar := k.at h.var (hn Bp.r1 (by decide) (by decide))
  refine ⟨hhead, hvar, SetAt_far h.set k (hn Bp.r4 (by decide) (by decide)) (hn Bp.r5 (by decide) (by decide)), hh, hi, HS_re h.due k (fun i hi => hn (Bp.r6 hi) (by decide) (by decide)) rfl rfl (show LsI _ _ _ _ _ _ _ from ⟨hfd, hvar, h.ls.nv⟩) (fun _ e => e) (fun i j hi hj => ?_) h.due.ok, h.map.same (k.block _ h.map.lt (hn Bp.r7 (by decide) (by decide))), h.ap, h.z, by rw [hl]; exact h.rl, h.im, h.sa, hm'⟩
  show decide (tl M' R' _ < tl M' R' _) = decide (tl M R _ < tl M R _)
  rw [ht _ (Hp.en_mem hi), ht _ (Hp.en_mem hj)]
/-- The map of handles is written. -/
theorem BkR.mapped (h : BkR w p S Lb R M E T N B C f) {C' : Nat} {f' : Int → Option Nat} (hg : w.grownBy w' (some p.hm)) (hm : U.MapAt w' Tryz.prog 30 p.hm C' (fun k => (f' k).map fun (n : Nat) => Value.int .i64 (n : Int))) : BkR w' p S Lb R M E T N B C' f' ∧ Kept w w' p.own := by
  have k : Kept w w' (p.role 7) := Kept.of hg (fun _ e _ => by cases e; exact Bp.r7)
  have hl := h.ls.far k (h.roleK Bp.r1 (by decide)) (h.roleK Bp.r0 (by decide)) (h.roleK Bp.r2 (by decide)) (fun i hi => h.roleK (Bp.r3 hi) (by decide))
  exact ⟨⟨k.at h.head (h.roleK Bp.r0 (by decide)), k.at h.var (h.roleK Bp.r1 (by decide)), SetAt_far h.set k (h.roleK Bp.r4 (by decide)) (h.roleK Bp.r5 (by decide)), k.at h.row (h.roleK Bp.r2 (by decide)), hl.fd.ix, HS_re h.due k (fun i hi => h.roleK (Bp.r6 hi) (by decide)) rfl rfl hl (fun _ e => e) (fun _ _ _ _ => rfl) h.due.ok, hm, h.ap, h.z, h.rl, h.im, h.sa, h.mi⟩, k.mono (fun i _ e => ⟨7, e⟩)⟩
/-- The heap is written. -/
theorem BkR.heaped (h : BkR w p S Lb R M E T N B C f) {E' : List (Nat × Int)} {T' : List Nat} {N' B' : Nat} {q : Hp.Hp} (hs : Hp.HS w' (lsB p.vb p.b p.sg p.ip M R) q E' T' N' B') (hst : Hp.Hst w w' (lsB p.vb p.b p.sg p.ip M R) p.hp q) : BkR w' { p with hp := q } S Lb R M E' T' N' B' C f ∧ Bst w w' p { p with hp := q } := by
  have k : Kept w w' (fun i => p.role 3 i ∨ p.role 6 i) := hst.kept.mono (fun i _ e => e.elim (fun e => .inl (Bp.r3 e)) (fun e => .inr (Bp.r6 e)))
  have hn : ∀ {i j}, p.role j i → j ≠ 3 → j ≠ 6 → ¬ (p.role 3 i ∨ p.role 6 i) := fun h1 h2 h3 h4 => h4.elim (h.roleK h1 h2) (h.roleK h1 h3)
  have hI : LsI w' p.vb p.b p.sg p.ip M R := hs.at_.inv
  have hhd : bkc { p with hp := q } S = bkc p S := by unfold bkc; simp only; rw [hst.h]
  have hown : ∀ i, Bp.own { p with hp := q } i → p.own i ∨ w.heap.size ≤ i := by
    rintro i ⟨j, (⟨hj, e⟩ | ⟨hj, e⟩ | ⟨hj, e⟩ | ⟨hj, e⟩ | ⟨hj, e⟩ | ⟨hj, e⟩ | ⟨hj, e⟩ | ⟨hj, e⟩)⟩
    · exact .inl ⟨0, .inl ⟨rfl, e⟩⟩
    · exact .inl ⟨1, .inr (.inl ⟨rfl, e⟩)⟩
    · exact .inl ⟨2, .inr (.inr (.inl ⟨rfl, e⟩))⟩
    · exact .inl ⟨3, Bp.r3 e⟩
    · exact .inl ⟨4, .inr (.inr (.inr (.inr (.inl ⟨rfl, e⟩))))⟩
    · exact .inl ⟨5, .inr (.inr (.inr (.inr (.inr (.inl ⟨rfl, e⟩)))))⟩
    · rcases hst.own i e with e | e
      · exact .inl ⟨6, Bp.r6 e⟩
      · exact .inr e
    · exact .inl ⟨7, .inr (.inr (.inr (.inr (.inr (.inr (.inr ⟨rfl, e⟩))))))⟩
  have hrole : ∀ i j, Bp.role { p with hp := q } j i → p.role j i ∨ (j = 6 ∧ w.heap.size ≤ i) := by
    rintro i j (⟨rfl, e⟩ | ⟨rfl, e⟩ | ⟨rfl, e⟩ | ⟨rfl, e⟩ | ⟨rfl, e⟩ | ⟨rfl, e⟩ | ⟨rfl, e⟩ | ⟨rfl, e⟩)
    · exact .inl (.inl ⟨rfl, e⟩)
    · exact .inl (.inr (.inl ⟨rfl, e⟩))
    · exact .inl (.inr (.inr (.inl ⟨rfl, e⟩)))
    · exact .inl (Bp.r3 e)
    · exact .inl (.inr (.inr (.inr (.inr (.inl ⟨rfl, e⟩)))))
    · exact .inl (.inr (.inr (.inr (.inr (.inr (.inl ⟨rfl, e⟩))))))
    · rcases hst.own i e with e | e
      · exact .inl (Bp.r6 e)
      · exact .inr ⟨rfl, e⟩
    · exact .inl (.inr (.inr (.inr (.inr (.inr (.inr (.inr ⟨rfl, e⟩)))))))
  have hap : Bp.Apart { p with hp := q } := by
    intro i j l h1 h2
    rcases hrole i j h1 with h1 | ⟨h1, g1⟩ <;> rcases hrole i l h2 with h2 | ⟨h2, g2⟩
    · exact h.ap i j l h1 h2
    · have := h.lt i ⟨j, h1⟩; omega
    · have := h.lt i ⟨l, h2⟩; omega
    · rw [h1, h2]
  refine ⟨⟨by rw [hhd]; exact k.at h.head (hn Bp.r0 (by decide) (by decide)), k.at h.var (hn Bp.r1 (by decide) (by decide)), SetAt_far h.set k (hn Bp.r4 (by decide) (by decide)) (hn Bp.r5 (by decide) (by decide)), k.at h.row (hn Bp.r2 (by decide) (by decide)), hI.fd.ix, hs, h.map.same (k.block _ h.map.lt (hn Bp.r7 (by decide) (by decide))), hap, fun e => ?_, h.rl, h.im, h.sa, h.mi⟩, ⟨rfl, hst.h, hst.mb, k.mono (fun i _ e => e.elim (fun e => ⟨3, e⟩) (fun e => ⟨6, e⟩)), hown⟩⟩
  rcases hown 0 e with e | e
  · exact h.z e
  · have := h.lt _ ⟨0, Bp.r0⟩; omega
end
end Go.Proofs.YtinkkocleognbaaGreatDoor
/- A book's parts, asked and changed. -/
namespace Go.Proofs.YtinkkocleognbaaGreatDoor
open Go.RowKit
attribute [local go_sem ↓] Go.wp_at_zero Go.wp_at_succ
section
variable {w w' : World} {p q : Bp} {S : Sb} {Lb Lb' : List Bool} {R : List Bg} {M E : List (Nat × Int)} {T : List Nat} {N B C : Nat} {f : Int → Option Nat}
theorem isNone_bk (h : BkR w p S Lb R M E T N B C f) : Calls Tryz.prog 64 #[.pointer (some ⟨p.b, 0, none⟩)] w fun e w' => e = .returned (.bool false) ∧ w' = w := by
  have c0 := h.cells 3 _ rfl
  have hsome : (Tryz.prog.info? 37).isSome = true := by kernel_rfl
  obtain ⟨j, hj⟩ := Option.isSome_iff_exists.1 hsome
  have hs := Go.Lib.run_neq_ptr_same (P := Tryz.prog) (tp := 27) (te := 37) w ⟨p.b, 0, none⟩ Tryz.underlying27 hj
  clear h hsome hj
  go_enter Tryz.func64, Tryz.ntmps64
  go_wp2
  go_ret
  exact ⟨rfl, rfl⟩
theorem put_bk (h : BkR w p S Lb R M E T N B C f) (i : Nat) (hi : i < Lb.length) : Calls Tryz.prog 115 #[.pointer (some ⟨p.tb, 0, none⟩), .int .i64 (i : Int)] w fun e w' => e = .returned (.int .i64 0) ∧ BkR w' p S (Lb.set i true) R M E T N B C f ∧ Kept w w' p.own := by
  refine (Bt.put_any _ _ _ i w h.set hi).mono ?_
  rintro e w' ⟨rfl, h1, h2⟩
  exact ⟨rfl, h.taken h2 h1⟩
theorem free_bk (h : BkR w p S Lb R M E T N B C f) (i : Nat) (hi : i < Lb.length) : Calls Tryz.prog 140 #[.pointer (some ⟨p.tb, 0, none⟩), .int .i64 (i : Int)] w fun e w' => e = .returned (.int .i64 0) ∧ BkR w' p S (Lb.set i false) R M E T N B C f ∧ Kept w w' p.own := by
  refine (Bt.drop_any _ _ _ i w h.set hi).mono ?_
  rintro e w' ⟨rfl, h1, h2⟩
  exact ⟨rfl, h.taken h2 h1⟩
theorem has_bk (h : BkR w p S Lb R M E T N B C f) (i : Nat) (hi : i < Lb.length) : Calls Tryz.prog 111 #[.pointer (some ⟨p.tb, 0, none⟩), .int .i64 (i : Int)] w fun e w' => e = .returned (.bool (Lb.getD i false)) ∧ w.grownBy w' none :=
  Bt.has_any _ _ _ i w h.set hi
theorem len_bk (h : BkR w p S Lb R M E T N B C f) : Calls Tryz.prog 80 #[.pointer (some ⟨p.ip.x, 0, none⟩)] w fun e w' => e = .returned (.int .i64 (M.length : Int)) ∧ w' = w := by
  obtain ⟨lo, h1⟩ := h.ix; exact h1.len
theorem find_bk (h : BkR w p S Lb R M E T N B C f) (k : Nat) (hk : k < 4294967296) : Calls Tryz.prog 107 #[.pointer (some ⟨p.b, 0, none⟩), .int .u32 (k : Int)] w fun e w' => e = .returned (.tuple #[bgV (fn M R k), .int .i64 (if (Ix.lk M k).isSome then 0 else 171)]) ∧ BkR w' p S Lb R M E T N B C f ∧ Kept w w' p.own := by
  refine (find_any h.fd k hk).mono ?_
  rintro e w' ⟨rfl, h1, h2⟩
  exact ⟨rfl, h.indexed h2 h1.ix h.mi (fun _ _ => rfl)⟩
theorem ixput_bk (h : BkR w p S Lb R M E T N B C f) (k s : Nat) (hk : k < 4294967296) (hs : s < R.length) (hn : Ix.lk M k = none) (hf : M.length < S.b) (ht : ∀ e ∈ E, e.2.toNat ≠ k) : Calls Tryz.prog 116 #[.pointer (some ⟨p.ip.x, 0, none⟩), .int .u32 (k : Int), .int .i64 (s : Int)] w fun e w' => e = .returned (.int .i64 0) ∧ BkR w' p S Lb R (Ix.ins M (k, (s : Int))) E T N B C f ∧ Kept w w' p.own := by
  obtain ⟨lo, h1⟩ := h.ix
  have hsl : s ≤ 1024 := by have := h.sa; rw [h.rl] at hs; omega
  have hp1 : Ix.putE M k p.ip.m = 0 := by unfold Ix.putE; rw [hn, if_neg (by simp), if_neg (by rw [h.im]; omega)]
  have hp2 : Ix.putM M k p.ip.m (s : Int) = Ix.ins M (k, (s : Int)) := by unfold Ix.putM; rw [hn, if_neg (by simp), if_neg (by rw [h.im]; omega)]
  have hc := Ix.put_io h1 k hk (s : Int) (by omega) (by omega)
  rw [hp1, hp2] at hc
  refine hc.mono ?_
  rintro e w' ⟨rfl, h2, h3⟩
  refine ⟨rfl, h.indexed h3 ⟨true, h2⟩ (fun y hy => ?_) (fun e he => ?_)⟩
  · rcases Ix.ins_mem.1 hy with rfl | hy
    · simp; exact hs
    · exact h.mi y hy
  · unfold tl
    rw [Ix.lk_ins h1.asc hn, if_neg (ht e he)]
theorem ixdrop_bk (h : BkR w p S Lb R M E T N B C f) (k : Nat) (hk : k < 4294967296) (ht : ∀ e ∈ E, e.2.toNat ≠ k) : Calls Tryz.prog 139 #[.pointer (some ⟨p.ip.x, 0, none⟩), .int .u32 (k : Int)] w fun e w' => e = .returned (.bool (Ix.lk M k).isSome) ∧ BkR w' p S Lb R (Ix.dr M k) E T N B C f ∧ Kept w w' p.own := by
  obtain ⟨lo, h1⟩ := h.ix
  refine (Ix.drop_io h1 k hk).mono ?_
  rintro e w' ⟨rfl, h2, h3⟩
  refine ⟨rfl, h.indexed h3 ⟨true, h2⟩ (fun y hy => h.mi y (Ix.dr_mem.1 hy).1) (fun e he => ?_)⟩
  unfold tl
  rw [Ix.lk_dr h1.asc, if_neg (ht e he)]
theorem push_bk (h : BkR w p S Lb R M E T N B C f) (hE : E.length < 65536) (hN : N ≤ 100000000) (hB : B ≤ 100000000) (k : Nat) (hk : k < 4294967296) : Calls Tryz.prog 117 #[.pointer (some ⟨p.hp.h, 0, none⟩), .int .u32 (k : Int)] w fun e w' => e = .returned (.tuple #[.int .i64 (N : Int), .int .i64 0]) ∧ ∃ q T', BkR w' q S Lb R M (E ++ [(N, (k : Int))]) T' (N + 1) (B + 1) C f ∧ Bst w w' p q := by
  refine (Hp.push_any (lsB_ok _ _ _ _ _ _) h.due hE hN hB (k : Int) (show 0 ≤ (k : Int) ∧ (k : Int) < 4294967296 by omega)).mono ?_
  rintro e w' ⟨rfl, q, T', h1, h2⟩
  obtain ⟨h3, h4⟩ := h.heaped h1 h2
  exact ⟨rfl, _, T', h3, h4⟩
theorem hdrop_bk (h : BkR w p S Lb R M E T N B C f) (hE : E.length ≤ 65536) (hN : N ≤ 100000000) (hB : B ≤ 100000000) (i : Nat) (hi : i < E.length) : Calls Tryz.prog 138 #[.pointer (some ⟨p.hp.h, 0, none⟩), .int .i64 ((Hp.en E i).1 : Int)] w fun e w' => e = .returned (.bool true) ∧ ∃ q T', BkR w' q S Lb R M (Hp.outE E i) T' N (B + 1) C f ∧ Bst w w' p q := by
  have hf := Hp.fi_at h.due.hds hi
  have hb := h.due.hds.below i hi
  have hc := Hp.drop_any (lsB_ok _ _ _ _ _ _) h.due hE hN hB ((Hp.en E i).1 : Int) (Hp.wf_i64 (by omega) (by omega))
  rw [hf] at hc
  refine hc.mono ?_
  rintro e w' ⟨rfl, q, T', h1, h2⟩
  obtain ⟨h3, h4⟩ := h.heaped h1 h2
  exact ⟨rfl, _, T', h3, h4⟩
theorem least_bk (h : BkR w p S Lb R M E T N B C f) : Calls Tryz.prog 144 #[.pointer (some ⟨p.hp.h, 0, none⟩)] w fun e w' => e = .returned (.tuple #[.int .u32 (if 0 < E.length then (Hp.en E (Hp.tn T 0)).2 else 0), .int .i64 (if 0 < E.length then ((Hp.en E (Hp.tn T 0)).1 : Int) else 0), .bool (decide (0 < E.length))]) ∧ w.grownBy w' none := h.due.least
/-- The one that is told has the least until of all. -/
theorem least_le (h : BkR w p S Lb R M E T N B C f) (hE : 0 < E.length) : Hp.tn T 0 < E.length ∧ ∀ e ∈ E, tl M R (Hp.en E (Hp.tn T 0)).2.toNat ≤ tl M R e.2.toNat := by
  have h1 := (h.due.good.sub 0 hE).2
  refine ⟨h1, fun e he => ?_⟩
  obtain ⟨j, hj, rfl⟩ := List.mem_iff_getElem.1 he
  have := Hp.Good.least (r := fun x : Int => tl M R x.toNat) (fun i j _ _ => rfl) h.due.good j hj
  rw [en_getElem hj] at this
  rcases this with h2 | ⟨h2, -⟩
  · exact Int.le_of_lt h2
  · exact Int.le_of_eq h2
/-- The map of handles, asked. -/
theorem zero3 (w : World) : (zeroValue 3).run Tryz.prog w = .ok (.int .i64 0) w := by kernel_rfl
theorem wf_u32 {s : Nat} (h : s < 4294967296) : (Lit.int .u32 (s : Int)).wf = true := by
  simp [Lit.wf, IntKind.min, IntKind.max, IntKind.signed, IntKind.bits]; omega
theorem look_bk (h : BkR w p S Lb R M E T N B C f) (k : Nat) (hk : k < 4294967296) : (Instr.lookup 35 (.map (some p.hm)) (.int .u32 (k : Int)) true).run Tryz.prog w = .ok (.tuple #[.int .i64 (((f (k : Int)).getD 0 : Nat) : Int), .bool (f (k : Int)).isSome]) w := by
  rw [h.map.look (by first | exact Tryz.underlying30 | kernel_rfl) Tryz.underlying35 (zero3 w) (wf_u32 hk)]
  cases f (k : Int) <;> rfl
end
end Go.Proofs.YtinkkocleognbaaGreatDoor
/- A booking added to a book. -/
namespace Go.Proofs.YtinkkocleognbaaGreatDoor
open Go.RowKit
attribute [local go_sem ↓] Go.wp_at_zero Go.wp_at_succ
/-- A book, and as many items as were due in it at most. -/
def BkAt (w : World) (p : Bp) (S : Sb) (K : Nat) : Prop := ∃ Lb R M E T N B C, BkR w p S Lb R M E T N B C (hmf E) ∧ Rel S Lb R M E ∧ N ≤ K ∧ B + E.length ≤ 2 * N ∧ C ≤ N
theorem few_due : ∀ {E : List (Nat × Int)} {L : List Bg}, (E.Pairwise fun e f => e.2 ≠ f.2) → (∀ e ∈ E, ∃ x ∈ L, (x.i : Int) = e.2) → E.length ≤ L.length
  | [], _, _, _ => Nat.zero_le _
  | e :: E, L, h3, h1 => by
    obtain ⟨x, hx, hxe⟩ := h1 e (List.mem_cons_self ..)
    obtain ⟨h4, h5⟩ := List.pairwise_cons.1 h3
    have ih := few_due (E := E) (L := del L x.i) h5 (fun f hf => by
      obtain ⟨y, hy, hyf⟩ := h1 f (List.mem_cons_of_mem _ hf)
      exact ⟨y, del_mem.2 ⟨hy, fun e2 => h4 f hf (by rw [← hxe, ← hyf, e2])⟩, hyf⟩)
    have hl : (del L x.i).length < L.length := by
      unfold del
      rw [List.length_filter_lt_length_iff_exists]
      exact ⟨x, hx, by simp⟩
    simp
    omega
theorem Rel.few {S : Sb} {Lb : List Bool} {R : List Bg} {M E : List (Nat × Int)} (h : Rel S Lb R M E) : E.length ≤ S.L.length :=
  few_due h.e3 (fun e he => by obtain ⟨x, hx, h1, -⟩ := h.e1 e he; exact ⟨x, hx, h1⟩)
/-- A box beside a book. -/
structure Bx (w W : World) (X : Nat) (cs : List Value) (ty : TypeId) (p q : Bp) : Prop where
  box : W.heap[X]? = some (.cells cs.toArray ty (0, 0))
  st : Bst w W p q
  nx : ¬ q.own X
  lo : w.heap.size ≤ X
section
variable {w W W' : World} {X : Nat} {cs : List Value} {ty : TypeId} {p q q' : Bp}
theorem Bx.step (h : Bx w W X cs ty p q) (k : Bst W W' q q') : Bx w W' X cs ty p q' :=
  ⟨k.kept.at h.box h.nx, h.st.trans k, fun e => by
    rcases k.own _ e with e | e
    · exact h.nx e
    · have := row_lt h.box; omega, h.lo⟩
theorem Bx.keep (h : Bx w W X cs ty p q) (k : Kept W W' q.own) : Bx w W' X cs ty p q := h.step (Bst.keep k)
theorem Bx.then (h : Bx w W X cs ty p q) (k : W.grownBy W' none) : Bx w W' X cs ty p q := h.keep (Kept.new k _)
theorem Bx.cells (h : Bx w W X cs ty p q) : ∀ j v, cs[j]? = some v → W.cell? ⟨X, j, none⟩ = some v := fun j v hv => by rw [cell_row h.box]; exact hv
theorem Bx.start {w : World} {p : Bp} (hlt : ∀ i, p.own i → i < w.heap.size) (cs : List Value) (ty : TypeId) : Bx w (w.alloc (.cells cs.toArray ty)) w.heap.size cs ty p p :=
  ⟨heap_alloc_new w _, Bst.grown (grown_alloc w _) p, fun e => Nat.lt_irrefl _ (hlt _ e), Nat.le_refl _⟩
end
section
variable {w w' : World} {p q : Bp} {S : Sb} {Lb Lb' : List Bool} {R : List Bg} {M E : List (Nat × Int)} {T : List Nat} {N B C K : Nat} {f : Int → Option Nat}
/-- Another seat's booking leaves an id's until as it is. -/
theorem tl_set {M : List (Nat × Int)} {R : List Bg} {k s : Nat} {y : Bg} (h : Ix.lk M k ≠ some (s : Int)) (hm : ∀ y ∈ M, 0 ≤ y.2) (ha : Ix.Asc M) : tl M (R.set s y) k = tl M R k := by
  unfold tl
  cases hq : Ix.lk M k with
  | none => rfl
  | some t =>
    have h0 : 0 ≤ t := hm (k, t) ((Ix.lk_some ha).1 hq)
    have hne : ¬ s = t.toNat := fun e => h (by rw [hq, e]; congr 1; omega)
    simp [List.getElem?_set, hne]
theorem seat_lies (h : BkR w p S Lb R M E T N B C f) {s : Nat} (hs : s < R.length) : (∃ a b c, w.cell? ⟨p.sg, s * 3, none⟩ = some a ∧ w.cell? ⟨p.sg, s * 3 + 1, none⟩ = some b ∧ w.cell? ⟨p.sg, s * 3 + 2, none⟩ = some c) ∧ (∀ j, w.frozen? ⟨p.sg, j, none⟩ = false) := by
  obtain ⟨h1, h2, h3⟩ := h.fd.seat hs
  exact ⟨⟨_, _, _, h1, h2, h3⟩, fun j => free_row h.row j⟩
/-- A booking is written at its seat. -/
theorem BkR.laid (h : BkR w p S Lb R M E T N B C f) (s : Nat) (y : Bg) (ht : ∀ e ∈ E, Ix.lk M e.2.toNat ≠ some (s : Int)) : BkR (((w.setCell ⟨p.sg, s * 3, none⟩ (.int .u32 (y.i : Int))).setCell ⟨p.sg, s * 3 + 1, none⟩ (.int .i64 (y.s : Int))).setCell ⟨p.sg, s * 3 + 2, none⟩ (.int .i64 y.u)) p S Lb (R.set s y) M E T N B C f ∧ Kept w (((w.setCell ⟨p.sg, s * 3, none⟩ (.int .u32 (y.i : Int))).setCell ⟨p.sg, s * 3 + 1, none⟩ (.int .i64 (y.s : Int))).setCell ⟨p.sg, s * 3 + 2, none⟩ (.int .i64 y.u)) p.own := by
  obtain ⟨lo, h1⟩ := h.ix
  refine h.seated (grown_trans (grown_trans (grown_setCell w _ _ _) (grown_setCell _ _ _ _)) (grown_setCell _ _ _ _)) ?_ (by simp) (fun e he => tl_set (ht e he) (fun y hy => (h.mi y hy).1) h1.asc)
  rw [bgs_set]
  exact row_setCell (row_setCell (row_setCell h.row _ _) _ _) _ _
set_option maxHeartbeats 4000000 in
theorem add_any (h : BkAt w p S K) (hw : S.Wk) (hK : K ≤ 10000000) (x : Bg) (hi : x.i < 4294967296) (hs : x.s < S.a) (ha : ∀ y ∈ S.L, y.i < x.i) (hn : sat S.L x.s = none) (hf : S.L.length < S.b) :
    Calls Tryz.prog 79 #[.pointer (some ⟨p.b, 0, none⟩), bgV x] w fun e w' => e = .returned (.tuple #[]) ∧ ∃ q, BkAt w' q { S with L := S.L ++ [x] } (K + 1) ∧ Bst w w' p q := by
  obtain ⟨Lb, R, M, E, T, N, B, C, h, hR, hN, hB, hC⟩ := h
  have hasc : Ix.Asc M := by obtain ⟨lo, h1⟩ := h.ix; exact h1.asc
  have hE : E.length < 65536 := by have := hR.few; have := hw.b1; omega
  have hLb : x.s < Lb.length := by rw [hR.lb]; exact hs
  have hRs : x.s < R.length := by rw [hR.rl]; exact hs
  have hno : fnd S.L x.i = none := fnd_none.2 (fun y hy e => by have := ha y hy; omega)
  have hlk : Ix.lk M x.i = none := by rw [hR.m, lk_mx, hno]; rfl
  have hml : M.length < S.b := by rw [hR.m, mx_length]; exact hf
  have hid : ∀ e ∈ E, e.2.toNat ≠ x.i := fun e he e2 => by
    obtain ⟨y, hy, h1, -⟩ := hR.e1 e he
    have := ha y hy
    omega
  have hst : ∀ e ∈ E, Ix.lk M e.2.toNat ≠ some (x.s : Int) := fun e he e2 => by
    obtain ⟨y, hy, h1, -⟩ := hR.e1 e he
    have h2 : e.2.toNat = y.i := by omega
    rw [h2, hR.m, lk_mx, (fnd_some hw.asc).2 ⟨hy, rfl⟩] at e2
    have e3 := Option.some.inj e2
    exact sat_none.1 hn y hy (Int.ofNat.inj e3)
  have b0 := Bx.start h.lt (bgc x) 108
  have h0 := h.then (grown_alloc w (.cells (bgc x).toArray 108))
  have HF : Hid (∀ W q E' T' N' B' C', BkR W q S (Lb.set x.s true) (R.set x.s x) (Ix.ins M (x.i, (x.s : Int))) E' T' N' B' C' (hmf E') → Bst w W p q → (x.u = 0 ∧ E' = E ∧ N' = N ∧ B' = B ∧ C' = C ∨ x.u ≠ 0 ∧ E' = E ++ [(N, (x.i : Int))] ∧ N' = N + 1 ∧ B' = B + 1 ∧ C' = C + 1) → ∃ q, BkAt W q { S with L := S.L ++ [x] } (K + 1) ∧ Bst w W p q) := by
    intro W q E' T' N' B' C' h1 h2 h3
    refine ⟨q, ⟨_, _, _, E', T', N', B', C', ⟨h1.head, h1.var, h1.set, h1.row, h1.ix, h1.due, h1.map, h1.ap, h1.z, h1.rl, h1.im, h1.sa, h1.mi⟩, ?_⟩, h2⟩
    rcases h3 with ⟨h3, rfl, rfl, rfl, rfl⟩ | ⟨h3, rfl, rfl, rfl, rfl⟩
    · exact ⟨hR.add hw hs ha hn h3, by omega, hB, hC⟩
    · exact ⟨hR.addH hw hs ha hn h3 N, by omega, by simp; omega, by omega⟩
  have HC1 : Hid (∀ W, (w.alloc (.cells (bgc x).toArray 108)).grownBy W none → Calls Tryz.prog 115 #[.pointer (some ⟨p.tb, 0, none⟩), .int .i64 (x.s : Int)] W fun e w' => e = .returned (.int .i64 0) ∧ BkR w' p S (Lb.set x.s true) R M E T N B C (hmf E) ∧ Bx w w' w.heap.size (bgc x) 108 p p) := by
    intro W hg
    refine (put_bk (h0.then hg) x.s hLb).mono ?_
    rintro e w' ⟨rfl, h1, h2⟩
    exact ⟨rfl, h1, (b0.then hg).keep h2⟩
  have HC3 : Hid (∀ W, BkR W p S (Lb.set x.s true) (R.set x.s x) M E T N B C (hmf E) → Bx w W w.heap.size (bgc x) 108 p p → Calls Tryz.prog 116 #[.pointer (some ⟨p.ip.x, 0, none⟩), .int .u32 (x.i : Int), .int .i64 (x.s : Int)] W fun e w' => e = .returned (.int .i64 0) ∧ BkR w' p S (Lb.set x.s true) (R.set x.s x) (Ix.ins M (x.i, (x.s : Int))) E T N B C (hmf E) ∧ Bx w w' w.heap.size (bgc x) 108 p p) := by
    intro W h1 h2
    refine (ixput_bk h1 x.i x.s hi (by simp; exact hRs) hlk hml hid).mono ?_
    rintro e w' ⟨rfl, h3, h4⟩
    exact ⟨rfl, h3, h2.keep h4⟩
  have HC5 : Hid (∀ W, BkR W p S (Lb.set x.s true) (R.set x.s x) (Ix.ins M (x.i, (x.s : Int))) E T N B C (hmf E) → Bx w W w.heap.size (bgc x) 108 p p → Calls Tryz.prog 117 #[.pointer (some ⟨p.hp.h, 0, none⟩), .int .u32 (x.i : Int)] W fun e w' => e = .returned (.tuple #[.int .i64 (N : Int), .int .i64 0]) ∧ ∃ q T', BkR w' q S (Lb.set x.s true) (R.set x.s x) (Ix.ins M (x.i, (x.s : Int))) (E ++ [(N, (x.i : Int))]) T' (N + 1) (B + 1) C (hmf E) ∧ Bx w w' w.heap.size (bgc x) 108 p q) := by
    intro W h1 h2
    refine (push_bk h1 hE (by omega) (by omega) x.i hi).mono ?_
    rintro e w' ⟨rfl, q, T', h3, h4⟩
    exact ⟨rfl, q, T', h3, h2.step h4⟩
  have HL : Hid (∀ W, BkR W p S (Lb.set x.s true) R M E T N B C (hmf E) → (∃ a b c, W.cell? ⟨p.sg, x.s * 3, none⟩ = some a ∧ W.cell? ⟨p.sg, x.s * 3 + 1, none⟩ = some b ∧ W.cell? ⟨p.sg, x.s * 3 + 2, none⟩ = some c) ∧ (∀ j, W.frozen? ⟨p.sg, j, none⟩ = false) ∧ ∀ W', W' = ((W.setCell ⟨p.sg, x.s * 3, none⟩ (.int .u32 (x.i : Int))).setCell ⟨p.sg, x.s * 3 + 1, none⟩ (.int .i64 (x.s : Int))).setCell ⟨p.sg, x.s * 3 + 2, none⟩ (.int .i64 x.u) → BkR W' p S (Lb.set x.s true) (R.set x.s x) M E T N B C (hmf E) ∧ Kept W W' p.own) := by
    intro W h1
    obtain ⟨h2, h3⟩ := seat_lies h1 hRs
    exact ⟨h2, h3, fun W' e => by rw [e]; exact h1.laid x.s x hst⟩
  have HM : Hid (∀ W q T', BkR W q S (Lb.set x.s true) (R.set x.s x) (Ix.ins M (x.i, (x.s : Int))) (E ++ [(N, (x.i : Int))]) T' (N + 1) (B + 1) C (hmf E) → q.hm = p.hm → ∃ W', (Instr.mapUpdate 35 (.map (some p.hm)) (.int .u32 (x.i : Int)) (.int .i64 (N : Int))).run Tryz.prog W = .ok () W' ∧ BkR W' q S (Lb.set x.s true) (R.set x.s x) (Ix.ins M (x.i, (x.s : Int))) (E ++ [(N, (x.i : Int))]) T' (N + 1) (B + 1) (C + 1) (hmf (E ++ [(N, (x.i : Int))])) ∧ Kept W W' q.own) := by
    intro W q T' h1 hq
    obtain ⟨W', hrun, hmap, hg⟩ := h1.map.store (by first | exact Tryz.underlying30 | kernel_rfl) Tryz.underlying35 (by unfold maxLen; omega) (wf_u32 hi) (.int .i64 (N : Int))
    rw [hq] at hrun
    refine ⟨W', hrun, h1.mapped hg (hmap.congr (fun y => ?_))⟩
    rw [← hmf_push (fun e he e2 => hid e he (by omega))]
    split <;> rfl
  have hsa : S.a ≤ 1024 := hw.a1
  have hrl := h.rl
  have HB0 := hide (And.intro h0 b0)
  have c6 := h0.cells 6 _ rfl
  have x0 := b0.cells 0 _ rfl
  have x1 := b0.cells 1 _ rfl
  have x2 := b0.cells 2 _ rfl
  clear h h0 b0 hR hst hid hno hlk hml hasc ha hn hw
  obtain ⟨xi, xs, xu⟩ := x
  unfold bgV
  simp only [bgc] at *
  go_enter Tryz.func79, Tryz.ntmps79
  go_wp2
  go_region_held3 (fun W => W.cell? ⟨p.b, 6, none⟩ = some (.pointer (some ⟨p.tb, 0, none⟩)) ∧ W.cell? ⟨w.heap.size, 1, none⟩ = some (.int .i64 (xs : Int))) (first | assumption | exact ⟨c6, x1⟩)
    ((go_at_call 115; refine (HC1.out _ (grown_drew _ none)).mono ?_; rintro e w1 ⟨rfl, hA, hX⟩; have hK1 := And.intro (hA.cells 6 _ rfl) (hX.cells 1 _ rfl)))
  have H1 := hide (And.intro hA hX)
  obtain ⟨⟨va, vb', vc, y0, y1, y2⟩, y3, y4⟩ := HL.out w1 hA
  have HY := hide y4
  have b7 := hA.cells 7 _ rfl
  have z0 := hX.cells 0 _ rfl
  have z1 := hX.cells 1 _ rfl
  have z2 := hX.cells 2 _ rfl
  clear hK1 hA hX c6 x0 x1 x2 y4 HL HC1 HB0
  go_wp2
  go_region
  have q1 := HY.out _ rfl
  have hA2 := q1.1.then (grown_drew _ none)
  have hX2 := (H1.out.2.keep q1.2).then (grown_drew _ none)
  clear q1 HY H1 y0 y1 y2 y3 b7 z0 z1 z2
  generalize (((w1.setCell ⟨p.sg, xs * 3, none⟩ (.int .u32 (xi : Int))).setCell ⟨p.sg, xs * 3 + 1, none⟩ (.int .i64 (xs : Int))).setCell ⟨p.sg, xs * 3 + 2, none⟩ (.int .i64 xu)).drew = w2 at *
  have HC3' := hide (HC3.out w2.drew (hA2.then (grown_drew _ none)) (hX2.then (grown_drew _ none)))
  have b8 := hA2.cells 8 _ rfl
  have z0 := hX2.cells 0 _ rfl
  have z1 := hX2.cells 1 _ rfl
  clear hA2 hX2 HC3
  go_wp2
  go_region_held3 (fun W => W.cell? ⟨p.b, 8, none⟩ = some (.pointer (some ⟨p.ip.x, 0, none⟩)) ∧ W.cell? ⟨w.heap.size, 0, none⟩ = some (.int .u32 (xi : Int)) ∧ W.cell? ⟨w.heap.size, 1, none⟩ = some (.int .i64 (xs : Int))) (first | assumption | exact ⟨b8, z0, z1⟩)
    ((go_at_call 116; refine HC3'.out.mono ?_; rintro e w3 ⟨rfl, hA, hX⟩; have hK1 := And.intro (hA.cells 8 _ rfl) (And.intro (hX.cells 0 _ rfl) (hX.cells 1 _ rfl))))
  have H3 := hide (And.intro hA hX)
  have b9 := hA.cells 9 _ rfl
  have b10 := hA.cells 10 _ rfl
  have z0 := hX.cells 0 _ rfl
  have z2 := hX.cells 2 _ rfl
  have HC5' := hide (HC5.out w3.drew (hA.then (grown_drew _ none)) (hX.then (grown_drew _ none)))
  clear hK1 hA hX b8 HC3' HC5
  by_cases hu : xu = 0
  · have hF := HF.out w3 p E T N B C H3.out.1 H3.out.2.st (.inl ⟨hu, rfl, rfl, rfl, rfl⟩)
    have HFF := hide hF
    clear hF HF H3
    subst hu
    go_wp2
    go_end0
    exact ⟨rfl, HFF.out⟩
  · have hu1 : (xu == 0) = false := by simpa using hu
    have hu2 : (xu != 0) = true := by simpa using hu
    have hu3 : decide (xu = 0) = false := by simpa using hu
    go_wp2
    go_region_held3 (fun W => W.cell? ⟨p.b, 9, none⟩ = some (.pointer (some ⟨p.hp.h, 0, none⟩)) ∧ W.cell? ⟨p.b, 10, none⟩ = some (.map (some p.hm)) ∧ W.cell? ⟨w.heap.size, 0, none⟩ = some (.int .u32 (xi : Int))) (first | assumption | exact ⟨b9, b10, z0⟩)
      ((go_at_call 117; refine HC5'.out.mono ?_; rintro e w4 ⟨rfl, q, T', hA, hX⟩; have hcl : ∀ j v, (bkc p S)[j]? = some v → w4.cell? ⟨p.b, j, none⟩ = some v := (by have h9 := hA.cells; rw [hX.st.bkc, hX.st.b] at h9; exact h9); have hk4 := And.intro (hcl 9 _ rfl) (And.intro (hcl 10 _ rfl) (hX.cells 0 _ rfl)); obtain ⟨w5, hrun, hB5, hK5⟩ := HM.out w4 q T' hA hX.st.hm; have hX5 := hX.keep hK5; have hcl5 : ∀ j v, (bkc p S)[j]? = some v → w5.cell? ⟨p.b, j, none⟩ = some v := (by have h9 := hB5.cells; rw [hX5.st.bkc, hX5.st.b] at h9; exact h9); have hk5 := And.intro (hcl5 9 _ rfl) (And.intro (hcl5 10 _ rfl) (hX5.cells 0 _ rfl)); have HE5 := hide (And.intro hB5 hX5); clear hcl hcl5 hA hX hB5 hX5 hK5))
    go_end0
    exact ⟨rfl, HF.out w5 q _ T' _ _ _ HE5.out.1 HE5.out.2.st (.inr ⟨hu, rfl, rfl, rfl, rfl⟩)⟩
end
end Go.Proofs.YtinkkocleognbaaGreatDoor
/- What is due: taken out, the first one; a booking removed. -/
namespace Go.Proofs.YtinkkocleognbaaGreatDoor
open Go.RowKit
attribute [local go_sem ↓] Go.wp_at_zero Go.wp_at_succ
section
variable {w w' : World} {p q : Bp} {S : Sb} {Lb Lb' : List Bool} {R : List Bg} {M E : List (Nat × Int)} {T : List Nat} {N B C K : Nat} {f : Int → Option Nat}
theorem BkR.cells' {w0 : World} {p0 : Bp} (h : BkR w p S Lb R M E T N B C f) (k : Bst w0 w p0 p) : ∀ j v, (bkc p0 S)[j]? = some v → w.cell? ⟨p0.b, j, none⟩ = some v := by
  have h9 := h.cells
  rw [k.bkc, k.b] at h9
  exact h9
set_option maxHeartbeats 4000000 in
theorem release_any (h : BkR w p S Lb R M E T N B C (hmf E)) (h3 : E.Pairwise fun e f => e.2 ≠ f.2) (hE : E.length ≤ 65536) (hN : N ≤ 10000000) (hB : B + E.length ≤ 2 * N) (k : Nat) (hk : k < 4294967296) :
    Calls Tryz.prog 108 #[.pointer (some ⟨p.b, 0, none⟩), .int .u32 (k : Int)] w fun e w' => e = .returned (.tuple #[]) ∧ ∃ q E' T' B', BkR w' q S Lb R M E' T' N B' C (hmf E') ∧ Bst w w' p q ∧ (∀ e, e ∈ E' ↔ e ∈ E ∧ e.2 ≠ (k : Int)) ∧ (E'.Pairwise fun e f => e.2 ≠ f.2) ∧ B' + E'.length ≤ 2 * N := by
  have hl := look_bk h k hk
  have b10 := h.cells 10 _ rfl
  have b9 := h.cells 9 _ rfl
  cases hq : hmf E (k : Int) with
  | none =>
    rw [hq] at hl
    have hF : ∃ q E' T' B', BkR w q S Lb R M E' T' N B' C (hmf E') ∧ Bst w w p q ∧ (∀ e, e ∈ E' ↔ e ∈ E ∧ e.2 ≠ (k : Int)) ∧ (E'.Pairwise fun e f => e.2 ≠ f.2) ∧ B' + E'.length ≤ 2 * N :=
      ⟨p, E, T, B, h, Bst.refl _ _, fun e => ⟨fun he => ⟨he, hmf_none.1 hq e he⟩, fun he => he.1⟩, h3, hB⟩
    have HF := hide hF
    clear hF hq h h3
    simp only [Option.getD, Option.isSome] at hl
    go_enter Tryz.func108, Tryz.ntmps108
    go_wp2
    go_end0
    exact ⟨rfl, HF.out⟩
  | some n =>
    rw [hq] at hl
    obtain ⟨i, hi, hei⟩ := List.mem_iff_getElem.1 ((hmf_some h3).1 hq)
    have hen : Hp.en E i = (n, (k : Int)) := by rw [en_getElem hi]; exact hei
    have hC := hdrop_bk h hE (by omega) (by omega) i hi
    rw [hen] at hC
    simp only at hC
    have HC := hide hC
    have HM : Hid (∀ W q T', BkR W q S Lb R M (Hp.outE E i) T' N (B + 1) C (hmf E) → Bst w W p q → ∃ W', (Builtin.delete_ #[35, 30] 0 #[.map (some p.hm), .int .u32 (k : Int)]).run Tryz.prog W = .ok (.tuple #[]) W' ∧ ∃ q E' T' B', BkR W' q S Lb R M E' T' N B' C (hmf E') ∧ Bst w W' p q ∧ (∀ e, e ∈ E' ↔ e ∈ E ∧ e.2 ≠ (k : Int)) ∧ (E'.Pairwise fun e f => e.2 ≠ f.2) ∧ B' + E'.length ≤ 2 * N) := by
      intro W q T' h1 h2
      obtain ⟨W', hrun, hmap, hg⟩ := h1.map.drop (by first | exact Tryz.underlying30 | kernel_rfl) Tryz.underlying35 (wf_u32 hk) 0
      rw [h2.hm] at hrun
      obtain ⟨h4, h5⟩ := h1.mapped (f' := hmf (Hp.outE E i)) hg (hmap.congr (fun y => by
        rw [← hmf_out h3 hi, hen]
        split <;> rfl))
      refine ⟨W', hrun, q, Hp.outE E i, T', B + 1, h4, h2.trans (Bst.keep h5), fun e => ?_, outE_pair h3 hi, ?_⟩
      · rw [outE_mem h3 hi, hen]
      · rw [Hp.outE_length]; omega
    clear hC hq h3 hei hen h
    simp only [Option.getD, Option.isSome] at hl
    go_enter Tryz.func108, Tryz.ntmps108
    go_wp2_with fail
    refine HC.out.mono ?_
    rintro e w1 ⟨rfl, q, T', hA, hS⟩
    have c10 := hA.cells' hS 10 _ rfl
    obtain ⟨W', hrun, hF⟩ := HM.out w1 q T' hA hS
    have HF := hide hF
    clear hF hA hS HM HC b10 b9 hl
    go_wp2
    go_end0
    exact ⟨rfl, HF.out⟩
end
end Go.Proofs.YtinkkocleognbaaGreatDoor
/- A booking removed; the one that is due first; another seat. -/
namespace Go.Proofs.YtinkkocleognbaaGreatDoor
open Go.RowKit
attribute [local go_sem ↓] Go.wp_at_zero Go.wp_at_succ
section
variable {w w' : World} {p q : Bp} {S : Sb} {Lb Lb' : List Bool} {R : List Bg} {M E : List (Nat × Int)} {T : List Nat} {N B C K : Nat} {f : Int → Option Nat}
theorem BkR.re {S' : Sb} (h : BkR w p S Lb R M E T N B C f) (ha : S'.a = S.a) (hb : S'.b = S.b) (hc : S'.c = S.c) (hn : S'.n = S.n) (ht : S'.t = S.t) : BkR w p S' Lb R M E T N B C f :=
  ⟨by have := h.head; unfold bkc at *; rw [ha, hb, hc, hn, ht]; exact this, h.var, h.set, h.row, h.ix, h.due, h.map, h.ap, h.z, by rw [ha]; exact h.rl, by rw [hb]; exact h.im, by rw [ha]; exact h.sa, h.mi⟩
theorem BkAt.lt (h : BkAt w p S K) : ∀ i, p.own i → i < w.heap.size := by obtain ⟨_, _, _, _, _, _, _, _, h, _⟩ := h; exact h.lt
theorem BkAt.far {X : Nat → Prop} (h : BkAt w p S K) (k : Kept w w' X) (hX : ∀ i, p.own i → ¬ X i) : BkAt w' p S K := by
  obtain ⟨Lb, R, M, E, T, N, B, C, h, h1⟩ := h; exact ⟨Lb, R, M, E, T, N, B, C, h.far k hX, h1⟩
theorem BkAt.then (h : BkAt w p S K) (k : w.grownBy w' none) : BkAt w' p S K := h.far (Kept.new k (fun _ => False)) (fun _ _ e => e)
theorem BkAt.mono (h : BkAt w p S K) {K' : Nat} (hk : K ≤ K') : BkAt w p S K' := by
  obtain ⟨Lb, R, M, E, T, N, B, C, h, h1, h2, h3, h4⟩ := h; exact ⟨Lb, R, M, E, T, N, B, C, h, h1, by omega, h3, h4⟩
theorem BkAt.cells (h : BkAt w p S K) : ∀ j v, (bkc p S)[j]? = some v → w.cell? ⟨p.b, j, none⟩ = some v := by obtain ⟨_, _, _, _, _, _, _, _, h, _⟩ := h; exact h.cells
theorem BkAt.z (h : BkAt w p S K) : ¬ p.own 0 := by obtain ⟨_, _, _, _, _, _, _, _, h, _⟩ := h; exact h.z
set_option maxHeartbeats 4000000 in
theorem remove_any (h : BkAt w p S K) (hw : S.Wk) (hK : K ≤ 10000000) (x : Bg) (hx : x ∈ S.L) :
    Calls Tryz.prog 109 #[.pointer (some ⟨p.b, 0, none⟩), bgV x] w fun e w' => e = .returned (.tuple #[]) ∧ ∃ q, BkAt w' q { S with L := del S.L x.i } K ∧ Bst w w' p q := by
  obtain ⟨Lb, R, M, E, T, N, B, C, h, hR, hN, hB, hC⟩ := h
  have hE : E.length ≤ 65536 := by have := hR.few; have := hw.few; have := hw.b1; omega
  have hLb : x.s < Lb.length := by rw [hR.lb]; exact hw.st x hx
  have hi : x.i < 4294967296 := by have := hw.id x hx; have := hw.n1; omega
  have b0 := Bx.start h.lt (bgc x) 108
  have h0 := h.then (grown_alloc w (.cells (bgc x).toArray 108))
  have HC1 := hide (release_any h0 hR.e3 hE (by omega) hB x.i hi)
  have HS1 : Hid (∀ W q E' T' B', BkR W q S Lb R M E' T' N B' C (hmf E') → Bst (w.alloc (.cells (bgc x).toArray 108)) W p q → (∀ e, e ∈ E' ↔ e ∈ E ∧ e.2 ≠ (x.i : Int)) → Bx w W w.heap.size (bgc x) 108 p q) := fun W q E' T' B' h1 h2 h3 => b0.step h2
  have HC2 : Hid (∀ W q E' T' B', BkR W q S Lb R M E' T' N B' C (hmf E') → Bx w W w.heap.size (bgc x) 108 p q → (∀ e, e ∈ E' ↔ e ∈ E ∧ e.2 ≠ (x.i : Int)) → Calls Tryz.prog 139 #[.pointer (some ⟨p.ip.x, 0, none⟩), .int .u32 (x.i : Int)] W fun e w' => ∃ b, e = .returned (.bool b) ∧ BkR w' q S Lb R (Ix.dr M x.i) E' T' N B' C (hmf E') ∧ Bx w w' w.heap.size (bgc x) 108 p q) := by
    intro W q E' T' B' h1 h2 h3
    have hip : q.ip = p.ip := by rw [h2.st.eq]
    rw [← hip]
    refine (ixdrop_bk h1 x.i hi (fun e he e2 => ((h3 e).1 he).2 ?_)).mono ?_
    · obtain ⟨y, hy, h4, -⟩ := hR.e1 e ((h3 e).1 he).1
      omega
    · rintro e w' ⟨rfl, h4, h5⟩
      exact ⟨_, rfl, h4, h2.keep h5⟩
  have HC3 : Hid (∀ W q E' T' B', BkR W q S Lb R (Ix.dr M x.i) E' T' N B' C (hmf E') → Bx w W w.heap.size (bgc x) 108 p q → (∀ e, e ∈ E' ↔ e ∈ E ∧ e.2 ≠ (x.i : Int)) → (E'.Pairwise fun e f => e.2 ≠ f.2) → B' + E'.length ≤ 2 * N → Calls Tryz.prog 140 #[.pointer (some ⟨p.tb, 0, none⟩), .int .i64 (x.s : Int)] W fun e w' => e = .returned (.int .i64 0) ∧ BkAt w' q { S with L := del S.L x.i } K ∧ Bx w w' w.heap.size (bgc x) 108 p q) := by
    intro W q E' T' B' h1 h2 h3 h4 h5
    have hip : q.tb = p.tb := by rw [h2.st.eq]
    rw [← hip]
    refine (free_bk h1 x.s hLb).mono ?_
    rintro e w' ⟨rfl, h6, h7⟩
    exact ⟨rfl, ⟨_, _, _, E', T', N, B', C, h6.re rfl rfl rfl rfl rfl, hR.gone hw hx h3 h4, hN, h5, hC⟩, h2.keep h7⟩
  have x0 := b0.cells 0 _ rfl
  clear h h0 b0 hR hw hx
  obtain ⟨xi, xs, xu⟩ := x
  unfold bgV
  simp only [bgc] at *
  go_enter Tryz.func109, Tryz.ntmps109
  go_wp2_with fail
  refine HC1.out.mono ?_
  rintro e w1 ⟨rfl, q, E', T', B', hA, hS, hm, hp, hb⟩
  have hX := HS1.out w1 q E' T' B' hA hS hm
  have c8 := hA.cells' hX.st 8 _ rfl
  have z0 := hX.cells 0 _ rfl
  have HC2' := hide (HC2.out w1.drew q E' T' B' (hA.then (grown_drew _ none)) (hX.then (grown_drew _ none)) hm)
  have HP := hide (And.intro hm (And.intro hp hb))
  clear hA hS hX hm hp hb HS1 HC1 x0 HC2
  go_wp2
  go_region_held3 (fun W => W.cell? ⟨p.b, 8, none⟩ = some (.pointer (some ⟨p.ip.x, 0, none⟩)) ∧ W.cell? ⟨w.heap.size, 0, none⟩ = some (.int .u32 (xi : Int))) (first | assumption | exact ⟨c8, z0⟩)
    ((go_at_call 139; refine HC2'.out.mono ?_; rintro e w2 ⟨bb, rfl, hA, hX⟩; have hK1 := And.intro (hA.cells' hX.st 8 _ rfl) (hX.cells 0 _ rfl)))
  have c6 := hA.cells' hX.st 6 _ rfl
  have z1 := hX.cells 1 _ rfl
  have HC3' := hide (HC3.out w2.drew q E' T' B' (hA.then (grown_drew _ none)) (hX.then (grown_drew _ none)) HP.out.1 HP.out.2.1 HP.out.2.2)
  clear hA hX hK1 c8 z0 HC2' HC3
  go_wp2
  go_region_held3 (fun W => W.cell? ⟨p.b, 6, none⟩ = some (.pointer (some ⟨p.tb, 0, none⟩)) ∧ W.cell? ⟨w.heap.size, 1, none⟩ = some (.int .i64 (xs : Int))) (first | assumption | exact ⟨c6, z1⟩)
    ((go_at_call 140; refine HC3'.out.mono ?_; rintro e w3 ⟨rfl, hA, hX⟩; have hcl : ∀ j v, (bkc p S)[j]? = some v → w3.cell? ⟨p.b, j, none⟩ = some v := (by have h9 := hA.cells; rw [hX.st.bkc, hX.st.b] at h9; exact h9); have hK1 := And.intro (hcl 6 _ rfl) (hX.cells 1 _ rfl)))
  go_end0
  exact ⟨rfl, q, hA, hX.st⟩
/-- The cells of no booking. -/
def bgz : List Value := [.int .u32 0, .int .i64 0, .int .i64 0]
/-- What is due first. -/
def Fst (S : Sb) (x : Bg) (b : Bool) : Prop := (b = false ∧ x = ⟨0, 0, 0⟩ ∧ ∀ y ∈ S.L, y.u = 0) ∨ (b = true ∧ x ∈ S.L ∧ x.u ≠ 0 ∧ ∀ y ∈ S.L, y.u ≠ 0 → x.u ≤ y.u)
set_option maxHeartbeats 4000000 in
theorem first_any (h : BkAt w p S K) (hw : S.Wk) : Calls Tryz.prog 113 #[.pointer (some ⟨p.b, 0, none⟩)] w fun e w' => ∃ x b, e = .returned (.tuple #[bgV x, .bool b]) ∧ Fst S x b ∧ BkAt w' p S K ∧ Kept w w' p.own := by
  obtain ⟨Lb, R, M, E, T, N, B, C, h, hR, hN⟩ := h
  have b0 := Bx.start h.lt bgz 108
  have h0 := h.then (grown_alloc w (.cells bgz.toArray 108))
  have c9 := h0.cells 9 _ rfl
  have HC1 := hide (least_bk h0)
  by_cases hz : 0 < E.length
  · obtain ⟨ht, hle⟩ := least_le h hz
    obtain ⟨x, hx, hxe, hxu⟩ := hR.e1 _ (Hp.en_mem ht)
    have hi : x.i < 4294967296 := by have := hw.id x hx; have := hw.n1; omega
    have hfn : fnd S.L x.i = some x := (fnd_some hw.asc).2 ⟨hx, rfl⟩
    have hlk : Ix.lk M x.i = some (x.s : Int) := by rw [hR.m, lk_mx, hfn]; rfl
    have hfx : fn M R x.i = x := by unfold fn; rw [hlk]; simp [rd, hR.rw x hx]
    have HF : Hid (Fst S x true) := by
      refine .inr ⟨rfl, hx, hxu, fun y hy hyu => ?_⟩
      obtain ⟨e, he, h2⟩ := hR.e2 y hy hyu
      have := hle e he
      rw [h2, ← hxe] at this
      simp only [Int.toNat_natCast] at this
      rw [hR.tl_mem hw.asc hx, hR.tl_mem hw.asc hy] at this
      exact this
    have HC2 : Hid (∀ W, BkR W p S Lb R M E T N B C (hmf E) → Bx w W w.heap.size bgz 108 p p → Calls Tryz.prog 107 #[.pointer (some ⟨p.b, 0, none⟩), .int .u32 (x.i : Int)] W fun e w' => e = .returned (.tuple #[bgV x, .int .i64 0]) ∧ BkAt w' p S K ∧ Bx w w' w.heap.size bgz 108 p p) := by
      intro W h1 h2
      have hc := find_bk h1 x.i hi
      rw [hfx, hlk] at hc
      refine hc.mono ?_
      rintro e w' ⟨rfl, h3, h4⟩
      exact ⟨rfl, ⟨Lb, R, M, E, T, N, B, C, h3, hR, hN⟩, h2.keep h4⟩
    rw [if_pos hz, if_pos hz, decide_eq_true hz, ← hxe] at HC1
    have H0 := hide (And.intro h0 b0)
    clear h h0 b0 hR hw hx hxe hxu hi hfn hlk hfx hle ht hz hN
    generalize (Hp.en E (Hp.tn T 0)).1 = hd at *
    obtain ⟨xi, xs, xu⟩ := x
    unfold bgV at HC2
    simp only [bgz] at *
    go_enter Tryz.func113, Tryz.ntmps113
    go_wp2_with fail
    refine HC1.out.mono ?_
    rintro e w1 ⟨rfl, hg1⟩
    have HC2' := hide (HC2.out w1 (H0.out.1.then hg1) (H0.out.2.then hg1))
    clear HC1 HC2 H0 c9 hg1
    go_wp2_with fail
    refine HC2'.out.mono ?_
    rintro e w2 ⟨rfl, hA, hX⟩
    have hA3 := hA.then (grown_alloc w2 (.cells #[.int .u32 (xi : Int), .int .i64 (xs : Int), .int .i64 xu] 108))
    have hX3 := hX.then (grown_alloc w2 (.cells #[.int .u32 (xi : Int), .int .i64 (xs : Int), .int .i64 xu] 108))
    obtain ⟨d0, d1, d2, d3⟩ := box3 hX3.box
    have hne : ¬ w.heap.size = w2.heap.size := by have := row_lt hX.box; omega
    have H3 := hide (And.intro hA3 hX3)
    clear hA hX hA3 hX3 HC2'
    go_wp2
    obtain ⟨r1, r2⟩ := row3 _ H3.out.2.box (.int .u32 (xi : Int)) (.int .i64 (xs : Int)) (.int .i64 xu)
    have k1 : Kept _ _ (fun i => i = w.heap.size) := Kept.of r2 (fun _ e _ => (Option.some.inj e).symm)
    refine bodyPost_ret (results_bg rfl _ _ w.heap.size ⟨xi, xs, xu⟩ (.bool true) rfl r1 rfl) rfl ⟨_, _, rfl, HF.out, H3.out.1.far k1 (fun i hi e => H3.out.2.nx (by rw [← e]; exact hi)), ?_⟩
    exact H3.out.2.st.kept.trans k1 (fun i hi e => absurd hi (by rw [e]; exact Nat.lt_irrefl _))
  · have hE0 : E = [] := List.eq_nil_of_length_eq_zero (by omega)
    have HF : Hid (Fst S ⟨0, 0, 0⟩ false) := by
      refine .inl ⟨rfl, rfl, fun y hy => ?_⟩
      apply Classical.byContradiction
      intro hyu
      obtain ⟨e, he, -⟩ := hR.e2 y hy hyu
      rw [hE0] at he
      cases he
    rw [if_neg hz, if_neg hz, decide_eq_false hz] at HC1
    have H0 : Hid (∀ W, (w.alloc (.cells bgz.toArray 108)).grownBy W none → BkAt W p S K ∧ Bx w W w.heap.size bgz 108 p p) := fun W hg => ⟨⟨Lb, R, M, E, T, N, B, C, h0.then hg, hR, hN⟩, b0.then hg⟩
    clear h h0 b0 hR hw hz hE0 hN
    simp only [bgz] at *
    go_enter Tryz.func113, Tryz.ntmps113
    go_wp2_with fail
    refine HC1.out.mono ?_
    rintro e w1 ⟨rfl, hg1⟩
    obtain ⟨hA, hX⟩ := H0.out w1 hg1
    obtain ⟨d0, d1, d2, d3⟩ := box3 hX.box
    have H3 := hide (And.intro hA hX)
    clear HC1 H0 c9 hg1 hA hX
    go_wp2
    obtain ⟨r1, r2⟩ := row3 _ H3.out.2.box (.int .u32 0) (.int .i64 0) (.int .i64 0)
    have k1 : Kept _ _ (fun i => i = w.heap.size) := Kept.of r2 (fun _ e _ => (Option.some.inj e).symm)
    refine bodyPost_ret (results_bg rfl _ _ w.heap.size ⟨0, 0, 0⟩ (.bool false) rfl r1 rfl) rfl ⟨_, _, rfl, HF.out, H3.out.1.far k1 (fun i hi e => H3.out.2.nx (by rw [← e]; exact hi)), ?_⟩
    exact H3.out.2.st.kept.trans k1 (fun i hi e => absurd hi (by rw [e]; exact Nat.lt_irrefl _))
end
end Go.Proofs.YtinkkocleognbaaGreatDoor
