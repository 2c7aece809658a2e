/- Texts joined: Bk4, Bk5. -/
import Derived.Test.YtcbiloomnkbalaaGreatDoorJoAk
/- A book in memory: where its parts lie, what stays. -/
namespace Go.Proofs.YtcbiloomnkbalaaGreatDoor
open Go.RowKit
attribute [local go_sem ↓] Go.wp_at_zero Go.wp_at_succ
section
variable {lt lt' : Int → Int → Bool} {E : List (Nat × Int)} {T : List Nat}
theorem ah_congr {x y : Nat × Int} (h1 : lt' x.2 y.2 = lt x.2 y.2) (h2 : lt' y.2 x.2 = lt y.2 x.2) : Hp.ah lt' x y = Hp.ah lt x y := by
  unfold Hp.ah; rw [h1, h2]
theorem good_congr (h : Hp.Good lt E T) (hlt : ∀ i j, i < E.length → j < E.length → lt' (Hp.en E i).2 (Hp.en E j).2 = lt (Hp.en E i).2 (Hp.en E j).2) : Hp.Good lt' E T := by
  refine ⟨h.len, fun b hb => ?_⟩
  rw [h.right b hb]
  have h1 : ∀ l c, l < E.length → Hp.tn T c < E.length → Hp.lw1 lt' E T l c = Hp.lw1 lt E T l c := fun l c hl hc => by
    unfold Hp.lw1; rw [ah_congr (hlt _ _ hc hl) (hlt _ _ hl hc)]
  have hA : Hp.lwA lt' E T b = Hp.lwA lt E T b := by
    unfold Hp.lwA
    split
    · rename_i h2; exact h1 _ _ hb (h.sub _ h2).2
    · rfl
  have hAl : Hp.lwA lt E T b < E.length := by
    rcases Hp.lwA_or (lt := lt) (E := E) (T := T) b with e | ⟨h2, e⟩
    · rw [e]; exact hb
    · rw [e]; exact (h.sub _ h2).2
  unfold Hp.lw
  rw [hA]
  split
  · rename_i h2; exact (h1 _ _ hAl (h.sub _ h2).2).symm
  · rfl
end
/-- The same heap, under a less that tells the same of its items. -/
theorem HS_re {w w' : World} {L L' : Hp.Les} {p : Hp.Hp} {E : List (Nat × Int)} {T : List Nat} {N B : Nat} {X : Nat → Prop} (h : Hp.HS w L p E T N B) (k : Kept w w' X) (hX : ∀ i, p.own i → ¬ X i) (hk : L'.k = L.k) (hc : L'.cap = L.cap) (hI : L'.I w') (hF : ∀ i, L'.F i → L.F i)
    (hlt : ∀ i j, i < E.length → j < E.length → L'.lt (Hp.en E i).2 (Hp.en E j).2 = L.lt (Hp.en E i).2 (Hp.en E j).2) (hok : ∀ e ∈ E, L'.ok e.2) : Hp.HS w' L' p E T N B := by
  have a := h.at_
  have hh : Hp.hpc L' p.h (N : Int) p.ve p.vl p.mb = Hp.hpc L p.h (N : Int) p.ve p.vl p.mb := by unfold Hp.hpc Hp.Les.fv; rw [hk, hc]
  refine ⟨⟨by rw [hh]; exact k.at a.head (hX _ (.inl rfl)), Hp.row_same a.ent (fun g hg => k.block g (a.lt g (.inr (.inl hg))) (hX g (.inr (.inl hg)))), Hp.row_same a.lst (fun g hg => k.block g (a.lt g (.inr (.inr (.inl hg)))) (hX g (.inr (.inr (.inl hg))))), a.map.same (k.block _ a.map.lt (hX _ (.inr (.inr (.inr rfl))))), hI, fun i hi e => a.off i hi (hF i e)⟩, good_congr h.good hlt, h.hds, hok⟩
/-- Where a book lies. -/
structure Bp where
  b : Nat
  vb : Nat
  sg : Nat
  tb : Nat
  tg : Nat
  ip : Ix.Ip
  hp : Hp.Hp
  hm : Nat
/-- Which part of it lies in a block. -/
def Bp.role (p : Bp) (k i : Nat) : Prop := (k = 0 ∧ i = p.b) ∨ (k = 1 ∧ i = p.vb) ∨ (k = 2 ∧ i = p.sg) ∨ (k = 3 ∧ p.ip.own i) ∨ (k = 4 ∧ i = p.tb) ∨ (k = 5 ∧ i = p.tg) ∨ (k = 6 ∧ p.hp.own i) ∨ (k = 7 ∧ i = p.hm)
def Bp.own (p : Bp) (i : Nat) : Prop := ∃ k, p.role k i
def Bp.Apart (p : Bp) : Prop := ∀ i j k, p.role j i → p.role k i → j = k
section
variable {p : Bp}
theorem Bp.r0 : p.role 0 p.b := .inl ⟨rfl, rfl⟩
theorem Bp.r1 : p.role 1 p.vb := .inr (.inl ⟨rfl, rfl⟩)
theorem Bp.r2 : p.role 2 p.sg := .inr (.inr (.inl ⟨rfl, rfl⟩))
theorem Bp.r3 {i : Nat} (h : p.ip.own i) : p.role 3 i := .inr (.inr (.inr (.inl ⟨rfl, h⟩)))
theorem Bp.r4 : p.role 4 p.tb := .inr (.inr (.inr (.inr (.inl ⟨rfl, rfl⟩))))
theorem Bp.r5 : p.role 5 p.tg := .inr (.inr (.inr (.inr (.inr (.inl ⟨rfl, rfl⟩)))))
theorem Bp.r6 {i : Nat} (h : p.hp.own i) : p.role 6 i := .inr (.inr (.inr (.inr (.inr (.inr (.inl ⟨rfl, h⟩))))))
theorem Bp.r7 : p.role 7 p.hm := .inr (.inr (.inr (.inr (.inr (.inr (.inr ⟨rfl, rfl⟩))))))
theorem Bp.Apart.no (h : p.Apart) {i j k : Nat} (h1 : p.role j i) (h2 : p.role k i) (hne : j ≠ k) : False := hne (h i j k h1 h2)
end
/-- The book's own cells. -/
def bkc (p : Bp) (S : Sb) : List Value := [.int .i64 (S.a : Int), .int .i64 (S.b : Int), .int .i64 (S.c : Int), .pointer (some ⟨p.b, 0, none⟩), .int .u32 (S.n : Int), .int .i64 S.t, .pointer (some ⟨p.tb, 0, none⟩), .slice (some ⟨p.sg, 0, none⟩) S.a S.a, .pointer (some ⟨p.ip.x, 0, none⟩), .pointer (some ⟨p.hp.h, 0, none⟩), .map (some p.hm)]
/-- A book's parts in memory. -/
structure BkR (w : World) (p : Bp) (S : Sb) (Lb : List Bool) (R : List Bg) (M E : List (Nat × Int)) (T : List Nat) (N B C : Nat) (f : Int → Option Nat) : Prop where
  head : w.heap[p.b]? = some (.cells (bkc p S).toArray 66 (0, 0))
  var : w.heap[p.vb]? = some (.cells [Value.pointer (some ⟨p.b, 0, none⟩)].toArray 31 (0, 0))
  set : Bt.SetAt w p.tb p.tg Lb
  row : w.heap[p.sg]? = some (.cells (bgs R).toArray 78 (0, 0))
  ix : ∃ lo, Ix.Io w p.ip M lo
  due : Hp.HS w (lsB p.vb p.b p.sg p.ip M R) p.hp E T N B
  map : U.MapAt w Tryz.prog 24 p.hm C (fun k => (f k).map fun (n : Nat) => Value.int .i64 (n : Int))
  ap : p.Apart
  z : ¬ p.own 0
  rl : R.length = S.a
  im : p.ip.m = S.b
  sa : S.a ≤ 1024
  mi : ∀ y ∈ M, 0 ≤ y.2 ∧ y.2.toNat < R.length
/-- What a call on a book does to the world. -/
structure Bst (w w' : World) (p q : Bp) : Prop where
  eq : q = { p with hp := q.hp }
  h : q.hp.h = p.hp.h
  mb : q.hp.mb = p.hp.mb
  kept : Kept w w' p.own
  own : ∀ i, q.own i → p.own i ∨ w.heap.size ≤ i
theorem Bst.b {w w' : World} {p q : Bp} (h : Bst w w' p q) : q.b = p.b := by rw [h.eq]
theorem Bst.hm {w w' : World} {p q : Bp} (h : Bst w w' p q) : q.hm = p.hm := by rw [h.eq]
theorem Bst.refl (w : World) (p : Bp) : Bst w w p p := ⟨rfl, rfl, rfl, Kept.refl _ _, fun _ e => .inl e⟩
theorem Bst.keep {w w' : World} {p : Bp} (k : Kept w w' p.own) : Bst w w' p p := ⟨rfl, rfl, rfl, k, fun _ e => .inl e⟩
theorem Bst.grown {w w' : World} (g : w.grownBy w' none) (p : Bp) : Bst w w' p p := Bst.keep (Kept.new g _)
theorem Bst.trans {a b c : World} {p q r : Bp} (h : Bst a b p q) (k : Bst b c q r) : Bst a c p r := by
  refine ⟨?_, k.h.trans h.h, k.mb.trans h.mb, h.kept.trans k.kept (fun i hi e => ?_), fun i e => ?_⟩
  · have h1 := k.eq
    rw [h.eq] at h1
    exact h1
  · rcases h.own i e with e | e
    · exact e
    · omega
  · rcases k.own i e with e | e
    · exact h.own i e
    · exact .inr (Nat.le_trans h.kept.size e)
section
variable {w w' : World} {p q : Bp} {S : Sb} {Lb Lb' : List Bool} {R : List Bg} {M E : List (Nat × Int)} {T : List Nat} {N B C : Nat} {f : Int → Option Nat}
theorem BkR.fd (h : BkR w p S Lb R M E T N B C f) : Fd w p.b p.sg p.ip M R :=
  ⟨⟨_, h.head, by simp [bkc, h.rl], rfl⟩, h.row, h.ix, h.mi, by rw [h.rl]; exact h.sa, fun e => h.ap.no Bp.r0 (Bp.r3 e) (by decide), fun e => h.ap.no Bp.r2 (Bp.r3 e) (by decide)⟩
theorem BkR.ls (h : BkR w p S Lb R M E T N B C f) : LsI w p.vb p.b p.sg p.ip M R := ⟨h.fd, h.var, fun e => h.ap.no Bp.r1 (Bp.r3 e) (by decide)⟩
theorem BkR.lt (h : BkR w p S Lb R M E T N B C f) : ∀ i, p.own i → i < w.heap.size := by
  rintro i ⟨k, (⟨-, rfl⟩ | ⟨-, rfl⟩ | ⟨-, rfl⟩ | ⟨-, hi⟩ | ⟨-, rfl⟩ | ⟨-, rfl⟩ | ⟨-, hi⟩ | ⟨-, rfl⟩)⟩
  · exact row_lt h.head
  · exact row_lt h.var
  · exact row_lt h.row
  · obtain ⟨lo, h1⟩ := h.ix; exact h1.lt i hi
  · exact h.set.lt.1
  · exact h.set.lt.2
  · exact h.due.at_.lt i hi
  · exact h.map.lt
theorem SetAt_far {X : Nat → Prop} {b g : Nat} (h : Bt.SetAt w b g Lb) (k : Kept w w' X) (hb : ¬ X b) (hg : ¬ X g) : Bt.SetAt w' b g Lb := by
  obtain ⟨W, cap, cur, h1, h2, h3⟩ := h
  exact ⟨W, cap, cur, k.at h1 hb, k.at h2 hg, h3⟩
theorem BkR.far {X : Nat → Prop} (h : BkR w p S Lb R M E T N B C f) (k : Kept w w' X) (hX : ∀ i, p.own i → ¬ X i) : BkR w' p S Lb R M E T N B C f := by
  have hx : ∀ {j i}, p.role j i → ¬ X i := fun e => hX _ ⟨_, e⟩
  have hl := h.ls.far k (hx Bp.r1) (hx Bp.r0) (hx Bp.r2) (fun i hi => hx (Bp.r3 hi))
  exact ⟨k.at h.head (hx Bp.r0), k.at h.var (hx Bp.r1), SetAt_far h.set k (hx Bp.r4) (hx Bp.r5), k.at h.row (hx Bp.r2), hl.fd.ix, HS_re h.due k (fun i hi => hx (Bp.r6 hi)) rfl rfl hl (fun _ e => e) (fun _ _ _ _ => rfl) h.due.ok, h.map.same (k.block _ h.map.lt (hx Bp.r7)), h.ap, h.z, h.rl, h.im, h.sa, h.mi⟩
theorem BkR.then (h : BkR w p S Lb R M E T N B C f) (k : w.grownBy w' none) : BkR w' p S Lb R M E T N B C f := h.far (Kept.new k (fun _ => False)) (fun _ _ e => e)
theorem Bst.bkc {w w' : World} {p q : Bp} (h : Bst w w' p q) (S : Sb) : bkc q S = bkc p S := by
  have e := h.h
  have e2 := h.eq
  unfold Go.Proofs.YtcbiloomnkbalaaGreatDoor.bkc
  rw [e]
  rw [e2]
theorem BkR.cells (h : BkR w p S Lb R M E T N B C f) : ∀ j v, (bkc p S)[j]? = some v → w.cell? ⟨p.b, j, none⟩ = some v := fun j v hv => by rw [cell_row h.head]; exact hv
/-- One role is written, all others stay. -/
theorem BkR.roleK (h : BkR w p S Lb R M E T N B C f) {j : Nat} : ∀ {i k}, p.role k i → k ≠ j → ¬ p.role j i := fun h1 hne h2 => hne (h.ap _ _ _ h1 h2)
theorem BkR.taken (h : BkR w p S Lb R M E T N B C f) (hg : w.grownBy w' (some p.tg)) (hs : Bt.SetAt w' p.tb p.tg Lb') : BkR w' p S Lb' R M E T N B C f ∧ Kept w w' p.own := by
  have k : Kept w w' (p.role 5) := Kept.of hg (fun _ e _ => by cases e; exact Bp.r5)
  have hl := h.ls.far k (h.roleK Bp.r1 (by decide)) (h.roleK Bp.r0 (by decide)) (h.roleK Bp.r2 (by decide)) (fun i hi => h.roleK (Bp.r3 hi) (by decide))
  exact ⟨⟨k.at h.head (h.roleK Bp.r0 (by decide)), k.at h.var (h.roleK Bp.r1 (by decide)), hs, k.at h.row (h.roleK Bp.r2 (by decide)), hl.fd.ix, HS_re h.due k (fun i hi => h.roleK (Bp.r6 hi) (by decide)) rfl rfl hl (fun _ e => e) (fun _ _ _ _ => rfl) h.due.ok, h.map.same (k.block _ h.map.lt (h.roleK Bp.r7 (by decide))), h.ap, h.z, h.rl, h.im, h.sa, h.mi⟩, k.mono (fun i _ e => ⟨5, e⟩)⟩
/-- The head is written: the next id, the clock. -/
theorem BkR.headed (h : BkR w p S Lb R M E T N B C f) {S' : Sb} (hg : w.grownBy w' (some p.b)) (hh : w'.heap[p.b]? = some (.cells (bkc p S').toArray 66 (0, 0))) (ha : S'.a = S.a) (hb : S'.b = S.b) : BkR w' p S' Lb R M E T N B C f ∧ Kept w w' p.own := by
  have k : Kept w w' (p.role 0) := Kept.of hg (fun _ e _ => by cases e; exact Bp.r0)
  have hix : ∃ lo, Ix.Io w' p.ip M lo := by obtain ⟨lo, h1⟩ := h.ix; exact ⟨lo, h1.far k (fun i hi => h.roleK (Bp.r3 hi) (by decide))⟩
  have hrow := k.at h.row (h.roleK Bp.r2 (by decide))
  have hfd : Fd w' p.b p.sg p.ip M R := ⟨⟨_, hh, by simp [bkc, h.rl, ha], rfl⟩, hrow, hix, h.mi, by rw [h.rl]; exact h.sa, h.fd.nb, h.fd.ns⟩
  have hvar := k.at h.var (h.roleK Bp.r1 (by decide))
  exact ⟨⟨hh, hvar, SetAt_far h.set k (h.roleK Bp.r4 (by decide)) (h.roleK Bp.r5 (by decide)), hrow, hix, HS_re h.due k (fun i hi => h.roleK (Bp.r6 hi) (by decide)) rfl rfl (show LsI _ _ _ _ _ _ _ from ⟨hfd, hvar, h.ls.nv⟩) (fun _ e => e) (fun _ _ _ _ => rfl) h.due.ok, h.map.same (k.block _ h.map.lt (h.roleK Bp.r7 (by decide))), h.ap, h.z, by rw [ha]; exact h.rl, by rw [hb]; exact h.im, by rw [ha]; exact h.sa, h.mi⟩, k.mono (fun i _ e => ⟨0, e⟩)⟩
/-- The seats are written. -/
theorem BkR.seated (h : BkR w p S Lb R M E T N B C f) {R' : List Bg} (hg : w.grownBy w' (some p.sg)) (hh : w'.heap[p.sg]? = some (.cells (bgs R').toArray 78 (0, 0))) (hl : R'.length = R.length) (ht : ∀ e ∈ E, tl M R' e.2.toNat = tl M R e.2.toNat) : BkR w' p S Lb R' M E T N B C f ∧ Kept w w' p.own := by
  have k : Kept w w' (p.role 2) := Kept.of hg (fun _ e _ => by cases e; exact Bp.r2)
  have hix : ∃ lo, Ix.Io w' p.ip M lo := by obtain ⟨lo, h1⟩ := h.ix; exact ⟨lo, h1.far k (fun i hi => h.roleK (Bp.r3 hi) (by decide))⟩
  have hhead := k.at h.head (h.roleK Bp.r0 (by decide))
  have hmi : ∀ y ∈ M, 0 ≤ y.2 ∧ y.2.toNat < R'.length := by rw [hl]; exact h.mi
  have hfd : Fd w' p.b p.sg p.ip M R' := ⟨⟨_, hhead, by simp [bkc, h.rl, hl], rfl⟩, hh, hix, hmi, by rw [hl, h.rl]; exact h.sa, h.fd.nb, h.fd.ns⟩
  have hvar := k.at h.var (h.roleK Bp.r1 (by decide))
  refine ⟨⟨hhead, hvar, SetAt_far h.set k (h.roleK Bp.r4 (by decide)) (h.roleK Bp.r5 (by decide)), hh, hix, HS_re h.due k (fun i hi => h.roleK (Bp.r6 hi) (by decide)) rfl rfl (show LsI _ _ _ _ _ _ _ from ⟨hfd, hvar, h.ls.nv⟩) (fun _ e => e) (fun i j hi hj => ?_) h.due.ok, h.map.same (k.block _ h.map.lt (h.roleK Bp.r7 (by decide))), h.ap, h.z, by rw [hl]; exact h.rl, h.im, h.sa, hmi⟩, k.mono (fun i _ e => ⟨2, e⟩)⟩
  show decide (tl M R' _ < tl M R' _) = decide (tl M R _ < tl M R _)
  rw [ht _ (Hp.en_mem hi), ht _ (Hp.en_mem hj)]
/-- The index is written. -/
theorem BkR.indexed (h : BkR w p S Lb R M E T N B C f) {M' : List (Nat × Int)} (k0 : Kept w w' p.ip.own) (hi : ∃ lo, Ix.Io w' p.ip M' lo) (hm : ∀ y ∈ M', 0 ≤ y.2 ∧ y.2.toNat < R.length) (ht : ∀ e ∈ E, tl M' R e.2.toNat = tl M R e.2.toNat) : BkR w' p S Lb R M' E T N B C f ∧ Kept w w' p.own := by
  have k : Kept w w' (p.role 3) := k0.mono (fun _ _ e => Bp.r3 e)
  have hhead := k.at h.head (h.roleK Bp.r0 (by decide))
  have hrow := k.at h.row (h.roleK Bp.r2 (by decide))
  have hfd : Fd w' p.b p.sg p.ip M' R := ⟨⟨_, hhead, by simp [bkc, h.rl], rfl⟩, hrow, hi, hm, by rw [h.rl]; exact h.sa, h.fd.nb, h.fd.ns⟩
  have hvar := k.at h.var (h.roleK Bp.r1 (by decide))
  refine ⟨⟨hhead, hvar, SetAt_far h.set k (h.roleK Bp.r4 (by decide)) (h.roleK Bp.r5 (by decide)), hrow, hi, HS_re h.due k (fun i hi => h.roleK (Bp.r6 hi) (by decide)) rfl rfl (show LsI _ _ _ _ _ _ _ from ⟨hfd, hvar, h.ls.nv⟩) (fun _ e => e) (fun i j hi hj => ?_) h.due.ok, h.map.same (k.block _ h.map.lt (h.roleK Bp.r7 (by decide))), h.ap, h.z, h.rl, h.im, h.sa, hm⟩, k.mono (fun i _ e => ⟨3, e⟩)⟩
  show decide (tl M' R _ < tl M' R _) = decide (tl M R _ < tl M R _)
  rw [ht _ (Hp.en_mem hi), ht _ (Hp.en_mem hj)]
/-- The index and the seats are written, and what is not the book's. -/
theorem BkR.moved (h : BkR w p S Lb R M E T N B C f) {M' : List (Nat × Int)} {R' : List Bg} {Z : Nat → Prop} (hZ : ∀ i, p.own i → ¬ Z i) (k0 : Kept w w' (fun i => p.ip.own i ∨ i = p.sg ∨ Z i)) (hi : ∃ lo, Ix.Io w' p.ip M' lo) (hh : w'.heap[p.sg]? = some (.cells (bgs R').toArray 78 (0, 0))) (hl : R'.length = R.length) (hm : ∀ y ∈ M', 0 ≤ y.2 ∧ y.2.toNat < R.length) (ht : ∀ e ∈ E, tl M' R' e.2.toNat = tl M R e.2.toNat) : BkR w' p S Lb R' M' E T N B C f := by
  have k : Kept w w' (fun i => p.role 3 i ∨ p.role 2 i ∨ Z i) := k0.mono (fun _ _ e => e.elim (fun e => .inl (Bp.r3 e)) (fun e => e.elim (fun e => .inr (.inl (by rw [e]; exact Bp.r2))) (fun e => .inr (.inr e))))
  have hn : ∀ {i j}, p.role j i → j ≠ 3 → j ≠ 2 → ¬ (p.role 3 i ∨ p.role 2 i ∨ Z i) := fun h1 h2 h3 h4 => h4.elim (h.roleK h1 h2) (fun h4 => h4.elim (h.roleK h1 h3) (hZ _ ⟨_, h1⟩))
  have hhead := k.at h.head (hn Bp.r0 (by decide) (by decide))
  have hm' : ∀ y ∈ M', 0 ≤ y.2 ∧ y.2.toNat < R'.length := by rw [hl]; exact hm
  have hfd : Fd w' p.b p.sg p.ip M' R' := ⟨⟨_, hhead, by simp [bkc, h.rl, hl], rfl⟩, hh, hi, hm', by rw [hl, h.rl]; exact h.sa, h.fd.nb, h.fd.ns⟩
  have hvar := k.at h.var (hn Bp.r1 (by decide) (by decide))
  refine ⟨hhead, hvar, SetAt_far h.set k (hn Bp.r4 (by decide) (by decide)) (hn Bp.r5 (by decide) (by decide)), hh, hi, HS_re h.due k (fun i hi => hn (Bp.r6 hi) (by decide) (by decide)) rfl rfl (show LsI _ _ _ _ _ _ _ from ⟨hfd, hvar, h.ls.nv⟩) (fun _ e => e) (fun i j hi hj => ?_) h.due.ok, h.map.same (k.block _ h.map.lt (hn Bp.r7 (by decide) (by decide))), h.ap, h.z, by rw [hl]; exact h.rl, h.im, h.sa, hm'⟩
  show decide (tl M' R' _ < tl M' R' _) = decide (tl M R _ < tl M R _)
  rw [ht _ (Hp.en_mem hi), ht _ (Hp.en_mem hj)]
/-- The map of handles is written. -/
theorem BkR.mapped (h : BkR w p S Lb R M E T N B C f) {C' : Nat} {f' : Int → Option Nat} (hg : w.grownBy w' (some p.hm)) (hm : U.MapAt w' Tryz.prog 24 p.hm C' (fun k => (f' k).map fun (n : Nat) => Value.int .i64 (n : Int))) : BkR w' p S Lb R M E T N B C' f' ∧ Kept w w' p.own := by
  have k : Kept w w' (p.role 7) := Kept.of hg (fun _ e _ => by cases e; exact Bp.r7)
  have hl := h.ls.far k (h.roleK Bp.r1 (by decide)) (h.roleK Bp.r0 (by decide)) (h.roleK Bp.r2 (by decide)) (fun i hi => h.roleK (Bp.r3 hi) (by decide))
  exact ⟨⟨k.at h.head (h.roleK Bp.r0 (by decide)), k.at h.var (h.roleK Bp.r1 (by decide)), SetAt_far h.set k (h.roleK Bp.r4 (by decide)) (h.roleK Bp.r5 (by decide)), k.at h.row (h.roleK Bp.r2 (by decide)), hl.fd.ix, HS_re h.due k (fun i hi => h.roleK (Bp.r6 hi) (by decide)) rfl rfl hl (fun _ e => e) (fun _ _ _ _ => rfl) h.due.ok, hm, h.ap, h.z, h.rl, h.im, h.sa, h.mi⟩, k.mono (fun i _ e => ⟨7, e⟩)⟩
/-- The heap is written. -/
theorem BkR.heaped (h : BkR w p S Lb R M E T N B C f) {E' : List (Nat × Int)} {T' : List Nat} {N' B' : Nat} {q : Hp.Hp} (hs : Hp.HS w' (lsB p.vb p.b p.sg p.ip M R) q E' T' N' B') (hst : Hp.Hst w w' (lsB p.vb p.b p.sg p.ip M R) p.hp q) : BkR w' { p with hp := q } S Lb R M E' T' N' B' C f ∧ Bst w w' p { p with hp := q } := by
  have k : Kept w w' (fun i => p.role 3 i ∨ p.role 6 i) := hst.kept.mono (fun i _ e => e.elim (fun e => .inl (Bp.r3 e)) (fun e => .inr (Bp.r6 e)))
  have hn : ∀ {i j}, p.role j i → j ≠ 3 → j ≠ 6 → ¬ (p.role 3 i ∨ p.role 6 i) := fun h1 h2 h3 h4 => h4.elim (h.roleK h1 h2) (h.roleK h1 h3)
  have hI : LsI w' p.vb p.b p.sg p.ip M R := hs.at_.inv
  have hhd : bkc { p with hp := q } S = bkc p S := by unfold bkc; simp only; rw [hst.h]
  have hown : ∀ i, Bp.own { p with hp := q } i → p.own i ∨ w.heap.size ≤ i := by
    rintro i ⟨j, (⟨hj, e⟩ | ⟨hj, e⟩ | ⟨hj, e⟩ | ⟨hj, e⟩ | ⟨hj, e⟩ | ⟨hj, e⟩ | ⟨hj, e⟩ | ⟨hj, e⟩)⟩
    · exact .inl ⟨0, .inl ⟨rfl, e⟩⟩
    · exact .inl ⟨1, .inr (.inl ⟨rfl, e⟩)⟩
    · exact .inl ⟨2, .inr (.inr (.inl ⟨rfl, e⟩))⟩
    · exact .inl ⟨3, Bp.r3 e⟩
    · exact .inl ⟨4, .inr (.inr (.inr (.inr (.inl ⟨rfl, e⟩))))⟩
    · exact .inl ⟨5, .inr (.inr (.inr (.inr (.inr (.inl ⟨rfl, e⟩)))))⟩
    · rcases hst.own i e with e | e
      · exact .inl ⟨6, Bp.r6 e⟩
      · exact .inr e
    · exact .inl ⟨7, .inr (.inr (.inr (.inr (.inr (.inr (.inr ⟨rfl, e⟩))))))⟩
  have hrole : ∀ i j, Bp.role { p with hp := q } j i → p.role j i ∨ (j = 6 ∧ w.heap.size ≤ i) := by
    rintro i j (⟨rfl, e⟩ | ⟨rfl, e⟩ | ⟨rfl, e⟩ | ⟨rfl, e⟩ | ⟨rfl, e⟩ | ⟨rfl, e⟩ | ⟨rfl, e⟩ | ⟨rfl, e⟩)
    · exact .inl (.inl ⟨rfl, e⟩)
    · exact .inl (.inr (.inl ⟨rfl, e⟩))
    · exact .inl (.inr (.inr (.inl ⟨rfl, e⟩)))
    · exact .inl (Bp.r3 e)
    · exact .inl (.inr (.inr (.inr (.inr (.inl ⟨rfl, e⟩)))))
    · exact .inl (.inr (.inr (.inr (.inr (.inr (.inl ⟨rfl, e⟩))))))
    · rcases hst.own i e with e | e
      · exact .inl (Bp.r6 e)
      · exact .inr ⟨rfl, e⟩
    · exact .inl (.inr (.inr (.inr (.inr (.inr (.inr (.inr ⟨rfl, e⟩)))))))
  have hap : Bp.Apart { p with hp := q } := by
    intro i j l h1 h2
    rcases hrole i j h1 with h1 | ⟨h1, g1⟩ <;> rcases hrole i l h2 with h2 | ⟨h2, g2⟩
    · exact h.ap i j l h1 h2
    · have := h.lt i ⟨j, h1⟩; omega
    · have := h.lt i ⟨l, h2⟩; omega
    · rw [h1, h2]
  refine ⟨⟨by rw [hhd]; exact k.at h.head (hn Bp.r0 (by decide) (by decide)), k.at h.var (hn Bp.r1 (by decide) (by decide)), SetAt_far h.set k (hn Bp.r4 (by decide) (by decide)) (hn Bp.r5 (by decide) (by decide)), k.at h.row (hn Bp.r2 (by decide) (by decide)), hI.fd.ix, hs, h.map.same (k.block _ h.map.lt (hn Bp.r7 (by decide) (by decide))), hap, fun e => ?_, h.rl, h.im, h.sa, h.mi⟩, ⟨rfl, hst.h, hst.mb, k.mono (fun i _ e => e.elim (fun e => ⟨3, e⟩) (fun e => ⟨6, e⟩)), hown⟩⟩
  rcases hown 0 e with e | e
  · exact h.z e
  · have := h.lt _ ⟨0, Bp.r0⟩; omega
end
end Go.Proofs.YtcbiloomnkbalaaGreatDoor
/- A book's parts, asked and changed. -/
namespace Go.Proofs.YtcbiloomnkbalaaGreatDoor
open Go.RowKit
attribute [local go_sem ↓] Go.wp_at_zero Go.wp_at_succ
section
variable {w w' : World} {p q : Bp} {S : Sb} {Lb Lb' : List Bool} {R : List Bg} {M E : List (Nat × Int)} {T : List Nat} {N B C : Nat} {f : Int → Option Nat}
theorem isNone_bk (h : BkR w p S Lb R M E T N B C f) : Calls Tryz.prog 47 #[.pointer (some ⟨p.b, 0, none⟩)] w fun e w' => e = .returned (.bool false) ∧ w' = w := by
  have c0 := h.cells 3 _ rfl
  have hsome : (Tryz.prog.info? 66).isSome = true := by kernel_rfl
  obtain ⟨j, hj⟩ := Option.isSome_iff_exists.1 hsome
  have hs := Go.Lib.run_neq_ptr_same (P := Tryz.prog) (tp := 31) (te := 66) w ⟨p.b, 0, none⟩ Tryz.underlying31 hj
  clear h hsome hj
  go_enter Tryz.func47, Tryz.ntmps47
  go_wp2
  go_ret
  exact ⟨rfl, rfl⟩
theorem put_bk (h : BkR w p S Lb R M E T N B C f) (i : Nat) (hi : i < Lb.length) : Calls Tryz.prog 73 #[.pointer (some ⟨p.tb, 0, none⟩), .int .i64 (i : Int)] w fun e w' => e = .returned (.int .i64 0) ∧ BkR w' p S (Lb.set i true) R M E T N B C f ∧ Kept w w' p.own := by
  refine (Bt.put_any _ _ _ i w h.set hi).mono ?_
  rintro e w' ⟨rfl, h1, h2⟩
  exact ⟨rfl, h.taken h2 h1⟩
theorem free_bk (h : BkR w p S Lb R M E T N B C f) (i : Nat) (hi : i < Lb.length) : Calls Tryz.prog 110 #[.pointer (some ⟨p.tb, 0, none⟩), .int .i64 (i : Int)] w fun e w' => e = .returned (.int .i64 0) ∧ BkR w' p S (Lb.set i false) R M E T N B C f ∧ Kept w w' p.own := by
  refine (Bt.drop_any _ _ _ i w h.set hi).mono ?_
  rintro e w' ⟨rfl, h1, h2⟩
  exact ⟨rfl, h.taken h2 h1⟩
theorem has_bk (h : BkR w p S Lb R M E T N B C f) (i : Nat) (hi : i < Lb.length) : Calls Tryz.prog 56 #[.pointer (some ⟨p.tb, 0, none⟩), .int .i64 (i : Int)] w fun e w' => e = .returned (.bool (Lb.getD i false)) ∧ w.grownBy w' none :=
  Bt.has_any _ _ _ i w h.set hi
theorem len_bk (h : BkR w p S Lb R M E T N B C f) : Calls Tryz.prog 53 #[.pointer (some ⟨p.ip.x, 0, none⟩)] w fun e w' => e = .returned (.int .i64 (M.length : Int)) ∧ w' = w := by
  obtain ⟨lo, h1⟩ := h.ix; exact h1.len
theorem find_bk (h : BkR w p S Lb R M E T N B C f) (k : Nat) (hk : k < 4294967296) : Calls Tryz.prog 54 #[.pointer (some ⟨p.b, 0, none⟩), .int .u32 (k : Int)] w fun e w' => e = .returned (.tuple #[bgV (fn M R k), .int .i64 (if (Ix.lk M k).isSome then 0 else 171)]) ∧ BkR w' p S Lb R M E T N B C f ∧ Kept w w' p.own := by
  refine (find_any h.fd k hk).mono ?_
  rintro e w' ⟨rfl, h1, h2⟩
  exact ⟨rfl, h.indexed h2 h1.ix h.mi (fun _ _ => rfl)⟩
theorem ixput_bk (h : BkR w p S Lb R M E T N B C f) (k s : Nat) (hk : k < 4294967296) (hs : s < R.length) (hn : Ix.lk M k = none) (hf : M.length < S.b) (ht : ∀ e ∈ E, e.2.toNat ≠ k) : Calls Tryz.prog 74 #[.pointer (some ⟨p.ip.x, 0, none⟩), .int .u32 (k : Int), .int .i64 (s : Int)] w fun e w' => e = .returned (.int .i64 0) ∧ BkR w' p S Lb R (Ix.ins M (k, (s : Int))) E T N B C f ∧ Kept w w' p.own := by
  obtain ⟨lo, h1⟩ := h.ix
  have hsl : s ≤ 1024 := by have := h.sa; rw [h.rl] at hs; omega
  have hp1 : Ix.putE M k p.ip.m = 0 := by unfold Ix.putE; rw [hn, if_neg (by simp), if_neg (by rw [h.im]; omega)]
  have hp2 : Ix.putM M k p.ip.m (s : Int) = Ix.ins M (k, (s : Int)) := by unfold Ix.putM; rw [hn, if_neg (by simp), if_neg (by rw [h.im]; omega)]
  have hc := Ix.put_io h1 k hk (s : Int) (by omega) (by omega)
  rw [hp1, hp2] at hc
  refine hc.mono ?_
  rintro e w' ⟨rfl, h2, h3⟩
  refine ⟨rfl, h.indexed h3 ⟨true, h2⟩ (fun y hy => ?_) (fun e he => ?_)⟩
  · rcases Ix.ins_mem.1 hy with rfl | hy
    · simp; exact hs
    · exact h.mi y hy
  · unfold tl
    rw [Ix.lk_ins h1.asc hn, if_neg (ht e he)]
theorem ixdrop_bk (h : BkR w p S Lb R M E T N B C f) (k : Nat) (hk : k < 4294967296) (ht : ∀ e ∈ E, e.2.toNat ≠ k) : Calls Tryz.prog 109 #[.pointer (some ⟨p.ip.x, 0, none⟩), .int .u32 (k : Int)] w fun e w' => e = .returned (.bool (Ix.lk M k).isSome) ∧ BkR w' p S Lb R (Ix.dr M k) E T N B C f ∧ Kept w w' p.own := by
  obtain ⟨lo, h1⟩ := h.ix
  refine (Ix.drop_io h1 k hk).mono ?_
  rintro e w' ⟨rfl, h2, h3⟩
  refine ⟨rfl, h.indexed h3 ⟨true, h2⟩ (fun y hy => h.mi y (Ix.dr_mem.1 hy).1) (fun e he => ?_)⟩
  unfold tl
  rw [Ix.lk_dr h1.asc, if_neg (ht e he)]
theorem push_bk (h : BkR w p S Lb R M E T N B C f) (hE : E.length < 65536) (hN : N ≤ 100000000) (hB : B ≤ 100000000) (k : Nat) (hk : k < 4294967296) : Calls Tryz.prog 75 #[.pointer (some ⟨p.hp.h, 0, none⟩), .int .u32 (k : Int)] w fun e w' => e = .returned (.tuple #[.int .i64 (N : Int), .int .i64 0]) ∧ ∃ q T', BkR w' q S Lb R M (E ++ [(N, (k : Int))]) T' (N + 1) (B + 1) C f ∧ Bst w w' p q := by
  refine (Hp.push_any (lsB_ok _ _ _ _ _ _) h.due hE hN hB (k : Int) (show 0 ≤ (k : Int) ∧ (k : Int) < 4294967296 by omega)).mono ?_
  rintro e w' ⟨rfl, q, T', h1, h2⟩
  obtain ⟨h3, h4⟩ := h.heaped h1 h2
  exact ⟨rfl, _, T', h3, h4⟩
theorem hdrop_bk (h : BkR w p S Lb R M E T N B C f) (hE : E.length ≤ 65536) (hN : N ≤ 100000000) (hB : B ≤ 100000000) (i : Nat) (hi : i < E.length) : Calls Tryz.prog 108 #[.pointer (some ⟨p.hp.h, 0, none⟩), .int .i64 ((Hp.en E i).1 : Int)] w fun e w' => e = .returned (.bool true) ∧ ∃ q T', BkR w' q S Lb R M (Hp.outE E i) T' N (B + 1) C f ∧ Bst w w' p q := by
  have hf := Hp.fi_at h.due.hds hi
  have hb := h.due.hds.below i hi
  have hc := Hp.drop_any (lsB_ok _ _ _ _ _ _) h.due hE hN hB ((Hp.en E i).1 : Int) (Hp.wf_i64 (by omega) (by omega))
  rw [hf] at hc
  refine hc.mono ?_
  rintro e w' ⟨rfl, q, T', h1, h2⟩
  obtain ⟨h3, h4⟩ := h.heaped h1 h2
  exact ⟨rfl, _, T', h3, h4⟩
theorem least_bk (h : BkR w p S Lb R M E T N B C f) : Calls Tryz.prog 87 #[.pointer (some ⟨p.hp.h, 0, none⟩)] w fun e w' => e = .returned (.tuple #[.int .u32 (if 0 < E.length then (Hp.en E (Hp.tn T 0)).2 else 0), .int .i64 (if 0 < E.length then ((Hp.en E (Hp.tn T 0)).1 : Int) else 0), .bool (decide (0 < E.length))]) ∧ w.grownBy w' none := h.due.least
/-- The one that is told has the least until of all. -/
theorem least_le (h : BkR w p S Lb R M E T N B C f) (hE : 0 < E.length) : Hp.tn T 0 < E.length ∧ ∀ e ∈ E, tl M R (Hp.en E (Hp.tn T 0)).2.toNat ≤ tl M R e.2.toNat := by
  have h1 := (h.due.good.sub 0 hE).2
  refine ⟨h1, fun e he => ?_⟩
  obtain ⟨j, hj, rfl⟩ := List.mem_iff_getElem.1 he
  have := Hp.Good.least (r := fun x : Int => tl M R x.toNat) (fun i j _ _ => rfl) h.due.good j hj
  rw [en_getElem hj] at this
  rcases this with h2 | ⟨h2, -⟩
  · exact Int.le_of_lt h2
  · exact Int.le_of_eq h2
/-- The map of handles, asked. -/
theorem zero3 (w : World) : (zeroValue 3).run Tryz.prog w = .ok (.int .i64 0) w := by kernel_rfl
theorem wf_u32 {s : Nat} (h : s < 4294967296) : (Lit.int .u32 (s : Int)).wf = true := by
  simp [Lit.wf, IntKind.min, IntKind.max, IntKind.signed, IntKind.bits]; omega
theorem look_bk (h : BkR w p S Lb R M E T N B C f) (k : Nat) (hk : k < 4294967296) : (Instr.lookup 64 (.map (some p.hm)) (.int .u32 (k : Int)) true).run Tryz.prog w = .ok (.tuple #[.int .i64 (((f (k : Int)).getD 0 : Nat) : Int), .bool (f (k : Int)).isSome]) w := by
  rw [h.map.look (by first | exact Tryz.underlying24 | kernel_rfl) Tryz.underlying64 (zero3 w) (wf_u32 hk)]
  cases f (k : Int) <;> rfl
end
end Go.Proofs.YtcbiloomnkbalaaGreatDoor
