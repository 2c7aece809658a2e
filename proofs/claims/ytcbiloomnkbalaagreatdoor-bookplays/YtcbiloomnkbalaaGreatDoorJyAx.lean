/- Texts joined: Vi. -/
import Derived.Test.YtcbiloomnkbalaaGreatDoorJyAv
import Derived.Test.YtcbiloomnkbalaaGreatDoorJyAw
/- BookPlays, walked. -/
namespace Go.Proofs.YtcbiloomnkbalaaGreatDoor
open Go.RowKit
attribute [local go_sem ↓] Go.wp_at_zero Go.wp_at_succ
attribute [local go_sem] Oper.semAt_some
/-- A book of the program's, or none, that was made since W0. -/
def LbP (W0 W : World) (pa : Option Addr) (o : Option Sb) (Y : Nat → Prop) : Prop := (∀ i, Y i → W0.heap.size ≤ i) ∧ ((o = none ∧ pa = none ∧ Y = fun _ => False) ∨ ∃ S p, o = some S ∧ pa = some ⟨p.b, 0, none⟩ ∧ BkAt W p S 4096 ∧ Y = p.own)
/-- One of the document's. -/
def LdP (W0 W : World) (d : Nat) (o : Option Sb) (Z : Nat → Prop) : Prop := (∀ i, Z i → W0.heap.size ≤ i) ∧ ((o = none ∧ RfZ W d ∧ Z = fun i => i = d) ∨ ∃ S v lo, o = some S ∧ Db W lo d v S ∧ Z = dbo d v)
section
variable {w W0 W1 W W' : World} {pa : Option Addr} {o : Option Sb} {Y Z U : Nat → Prop} {d : Nat}
theorem LbP.far (h : LbP W0 W pa o Y) (k : Kept W W' U) (hU : ∀ i, Y i → ¬ U i) : LbP W0 W' pa o Y := by
  obtain ⟨h0, h | ⟨S, p, h1, h2, h3, h4⟩⟩ := h
  · exact ⟨h0, .inl h⟩
  · exact ⟨h0, .inr ⟨S, p, h1, h2, h3.far k (fun i hi => hU i (by rw [h4]; exact hi)), h4⟩⟩
theorem LbP.then (h : LbP W0 W pa o Y) (g : W.grownBy W' none) : LbP W0 W' pa o Y := h.far (Kept.new g (fun _ => False)) (fun _ _ e => e)
theorem LbP.lt (h : LbP W0 W pa o Y) : ∀ i, Y i → i < W.heap.size := by
  obtain ⟨-, ⟨-, -, rfl⟩ | ⟨S, p, -, -, h3, rfl⟩⟩ := h
  · exact fun _ e => e.elim
  · exact h3.lt
theorem LbP.neq (h : LbP W0 W pa o Y) (w : World) : (binOp .neq 31 (.pointer pa) (.pointer none)).run Tryz.prog w = .ok (.bool o.isSome) w := by
  obtain ⟨-, ⟨rfl, rfl, -⟩ | ⟨S, p, rfl, rfl, -, -⟩⟩ := h
  · kernel_rfl
  · exact neq31Nil w p.b
theorem LdP.then (h : LdP W0 W d o Z) (g : W.grownBy W' none) : LdP W0 W' d o Z := by
  obtain ⟨h0, ⟨h1, h2, h3⟩ | ⟨S, v, lo, h1, h2, h3⟩⟩ := h
  · exact ⟨h0, .inl ⟨h1, h2.then g, h3⟩⟩
  · exact ⟨h0, .inr ⟨S, v, lo, h1, h2.then g, h3⟩⟩
theorem LdP.lt (h : LdP W0 W d o Z) : ∀ i, Z i → i < W.heap.size := by
  obtain ⟨-, ⟨-, h2, rfl⟩ | ⟨S, v, lo, -, h2, rfl⟩⟩ := h
  · rintro i rfl; exact row_lt h2.at_
  · exact h2.lt
theorem mkSd {A B : Nat} (h : LbP W0 W pa o Y) (k : LdP W1 W d o Z) (hY : ∀ i, Y i → i < W1.heap.size) (h0 : w.heap.size ≤ W0.heap.size) (h1 : w.heap.size ≤ W1.heap.size) (hS : ∀ S, o = some S → S.Ok ∧ S.a = A ∧ S.b = B) : Sd w W pa d A B o 4096 (fun i => Y i ∨ Z i) := by
  refine ⟨fun i e => ?_, fun e => ?_, fun S e => ?_⟩
  · rcases e with e | e
    · exact Nat.le_trans h0 (h.1 i e)
    · exact Nat.le_trans h1 (k.1 i e)
  · subst e
    obtain ⟨-, ⟨-, q2, q3⟩ | ⟨S, p, q1, -⟩⟩ := h
    · obtain ⟨-, ⟨-, r2, r3⟩ | ⟨S, v, lo, r1, -⟩⟩ := k
      · refine ⟨q2, r2, ?_⟩
        funext i
        rw [q3, r3]
        simp
      · cases r1
    · cases q1
  · subst e
    obtain ⟨-, ⟨q1, -⟩ | ⟨S', p, q1, q2, q3, q4⟩⟩ := h
    · cases q1
    · cases q1
      obtain ⟨k0, ⟨r1, -⟩ | ⟨S'', v, lo, r1, r2, r3⟩⟩ := k
      · cases r1
      · cases r1
        obtain ⟨s1, s2, s3⟩ := hS S rfl
        refine ⟨s1, s2, s3, p, v, lo, q2, ⟨q3, r2, fun i e1 e2 => ?_⟩, ?_⟩
        · have h1 := hY i (by rw [q4]; exact e1)
          have h2 := k0 i (by rw [r3]; exact e2)
          omega
        · funext i
          rw [q4, r3]
          rfl
end
/-- A step of a script. -/
structure Opx where
  d : Int
  n : Int
  r : Rc
  i : Nat
  s : Int
structure Opx.Ok (o : Opx) : Prop where
  r : o.r.Ok
  i : o.i < 4294967296
/-- Steps that lie somewhere. -/
def OpsAt (w : World) (ao : Option Addr) (os : List Opx) : Prop := ∀ j o, os[j]? = some o → ∃ blk off, ao = some (⟨blk, off, none⟩ : Addr) ∧ w.cell? ⟨blk, off + j * 9, none⟩ = some (.int .i64 o.d) ∧ w.cell? ⟨blk, off + j * 9 + 1, none⟩ = some (.int .i64 o.n) ∧ w.cell? ⟨blk, off + j * 9 + 2, none⟩ = some (.int .i64 o.r.k) ∧ w.cell? ⟨blk, off + j * 9 + 3, none⟩ = some (.int .u32 o.r.i) ∧ w.cell? ⟨blk, off + j * 9 + 4, none⟩ = some (.int .i64 o.r.s) ∧ w.cell? ⟨blk, off + j * 9 + 5, none⟩ = some (.int .i64 o.r.u) ∧ w.cell? ⟨blk, off + j * 9 + 6, none⟩ = some (.int .i64 o.r.c) ∧ w.cell? ⟨blk, off + j * 9 + 7, none⟩ = some (.int .u32 (o.i : Int)) ∧ w.cell? ⟨blk, off + j * 9 + 8, none⟩ = some (.int .i64 o.s)
theorem OpsAt.grown {w w' : World} {ao : Option Addr} {os : List Opx} (h : OpsAt w ao os) (g : w.grownBy w' none) : OpsAt w' ao os := by
  intro j o hj
  obtain ⟨b, off, e, h0, h1, h2, h3, h4, h5, h6, h7, h8⟩ := h j o hj
  exact ⟨b, off, e, g.cell h0 (by simp), g.cell h1 (by simp), g.cell h2 (by simp), g.cell h3 (by simp), g.cell h4 (by simp), g.cell h5 (by simp), g.cell h6 (by simp), g.cell h7 (by simp), g.cell h8 (by simp)⟩
/-- The law's books at the beginning: what their makers answer. -/
structure Mkr (a b c : Int) (n : Nat) (t : Int) (X : List Bw) (ao : Option Addr) (len cap : Nat) (E1 E2 : Int) (oa ob : Option Sb) (A B : Nat) : Prop where
  ca : ∀ W v, 0 < W.heap.size → BwA W v X → Calls Tryz.prog 11 #[.agg #[.int .i64 a, .int .i64 b, .int .i64 c], .int .u32 (n : Int), .int .i64 t, v] W fun e w' => ∃ pa Y, e = .returned (.tuple #[.pointer pa, .int .i64 E1]) ∧ LbP W w' pa oa Y ∧ W.grownBy w' none
  cb : ∀ W, 0 < W.heap.size → Calls Tryz.prog 12 #[.agg #[.int .i64 a, .int .i64 b, .int .i64 c]] W fun e w' => ∃ pa Y, e = .returned (.tuple #[.pointer pa, .int .i64 E2]) ∧ LbP W w' pa ob Y ∧ W.grownBy w' none
  cc : ∀ W, BwsAt W ao X → Calls Tryz.prog 15 #[.agg #[.int .i64 a, .int .i64 b, .int .i64 c], .int .u32 (n : Int), .int .i64 t, .slice ao len cap] W fun e w' => ∃ d Z, e = .returned (.tuple #[.pointer (some ⟨d, 0, none⟩), .int .i64 E1]) ∧ LdP W w' d oa Z ∧ W.grownBy w' none
  cd : ∀ W, Calls Tryz.prog 16 #[.agg #[.int .i64 a, .int .i64 b, .int .i64 c]] W fun e w' => ∃ d Z, e = .returned (.tuple #[.pointer (some ⟨d, 0, none⟩), .int .i64 E2]) ∧ LdP W w' d ob Z ∧ W.grownBy w' none
  e1 : (E1 == 0) = oa.isSome
  e2 : (E2 == 0) = ob.isSome
  sa : ∀ S, oa = some S → S.Ok ∧ S.a = A ∧ S.b = B
  sb : ∀ S, ob = some S → S.Ok ∧ S.a = A ∧ S.b = B
theorem mkr_any (a b c : Int) (n : Nat) (hn : n < 4294967296) (t : Int) (X : List Bw) (ao : Option Addr) (len cap : Nat) (hX : X.length = len) (hnil : ao = none → len = 0 ∧ cap = 0) (hl : len ≤ 200) : ∃ E1 E2 oa ob A B, Mkr a b c n t X ao len cap E1 E2 oa ob A B := by
  by_cases hS : Gx.OkS a b c
  · obtain ⟨a', rfl⟩ : ∃ a' : Nat, a = (a' : Int) := ⟨a.toNat, by unfold Gx.OkS at hS; omega⟩
    obtain ⟨b', rfl⟩ : ∃ b' : Nat, b = (b' : Int) := ⟨b.toNat, by unfold Gx.OkS at hS; omega⟩
    obtain ⟨c', rfl⟩ : ∃ c' : Nat, c = (c' : Int) := ⟨c.toNat, by unfold Gx.OkS at hS; omega⟩
    have cb : ∀ W : World, 0 < W.heap.size → Calls Tryz.prog 12 #[.agg #[.int .i64 (a' : Int), .int .i64 (b' : Int), .int .i64 (c' : Int)]] W fun e w' => ∃ pa Y, e = .returned (.tuple #[.pointer pa, .int .i64 0]) ∧ LbP W w' pa (some (nS a' b' c')) Y ∧ W.grownBy w' none := fun W hz => by
      refine (new_ok a' b' c' hS W hz).mono ?_
      rintro e w' ⟨p, rfl, h1, h2, h3⟩
      exact ⟨_, p.own, rfl, ⟨h3, .inr ⟨_, p, rfl, rfl, h1.mono (by omega), rfl⟩⟩, h2⟩
    have cd : ∀ W : World, Calls Tryz.prog 16 #[.agg #[.int .i64 (a' : Int), .int .i64 (b' : Int), .int .i64 (c' : Int)]] W fun e w' => ∃ d Z, e = .returned (.tuple #[.pointer (some ⟨d, 0, none⟩), .int .i64 0]) ∧ LdP W w' d (some (nS a' b' c')) Z ∧ W.grownBy w' none := fun W => by
      refine (dnew_any hS W).mono ?_
      rintro e w' ⟨d, rfl, h1, h2⟩
      exact ⟨d, _, rfl, ⟨h1.lows, .inr ⟨_, _, _, rfl, h1, rfl⟩⟩, h2⟩
    have hnS : ∀ S, some (nS a' b' c') = some S → S.Ok ∧ S.a = a' ∧ S.b = b' := fun S e => by cases e; exact ⟨Sb.Ok.new hS, rfl, rfl⟩
    by_cases hR : Right (a' : Int) (b' : Int) (c' : Int) n t X
    · have hok := hR.ok hn
      rw [Int.toNat_natCast, Int.toNat_natCast, Int.toNat_natCast] at hok
      refine ⟨0, 0, some ⟨a', b', c', n, t, X.map Bw.bg⟩, some (nS a' b' c'), a', b', ⟨fun W v hz hv => ?_, cb, fun W hw => ?_, cd, rfl, rfl, fun S e => by cases e; exact ⟨hok, rfl, rfl⟩, hnS⟩⟩
      · refine (of_yes hn hv hz hR).mono ?_
        rintro e w' ⟨x, p, rfl, h1⟩
        rw [Int.toNat_natCast, Int.toNat_natCast, Int.toNat_natCast] at h1
        exact ⟨_, p.own, rfl, ⟨h1.own, .inr ⟨_, p, rfl, by rw [h1.eb], h1.bk, rfl⟩⟩, h1.gr⟩
      · refine (rof_yes hS hn hX hw hnil (by omega)).mono ?_
        rintro e w' (⟨-, d, v, rfl, h1, h2⟩ | ⟨h1, -⟩)
        · rw [Int.toNat_natCast, Int.toNat_natCast, Int.toNat_natCast] at h1
          exact ⟨d, _, rfl, ⟨h1.lows, .inr ⟨_, _, _, rfl, h1, rfl⟩⟩, h2⟩
        · exact absurd hR h1
    · have he : ofE (a' : Int) (b' : Int) (c' : Int) = 180 := by unfold ofE; rw [if_pos hS]
      refine ⟨180, 0, none, some (nS a' b' c'), a', b', ⟨fun W v hz hv => ?_, cb, fun W hw => ?_, cd, rfl, rfl, (fun S e => by cases e), hnS⟩⟩
      · refine (of_no hn hv hz hR).mono ?_
        rintro e w' ⟨rfl, g⟩
        exact ⟨none, _, by rw [he], ⟨fun i e => e.elim, .inl ⟨rfl, rfl, rfl⟩⟩, g⟩
      · refine (rof_yes hS hn hX hw hnil (by omega)).mono ?_
        rintro e w' (⟨h1, -⟩ | ⟨-, d, rfl, h1, h2, h3⟩)
        · exact absurd h1 hR
        · exact ⟨d, _, by rw [he], ⟨(fun i e => by rw [e]; exact h2), .inl ⟨rfl, h1, rfl⟩⟩, h3⟩
  · have he : ofE a b c = 90 := by unfold ofE; rw [if_neg hS]
    have hR : ¬ Right a b c n t X := fun h => hS h.1
    refine ⟨90, 90, none, none, 0, 0, ⟨fun W v hz hv => ?_, fun W hz => ?_, fun W hw => ?_, fun W => ?_, rfl, rfl, (fun S e => by cases e), fun S e => by cases e⟩⟩
    · refine (of_no hn hv hz hR).mono ?_
      rintro e w' ⟨rfl, g⟩
      exact ⟨none, _, by rw [he], ⟨fun i e => e.elim, .inl ⟨rfl, rfl, rfl⟩⟩, g⟩
    · refine (new_no hS W).mono ?_
      rintro e w' ⟨rfl, g⟩
      exact ⟨none, _, rfl, ⟨fun i e => e.elim, .inl ⟨rfl, rfl, rfl⟩⟩, g⟩
    · refine (rof_no (X := X) hS).mono ?_
      rintro e w' (⟨h1, -⟩ | ⟨-, d, rfl, h1, h2, h3⟩)
      · exact absurd h1.1 hS
      · exact ⟨d, _, by rw [he], ⟨(fun i e => by rw [e]; exact h2), .inl ⟨rfl, h1, rfl⟩⟩, h3⟩
    · refine (dnew_rz hS W).mono ?_
      rintro e w' ⟨d, rfl, h1, h2, h3⟩
      exact ⟨d, _, rfl, ⟨(fun i e => by rw [e]; exact h2), .inl ⟨rfl, h1, rfl⟩⟩, h3⟩
theorem LentB.bwa {w : World} {B g cap n : Nat} {rs : List Bw} (h : LentB w B g cap rs) (hn : rs.length = n) : BwA w (.slice (some ⟨g, 0, none⟩) n cap) rs := by
  refine ⟨some ⟨g, 0, none⟩, cap, by rw [hn], fun i hi => ⟨g, rfl, ?_⟩⟩
  obtain ⟨bl, off, e, h1, h2, h3⟩ := h.first i _ (List.getElem?_eq_getElem hi)
  cases e
  have hr : rdw rs i = rs[i] := by unfold rdw; rw [List.getElem?_eq_getElem hi]; rfl
  rw [hr]
  rw [Nat.zero_add] at h1 h2 h3
  exact ⟨h1, h2, h3⟩
/-- The two rows of the law, seen from the k-th book. -/
def rws (RX RY k : Nat) (pa pb : Option Addr) (da db : Nat) : List (Nat × List Value × TypeId) := [(RX, two k (.pointer pa) (.pointer pb), 31), (RY, two k (.pointer (some ⟨da, 0, none⟩)) (.pointer (some ⟨db, 0, none⟩)), 38)]
/-- Some view of the law's books. -/
def Vw (w W : World) (A B K RX RY k : Nat) (Bs : List (Nat × List Value × TypeId)) : Prop := ∃ pa pb da db oa ob XA XB, Gs w W pa pb da db A B oa ob K XA XB (rws RX RY k pa pb da db ++ Bs)
theorem Vw.flip {w W : World} {A B K RX RY k : Nat} {Bs : List (Nat × List Value × TypeId)} (h : Vw w W A B K RX RY k Bs) (hk : k < 2) : Vw w W A B K RX RY (1 - k) Bs := by
  obtain ⟨pa, pb, da, db, oa, ob, XA, XB, G⟩ := h
  refine ⟨pb, pa, db, da, ob, oa, XB, XA, ?_⟩
  have e : rws RX RY (1 - k) pb pa db da = rws RX RY k pa pb da db := by
    rcases (show k = 0 ∨ k = 1 by omega) with rfl | rfl
    · rfl
    · rfl
  rw [e]
  exact G.swap
theorem Vw.to {w W : World} {A B K RX RY k l : Nat} {Bs : List (Nat × List Value × TypeId)} (h : Vw w W A B K RX RY k Bs) (hk : k < 2) (hl : l < 2) : Vw w W A B K RX RY l Bs := by
  rcases (show l = k ∨ l = 1 - k by omega) with rfl | rfl
  · exact h
  · exact h.flip hk
section
variable {w W : World} {pa pb pb' : Option Addr} {da db db' a b : Nat} {oa ob : Option Sb} {K RX RY k : Nat} {XA XB : Nat → Prop} {x : Nat × List Value × TypeId}
theorem Gs.o1 (h : Gs w W pa pb da db a b oa ob K XA XB (x :: rws RX RY k pa pb da db)) : Gs w W pa pb da db a b oa ob K XA XB (rws RX RY k pa pb da db ++ [x]) := h.sub (fun y hy => by
  rcases List.mem_append.1 hy with h | h
  · exact List.mem_cons_of_mem _ h
  · rw [List.mem_singleton.1 h]; exact List.mem_cons_self ..)
theorem Gs.o2 (h : Gs w W pa pb da db a b oa ob K XA XB (rws RX RY k pa pb da db ++ [x])) : Gs w W pa pb da db a b oa ob K XA XB (rws RX RY k pa pb da db ++ []) := h.sub (fun y hy => by
  rw [List.append_nil] at hy
  exact List.mem_append_left _ hy)
theorem Gs.rx (h : Gs w W pa pb' da db' a b oa ob K XA XB (x :: rws RX RY k pa pb da db)) : W.heap[RX]? = some (.cells (two k (.pointer pa) (.pointer pb)).toArray 31 (0, 0)) := (h.bx (RX, two k (.pointer pa) (.pointer pb), 31) (List.mem_cons_of_mem _ (List.mem_cons_self ..))).1
theorem Gs.ry (h : Gs w W pa pb' da db' a b oa ob K XA XB (x :: rws RX RY k pa pb da db)) : W.heap[RY]? = some (.cells (two k (.pointer (some ⟨da, 0, none⟩)) (.pointer (some ⟨db, 0, none⟩))).toArray 38 (0, 0)) := (h.bx (RY, two k (.pointer (some ⟨da, 0, none⟩)) (.pointer (some ⟨db, 0, none⟩)), 38) (List.mem_cons_of_mem _ (List.mem_cons_of_mem _ (List.mem_cons_self ..)))).1
theorem Gs.rk (h : Gs w W pa pb' da db' a b oa ob K XA XB (x :: rws RX RY k pa pb da db)) (hk : k < 2) : W.cell? ⟨RX, k, none⟩ = some (.pointer pa) ∧ W.cell? ⟨RY, k, none⟩ = some (.pointer (some ⟨da, 0, none⟩)) := ⟨by rw [cell_row h.rx]; exact (two_k hk _ _).1, by rw [cell_row h.ry]; exact (two_k hk _ _).1⟩
/-- The other entries are written. -/
theorem Gs.put2 {W3 W4 : World} (h : Gs w W pa pb' da db' a b oa ob K XA XB (x :: rws RX RY k pa pb da db)) (hk : k < 2) (hne : RX ≠ RY) (hx : x.1 ≠ RX ∧ x.1 ≠ RY) (h3 : W3 = W.setCell ⟨RX, 1 - k, none⟩ (.pointer pb')) (h4 : W4 = W3.setCell ⟨RY, 1 - k, none⟩ (.pointer (some ⟨db', 0, none⟩))) :
    Gs w W4 pa pb' da db' a b oa ob K XA XB (x :: rws RX RY k pa pb' da db') ∧ (W.cell? ⟨RX, 1 - k, none⟩ = some (.pointer pb) ∧ W.frozen? ⟨RX, 1 - k, none⟩ = false) ∧ (W3.cell? ⟨RY, 1 - k, none⟩ = some (.pointer (some ⟨db, 0, none⟩)) ∧ W3.frozen? ⟨RY, 1 - k, none⟩ = false) ∧ (W3.cell? ⟨RX, k, none⟩ = some (.pointer pa) ∧ W3.cell? ⟨RY, k, none⟩ = some (.pointer (some ⟨da, 0, none⟩))) ∧ (W4.cell? ⟨RX, k, none⟩ = some (.pointer pa) ∧ W4.cell? ⟨RY, k, none⟩ = some (.pointer (some ⟨da, 0, none⟩))) := by
  have G1 : Gs w W pa pb' da db' a b oa ob K XA XB ((RX, two k (.pointer pa) (.pointer pb), 31) :: [(RY, two k (.pointer (some ⟨da, 0, none⟩)) (.pointer (some ⟨db, 0, none⟩)), 38), x]) := h.sub (fun y hy => by
    rcases List.mem_cons.1 hy with rfl | hy
    · exact List.mem_cons_of_mem _ (List.mem_cons_self ..)
    · rcases List.mem_cons.1 hy with rfl | hy
      · exact List.mem_cons_of_mem _ (List.mem_cons_of_mem _ (List.mem_cons_self ..))
      · rw [List.mem_singleton.1 hy]; exact List.mem_cons_self ..)
  have G2 := G1.put (1 - k) (.pointer pb') (fun y hy => by
    rcases List.mem_cons.1 hy with rfl | hy
    · exact fun e => hne e.symm
    · rw [List.mem_singleton.1 hy]; exact hx.1)
  rw [two_set hk, ← h3] at G2
  have G3 : Gs w W3 pa pb' da db' a b oa ob K XA XB ((RY, two k (.pointer (some ⟨da, 0, none⟩)) (.pointer (some ⟨db, 0, none⟩)), 38) :: [(RX, two k (.pointer pa) (.pointer pb'), 31), x]) := G2.sub (fun y hy => by
    rcases List.mem_cons.1 hy with rfl | hy
    · exact List.mem_cons_of_mem _ (List.mem_cons_self ..)
    · rcases List.mem_cons.1 hy with rfl | hy
      · exact List.mem_cons_self ..
      · rw [List.mem_singleton.1 hy]; exact List.mem_cons_of_mem _ (List.mem_cons_of_mem _ (List.mem_cons_self ..)))
  have G4 := G3.put (1 - k) (.pointer (some ⟨db', 0, none⟩)) (fun y hy => by
    rcases List.mem_cons.1 hy with rfl | hy
    · exact hne
    · rw [List.mem_singleton.1 hy]; exact hx.2)
  rw [two_set hk, ← h4] at G4
  have G5 : Gs w W4 pa pb' da db' a b oa ob K XA XB (x :: rws RX RY k pa pb' da db') := G4.sub (fun y hy => by
    rcases List.mem_cons.1 hy with rfl | hy
    · exact List.mem_cons_of_mem _ (List.mem_cons_of_mem _ (List.mem_cons_self ..))
    · rcases List.mem_cons.1 hy with rfl | hy
      · exact List.mem_cons_of_mem _ (List.mem_cons_self ..)
      · rw [List.mem_singleton.1 hy]; exact List.mem_cons_self ..)
  have r3 := (G3.bx _ (List.mem_cons_self ..)).1
  have q3 := (G3.bx _ (List.mem_cons_of_mem _ (List.mem_cons_self ..))).1
  refine ⟨G5, ⟨by rw [cell_row h.rx]; exact (two_k hk _ _).2, free_row h.rx _⟩, ⟨by rw [cell_row r3]; exact (two_k hk _ _).2, free_row r3 _⟩, ⟨by rw [cell_row q3]; exact (two_k hk _ _).1, by rw [cell_row r3]; exact (two_k hk _ _).1⟩, G5.rk hk⟩
end
set_option maxRecDepth 100000 in
set_option maxHeartbeats 64000000 in
theorem plays_any {w : World} (hT : Rk.Tab w) (a b c : Int) (n : Nat) (hn : n < 4294967296) (t : Int) {ao : Option Addr} {len cap : Nat} {X : List Bw} (hX : X.length = len) (hat : BwsAt w ao X) (hnil : ao = none → len = 0 ∧ cap = 0) {so : Option Addr} {len2 cap2 : Nat} {os : List Opx} (hl2 : os.length = len2) (hO : OpsAt w so os) (hOk : ∀ o ∈ os, o.Ok) : Calls Tryz.prog 3 #[.agg #[.int .i64 a, .int .i64 b, .int .i64 c, .int .u32 (n : Int), .int .i64 t, .slice ao len cap], .slice so len2 cap2] w fun e w' => e = .returned (.bool true) ∧ w.grownBy w' none := by
  have g0 := grown_alloc w (.cells [Value.int .i64 a, .int .i64 b, .int .i64 c, .int .u32 (n : Int), .int .i64 t, .slice ao len cap].toArray 27)
  have HAw := hide (awake_any _ (hT.grown g0 (by simp)))
  have HB := hide (heap_alloc_new w (.cells [Value.int .i64 a, .int .i64 b, .int .i64 c, .int .u32 (n : Int), .int .i64 t, .slice ao len cap].toArray 27))
  have HC : Hid (∀ W : World, W.heap[w.heap.size]? = some (.cells [Value.int .i64 a, .int .i64 b, .int .i64 c, .int .u32 (n : Int), .int .i64 t, .slice ao len cap].toArray 27 (0, 0)) → W.cell? ⟨w.heap.size, 0, none⟩ = some (.int .i64 a) ∧ W.cell? ⟨w.heap.size, 1, none⟩ = some (.int .i64 b) ∧ W.cell? ⟨w.heap.size, 2, none⟩ = some (.int .i64 c) ∧ W.cell? ⟨w.heap.size, 3, none⟩ = some (.int .u32 (n : Int)) ∧ W.cell? ⟨w.heap.size, 4, none⟩ = some (.int .i64 t) ∧ W.cell? ⟨w.heap.size, 5, none⟩ = some (.slice ao len cap)) := fun W h => by
    refine ⟨?_, ?_, ?_, ?_, ?_, ?_⟩ <;> (rw [cell_row h]; rfl)
  have HT := hide hT
  have HD := hide (And.intro hl2 (And.intro hO hOk))
  have HI := hide (And.intro hX (And.intro hat hnil))
  have HG0 := hide g0
  clear hT hl2 hO hOk hX hat hnil g0
  go_enter Tryz.func3, Tryz.ntmps3
  go_wp2_with fail
  refine HAw.out.mono ?_
  rintro e w1 ⟨rfl, hg1⟩
  have hb1 := box_to HB.out hg1
  have H1 := hide (And.intro hb1 (grown_trans HG0.out hg1))
  have HS1 : Hid (w.heap.size < w1.heap.size) := row_lt hb1
  obtain ⟨x0, x1, x2, x3, x4, x5⟩ := HC.out _ hb1
  clear hg1 hb1 HAw HB HG0
  by_cases hlen : 200 < len
  · have hlen2 : (200 : Int) < (len : Int) := by omega
    clear hlen
    go_wp2
    go_ret
    exact ⟨rfl, H1.out.2⟩
  have hlen2 : ¬ (200 : Int) < (len : Int) := by omega
  have hle : len ≤ 200 := by omega
  obtain ⟨E1, E2, oa, ob, A, B, hM⟩ := mkr_any a b c n hn t X ao len cap HI.out.1 HI.out.2.2 hle
  have HM := hide hM
  have HLe : Hid (∀ W : World, BwsAt W ao X → Calls Tryz.prog 10 #[.slice ao len cap] W fun e w' => ∃ g c, e = .returned (.slice (some ⟨g, 0, none⟩) len c) ∧ LentB w' W.heap.size g c X ∧ W.grownBy w' none) := fun W h => lentB_any ao len cap X W HI.out.1 h HI.out.2.2 (by omega)
  clear hlen hM hle hn
  go_wp2_with fail
  refine (HLe.out _ (HI.out.2.1.grown H1.out.2)).mono ?_
  rintro e w2 ⟨g, c2, rfl, hle2, hg2⟩
  have hb2 := box_to H1.out.1 hg2
  have H2 := hide (And.intro hb2 (And.intro (grown_trans H1.out.2 hg2) (And.intro hle2 H1.out.2)))
  clear x0 x1 x2 x3 x4 x5
  obtain ⟨x0, x1, x2, x3, x4, x5⟩ := HC.out _ hb2
  have hz2 : 0 < w2.heap.size := by have := HT.out.lt; have := H2.out.2.1.size; omega
  have HgL : Hid (w1.heap.size ≤ g ∧ g < w2.heap.size) := by
    have hoo := hle2.own
    obtain ⟨h1, cur, h2⟩ := Ix.own_block hoo rfl
    exact ⟨h1, row_lt h2⟩
  have HCa := hide (HM.out.ca w2 _ hz2 (hle2.bwa HI.out.1))
  clear hb2 hle2 hg2 H1 HLe hlen2 hz2
  go_wp2_with fail
  refine HCa.out.mono ?_
  rintro e w3 ⟨pa, YA, rfl, hLa, hg3⟩
  have hb3 := box_to H2.out.1 hg3
  have H3 := hide (And.intro hb3 (And.intro (grown_trans H2.out.2.1 hg3) (And.intro (H2.out.2.2.1.then hg3) (And.intro hLa H2.out.2.2.2))))
  have HG3 := hide hg3
  clear x0 x1 x2 x3 x4 x5
  obtain ⟨x0, x1, x2, x3, x4, x5⟩ := HC.out _ hb3
  have HCb := hide (HM.out.cb w3 (by have := HT.out.lt; have := H3.out.2.1.size; omega))
  clear hb3 hLa hg3 H2 HCa
  go_wp2_with fail
  refine HCb.out.mono ?_
  rintro e w4 ⟨pb, YB, rfl, hLb, hg4⟩
  have hb4 := box_to H3.out.1 hg4
  have H4 := hide (And.intro hb4 (And.intro (grown_trans H3.out.2.1 hg4) (And.intro (H3.out.2.2.1.then hg4) (And.intro (H3.out.2.2.2.1.then hg4) (And.intro hLb H3.out.2.2.2.2)))))
  have HG4 : Hid (w2.heap.size ≤ w3.heap.size ∧ ∀ i, YA i → i < w3.heap.size) := ⟨HG3.out.size, H3.out.2.2.2.1.lt⟩
  clear x0 x1 x2 x3 x4 x5
  obtain ⟨x0, x1, x2, x3, x4, x5⟩ := HC.out _ hb4
  have HKp : Hid (Calls Tryz.prog 13 #[.slice (some ⟨g, 0, none⟩) len c2, .slice ao len cap] w4 fun e w' => e = .returned (.bool true) ∧ w4.grownBy w' none) := keptB_any H4.out.2.2.1 HI.out.1 (HI.out.2.1.grown H4.out.2.1) (by omega)
  clear hb4 hLb hg4 H3 HCb HG3
  go_wp2_with fail
  refine HKp.out.mono ?_
  rintro e w5 ⟨rfl, hg5⟩
  have hb5 := box_to H4.out.1 hg5
  have H5 := hide (And.intro hb5 (And.intro (grown_trans H4.out.2.1 hg5) (And.intro (H4.out.2.2.1.then hg5) (And.intro (H4.out.2.2.2.1.then hg5) (And.intro (H4.out.2.2.2.2.1.then hg5) H4.out.2.2.2.2.2)))))
  clear x0 x1 x2 x3 x4 x5
  have HOv : Hid (Calls Tryz.prog 14 #[.slice (some ⟨g, 0, none⟩) len c2] w5 fun e w' => e = .returned (.tuple #[]) ∧ w5.grownBy w' (some g)) := overB_any H5.out.2.2.1 HI.out.1 (by omega)
  clear hb5 hg5 H4 HKp
  go_wp2_with fail
  refine HOv.out.mono ?_
  rintro e w6 ⟨rfl, hg6⟩
  have hk6 : Kept w5 w6 (fun i => i = g) := Kept.of hg6 (fun j e _ => (Option.some.inj e).symm)
  have hgw : w.heap.size ≤ g := by have := H5.out.2.2.2.2.2.size; have := HgL.out.1; omega
  have hSB := HS1.out
  have hb6 := hk6.at H5.out.1 (show ¬ w.heap.size = g by have := HgL.out.1; have := HS1.out; omega)
  have H6 : Hid (w6.heap[w.heap.size]? = some (.cells [Value.int .i64 a, .int .i64 b, .int .i64 c, .int .u32 (n : Int), .int .i64 t, .slice ao len cap].toArray 27 (0, 0)) ∧ w.grownBy w6 none ∧ LbP w2 w6 pa oa YA ∧ LbP w3 w6 pb ob YB) := ⟨hb6, gn_own H5.out.2.1 hg6 hgw, H5.out.2.2.2.1.far hk6 (fun i hi e => by have := H5.out.2.2.2.1.1 i hi; have := HgL.out.2; have h3 : i = g := e; omega), H5.out.2.2.2.2.1.far hk6 (fun i hi e => by have := H5.out.2.2.2.2.1.1 i hi; have := HgL.out.2; have := HG4.out.1; have h3 : i = g := e; omega)⟩
  obtain ⟨x0, x1, x2, x3, x4, x5⟩ := HC.out _ hb6
  have HCc := hide (HM.out.cc w6 (HI.out.2.1.grown H6.out.2.1))
  have HW2 := hide (show w.heap.size ≤ w2.heap.size by have := HgL.out; have := HS1.out; omega)
  have HW6 : Hid (w.heap.size ≤ w6.heap.size) := H6.out.2.1.size
  clear hg6 hk6 hgw hSB hb6 H5 HOv HgL
  go_wp2_with fail
  refine HCc.out.mono ?_
  rintro e w7 ⟨da, ZA, rfl, hLc, hg7⟩
  have hb7 := box_to H6.out.1 hg7
  have H7 := hide (And.intro hb7 (And.intro (grown_trans H6.out.2.1 hg7) (And.intro (H6.out.2.2.1.then hg7) (And.intro (H6.out.2.2.2.then hg7) hLc))))
  have HY6 : Hid ((∀ i, YA i → i < w6.heap.size) ∧ (∀ i, YB i → i < w6.heap.size) ∧ w6.heap.size ≤ w7.heap.size) := ⟨H6.out.2.2.1.lt, H6.out.2.2.2.lt, hg7.size⟩
  clear x0 x1 x2 x3 x4 x5
  obtain ⟨x0, x1, x2, x3, x4, x5⟩ := HC.out _ hb7
  have HCd := hide (HM.out.cd w7)
  clear hb7 hLc hg7 H6 HCc
  go_wp2_with fail
  refine HCd.out.mono ?_
  rintro e w8 ⟨db, ZB, rfl, hLd, hg8⟩
  have HZ7 : Hid (∀ i, ZA i → i < w7.heap.size) := H7.out.2.2.2.2.lt
  have hnA := H7.out.2.2.1.neq
  have hnB := H7.out.2.2.2.1.neq
  have he1 := HM.out.e1
  have he2 := HM.out.e2
  have HS8 : Hid (∃ XA XB, Gs w w8 pa pb da db A B oa ob 4096 XA XB []) := by
    refine ⟨_, _, mkSd (H7.out.2.2.1.then hg8) (H7.out.2.2.2.2.then hg8) HY6.out.1 HW2.out HW6.out HM.out.sa, mkSd (H7.out.2.2.2.1.then hg8) hLd (fun i e => by have := HY6.out.2.1 i e; have := HY6.out.2.2; omega) (Nat.le_trans HW2.out HG4.out.1) H7.out.2.1.size HM.out.sb, ?_, grown_trans H7.out.2.1 hg8, fun x hx => by cases hx⟩
    rintro i (e1 | e1) (e2 | e2)
    · have := HG4.out.2 i e1; have := H7.out.2.2.2.1.1 i e2; omega
    · have := HY6.out.1 i e1; have := hLd.1 i e2; have := HY6.out.2.2; omega
    · have := H7.out.2.2.2.2.1 i e1; have := HY6.out.2.1 i e2; omega
    · have := HZ7.out i e1; have := hLd.1 i e2; omega
  clear x0 x1 x2 x3 x4 x5 hLd hg8 H7 HY6 HCd HZ7 HM HG4 HW2
  go_wp2
  have HR0 : Hid (Vw w ((w8.alloc (.cells #[Value.pointer pa, .pointer pb] 31)).alloc (.cells #[Value.pointer (some ⟨da, 0, none⟩), .pointer (some ⟨db, 0, none⟩)] 38)) A B 4096 w8.heap.size (w8.heap.size + 1) 0 []) := by
    obtain ⟨XA, XB, G⟩ := HS8.out
    have G2 := (G.box [.pointer pa, .pointer pb] 31).box [.pointer (some ⟨da, 0, none⟩), .pointer (some ⟨db, 0, none⟩)] 38
    rw [show (w8.alloc (.cells [Value.pointer pa, .pointer pb].toArray 31)).heap.size = w8.heap.size + 1 from by show (w8.heap.push _).size = _; simp] at G2
    refine ⟨pa, pb, da, db, oa, ob, XA, XB, G2.sub (fun x hx => ?_)⟩
    simp only [rws, two, List.append_nil, List.mem_cons, List.not_mem_nil, or_false] at hx
    rcases hx with rfl | rfl
    · exact List.mem_cons_of_mem _ (List.mem_cons_self ..)
    · exact List.mem_cons_self ..
  have HRn : Hid (w8.heap.size ≠ w8.heap.size + 1) := by intro e; omega
  generalize hRY : w8.heap.size + 1 = RY at *
  generalize hRX : w8.heap.size = RX at *
  generalize World.alloc (World.alloc w8 _) _ = w9 at *
  clear HS8 hnA hnB he1 he2 hRY hRX HC HI
  obtain ⟨m, hm1, hm2, hm3⟩ : ∃ m, m ≤ len2 ∧ m ≤ 300 ∧ (m = len2 ∨ m = 300) := ⟨min len2 300, by omega, by omega, by omega⟩
  go_loopg [17] m (fun k i wr => ∃ j : Nat, k + j = m ∧ i = .int .i64 (j : Int) ∧ Hid (Vw w wr A B (4096 + j) RX RY 0 []))
  case atStart => exact ⟨0, by omega, rfl, HR0.out⟩
  case round =>
    clear HR0
    obtain ⟨j, hkj, rfl, HG⟩ := hrel
    by_cases hk : 0 < gk
    · have h1 : (0 : Int) ≤ (j : Int) := by omega
      have h2 : (j : Int) < (len2 : Int) := by omega
      have h3 : (j : Int) < 300 := by omega
      have hj300 : j < 300 := by omega
      obtain ⟨o, ho⟩ : ∃ o, os[j]? = some o := ⟨os[j]'(by have := HD.out.1; omega), List.getElem?_eq_getElem _⟩
      have hgr : w.grownBy wr none := by obtain ⟨q1, q2, q3, q4, q5, q6, q7, q8, G⟩ := HG.out; exact G.gr
      obtain ⟨ob0, off, rfl, y0, y1, y2, y3, y4, y5, y6, y7, y8⟩ := (HD.out.2.1.grown hgr) j o ho
      have HOk := hide (HD.out.2.2 o (List.mem_of_getElem? ho))
      obtain ⟨dd, nn, rr, id, seat⟩ := o
      obtain ⟨k, hk0, hk2⟩ : ∃ k : Nat, nn % 2 = (k : Int) ∧ k < 2 := ⟨(nn % 2).toNat, by omega, by omega⟩
      have HVw := hide (HG.out.to (l := k) (by omega) hk2)
      obtain ⟨pa, pb, da, db, oa, ob, XA, XB, hG⟩ := HVw.out
      have HP2 : Hid (∀ W : World, Calls Tryz.prog 17 #[.int .i64 nn, .int .i64 2] W fun e w' => e = .returned (.int .i64 (k : Int)) ∧ w' = W) := fun W => by
        have := pick_any nn 2 2 W rfl (by decide) (by decide)
        rw [show ((2 : Nat) : Int) = 2 from rfl, hk0] at this
        exact this
      have HG1 := hide (hG.box (opc dd nn rr (id : Int) seat) 48)
      have HNb : Hid (∀ y ∈ rws RX RY k pa pb da db, y.1 ≠ wr.heap.size) := fun y hy e => by
        have := row_lt (hG.bx y (by rw [List.append_nil]; exact hy)).1
        omega
      have HOne : Hid (∀ W, Gs w W pa pb da db A B oa ob (4096 + j) XA XB ((wr.heap.size, opc dd nn rr (id : Int) seat, 48) :: (rws RX RY k pa pb da db ++ [])) → Calls Tryz.prog 18 #[.pointer pa, .pointer (some ⟨da, 0, none⟩), opV dd nn rr (id : Int) seat] W fun e w' => e = .returned (.bool true) ∧ ∃ XA', Gs w w' pa pb da db A B (oa.map fun S => stp dd S rr) ob (4096 + j + 1) XA' XB ((wr.heap.size, opc dd nn rr (id : Int) seat, 48) :: (rws RX RY k pa pb da db ++ []))) := fun W G => by
        refine (G.sa.one G.gr (by omega) HT.out dd nn seat id HOk.out.i rr HOk.out.r).mono ?_
        rintro e w' ⟨rfl, h⟩
        exact ⟨rfl, G.moved h (by omega)⟩
      clear ho hG HVw hgr HG HOk hk0
      obtain ⟨rk, ri, rs, ru, rc⟩ := rr
      simp only [opc, opV, List.append_nil] at *
      have hkk0 : (0 : Int) ≤ (k : Int) := by omega
      have hkk2 : (k : Int) < 2 := by omega
      go_wp2_with fail
      refine (HP2.out _).mono ?_
      rintro e w10 ⟨rfl, rfl⟩
      go_wp2
      generalize hOB : wr.heap.size = OB at *
      generalize World.alloc wr _ = w3 at *
      clear y0 y1 y2 y3 y4 y5 y6 y7 y8 hOB HP2
      have HK21 : Hid (∀ W o2 K2 X2, Gs w W pa pb da db A B o2 ob K2 X2 XB ((OB, [Value.int .i64 dd, .int .i64 nn, .int .i64 rk, .int .u32 ri, .int .i64 rs, .int .i64 ru, .int .i64 rc, .int .u32 (id : Int), .int .i64 seat], 48) :: rws RX RY k pa pb da db) → (W.cell? ⟨RX, k, none⟩ = some (.pointer pa) ∧ W.cell? ⟨RY, k, none⟩ = some (.pointer (some ⟨da, 0, none⟩))) ∧ (W.cell? ⟨OB, 0, none⟩ = some (.int .i64 dd) ∧ W.cell? ⟨OB, 1, none⟩ = some (.int .i64 nn) ∧ W.cell? ⟨OB, 2, none⟩ = some (.int .i64 rk) ∧ W.cell? ⟨OB, 3, none⟩ = some (.int .u32 ri) ∧ W.cell? ⟨OB, 4, none⟩ = some (.int .i64 rs) ∧ W.cell? ⟨OB, 5, none⟩ = some (.int .i64 ru) ∧ W.cell? ⟨OB, 6, none⟩ = some (.int .i64 rc) ∧ W.cell? ⟨OB, 7, none⟩ = some (.int .u32 (id : Int)) ∧ W.cell? ⟨OB, 8, none⟩ = some (.int .i64 seat)) ∧ W.cell? ⟨da, 0, none⟩ = some (.bool (Option.isSome o2))) := fun W o2 K2 X2 G => ⟨G.rk hk2, ⟨G.cell (List.mem_cons_self ..) 0 _ rfl, G.cell (List.mem_cons_self ..) 1 _ rfl, G.cell (List.mem_cons_self ..) 2 _ rfl, G.cell (List.mem_cons_self ..) 3 _ rfl, G.cell (List.mem_cons_self ..) 4 _ rfl, G.cell (List.mem_cons_self ..) 5 _ rfl, G.cell (List.mem_cons_self ..) 6 _ rfl, G.cell (List.mem_cons_self ..) 7 _ rfl, G.cell (List.mem_cons_self ..) 8 _ rfl⟩, G.sa.there⟩
      have HObx : Hid (OB ≠ RX ∧ OB ≠ RY) := ⟨fun e => HNb.out (RX, two k (.pointer pa) (.pointer pb), 31) (List.mem_cons_self ..) e.symm, fun e => HNb.out (RY, two k (.pointer (some ⟨da, 0, none⟩)) (.pointer (some ⟨db, 0, none⟩)), 38) (List.mem_cons_of_mem _ (List.mem_cons_self ..)) e.symm⟩
      have G21 := HG1.out.then (grown_drew w3 none)
      have HKp := hide hk2
      have HPk : Hid (∀ v : Int, dd % 7 = v → ∀ W : World, Calls Tryz.prog 17 #[.int .i64 dd, .int .i64 7] W fun e w' => e = .returned (.int .i64 v) ∧ w' = W) := fun v hv W => pick7 dd v W hv
      clear HNb HG1 HT HD hk2
      cases oa with
      | none =>
        have HKb : Hid (∀ W (_ : Unit) K2 X2, Gs w W pa pb da db A B (none : Option Sb) ob K2 X2 XB ((OB, [Value.int .i64 dd, .int .i64 nn, .int .i64 rk, .int .u32 ri, .int .i64 rs, .int .i64 ru, .int .i64 rc, .int .u32 (id : Int), .int .i64 seat], 48) :: rws RX RY k pa pb da db) → (W.cell? ⟨RX, k, none⟩ = some (.pointer pa) ∧ W.cell? ⟨RY, k, none⟩ = some (.pointer (some ⟨da, 0, none⟩))) ∧ (W.cell? ⟨OB, 0, none⟩ = some (.int .i64 dd) ∧ W.cell? ⟨OB, 1, none⟩ = some (.int .i64 nn) ∧ W.cell? ⟨OB, 2, none⟩ = some (.int .i64 rk) ∧ W.cell? ⟨OB, 3, none⟩ = some (.int .u32 ri) ∧ W.cell? ⟨OB, 4, none⟩ = some (.int .i64 rs) ∧ W.cell? ⟨OB, 5, none⟩ = some (.int .i64 ru) ∧ W.cell? ⟨OB, 6, none⟩ = some (.int .i64 rc) ∧ W.cell? ⟨OB, 7, none⟩ = some (.int .u32 (id : Int)) ∧ W.cell? ⟨OB, 8, none⟩ = some (.int .i64 seat)) ∧ W.cell? ⟨da, 0, none⟩ = some (.bool false)) := fun W (_ : Unit) K2 X2 G => HK21.out W none K2 X2 G
        have HKc : Hid (∀ W K2 X2, Gs w W pa pb da db A B none ob K2 X2 XB ((OB, [Value.int .i64 dd, .int .i64 nn, .int .i64 rk, .int .u32 ri, .int .i64 rs, .int .i64 ru, .int .i64 rc, .int .u32 (id : Int), .int .i64 seat], 48) :: rws RX RY k pa pb da db) → (W.cell? ⟨RX, k, none⟩ = some (.pointer pa) ∧ W.cell? ⟨RY, k, none⟩ = some (.pointer (some ⟨da, 0, none⟩))) ∧ (W.cell? ⟨OB, 0, none⟩ = some (.int .i64 dd) ∧ W.cell? ⟨OB, 1, none⟩ = some (.int .i64 nn) ∧ W.cell? ⟨OB, 2, none⟩ = some (.int .i64 rk) ∧ W.cell? ⟨OB, 3, none⟩ = some (.int .u32 ri) ∧ W.cell? ⟨OB, 4, none⟩ = some (.int .i64 rs) ∧ W.cell? ⟨OB, 5, none⟩ = some (.int .i64 ru) ∧ W.cell? ⟨OB, 6, none⟩ = some (.int .i64 rc) ∧ W.cell? ⟨OB, 7, none⟩ = some (.int .u32 (id : Int)) ∧ W.cell? ⟨OB, 8, none⟩ = some (.int .i64 seat)) ∧ W.cell? ⟨da, 0, none⟩ = some (.bool false)) := fun W K2 X2 G => HK21.out W none K2 X2 G
        simp only [Option.map_none] at HOne
        clear HK21
        have hK21 := HKb.out _ () _ _ G21
        rcases (show dd % 7 = 5 ∨ dd % 7 = 6 ∨ (dd % 7 ≠ 5 ∧ dd % 7 ≠ 6) by omega) with hd | hd | ⟨hd, hd'⟩
        · have HPm := hide (HPk.out 5 hd)
          clear HPk hd
          refine wp_region_held_drew (S := (fun W => (W.cell? ⟨RX, k, none⟩ = some (.pointer pa) ∧ W.cell? ⟨RY, k, none⟩ = some (.pointer (some ⟨da, 0, none⟩))) ∧ (W.cell? ⟨OB, 0, none⟩ = some (.int .i64 dd) ∧ W.cell? ⟨OB, 1, none⟩ = some (.int .i64 nn) ∧ W.cell? ⟨OB, 2, none⟩ = some (.int .i64 rk) ∧ W.cell? ⟨OB, 3, none⟩ = some (.int .u32 ri) ∧ W.cell? ⟨OB, 4, none⟩ = some (.int .i64 rs) ∧ W.cell? ⟨OB, 5, none⟩ = some (.int .i64 ru) ∧ W.cell? ⟨OB, 6, none⟩ = some (.int .i64 rc) ∧ W.cell? ⟨OB, 7, none⟩ = some (.int .u32 (id : Int)) ∧ W.cell? ⟨OB, 8, none⟩ = some (.int .i64 seat)) ∧ W.cell? ⟨da, 0, none⟩ = some (.bool false))) (by kernel_rfl) ?_ (fun hHeld => ?_)
          · (exact hK21)
          refine tkQ 0 (oi := ⟨some 119, .move (.tmp 15), 42, "law.go:110", #[], none⟩) rfl ?_
          try simp only [Act.put, pA, pB, pC]
          refine tkQ 1 (oi := ⟨some 120, .move (.tmp 19), 3, "law.go:110", #[], none⟩) rfl ?_
          try simp only [Act.put, pA, pB, pC]
          refine tkQ 2 (oi := ⟨some 121, .indexAddr 42 (.tmp 119) (.tmp 120), 0, "law.go:110", #[⟨0, .data⟩, ⟨1, .data⟩], none⟩) rfl ?_
          try simp only [Act.put, pA, pB, pC]
          refine tkQ 3 (oi := ⟨some 122, .load 31 (.tmp 121), 31, "law.go:110", #[⟨2, .data⟩], none⟩) rfl ?_
          try simp only [Act.put, pA, pB, pC]
          refine tkQ 4 (oi := ⟨some 123, .move (.tmp 16), 43, "law.go:110", #[], none⟩) rfl ?_
          try simp only [Act.put, pA, pB, pC]
          refine tkQ 5 (oi := ⟨some 124, .move (.tmp 19), 3, "law.go:110", #[], none⟩) rfl ?_
          try simp only [Act.put, pA, pB, pC]
          refine tkQ 6 (oi := ⟨some 125, .indexAddr 43 (.tmp 123) (.tmp 124), 0, "law.go:110", #[⟨4, .data⟩, ⟨5, .data⟩], none⟩) rfl ?_
          try simp only [Act.put, pA, pB, pC]
          refine tkQ 7 (oi := ⟨some 126, .load 38 (.tmp 125), 38, "law.go:110", #[⟨6, .data⟩], none⟩) rfl ?_
          try simp only [Act.put, pA, pB, pC]
          refine tkQ 8 (oi := ⟨some 127, .load 48 (.tmp 18), 48, "law.go:110", #[], none⟩) rfl ?_
          try simp only [Act.put, pA, pB, pC]
          refine rdH (i := 9) rfl (fun K hK => ?_)
          go_simp
          refine (HOne.out _ G21).mono ?_
          rintro e w5 ⟨rfl, XA5, G5⟩
          have hK5 := HKc.out _ _ _ G5
          go_wp2_with fail
          refine hK.out _ _ ?_ (fun hHeld => ?_)
          · ((try dsimp only); first | with_reducible assumption | exact hK5)
          clear hK K
          try simp only [Act.put, pA, pB, pC]
          refine tkQ 10 (oi := ⟨some 129, .unOp .not 4 (.tmp 128), 4, "law.go:110", #[⟨9, .data⟩], none⟩) rfl ?_
          try simp only [Act.put, pA, pB, pC]
          refine tkQ 11 (oi := ⟨some 130, .move (.tmp 129), 4, "law.go:110", #[⟨10, .data⟩, ⟨9, .chain⟩], none⟩) rfl ?_
          try simp only [Act.put, pA, pB, pC]
          refine tkQ 12 (oi := ⟨some 131, .move (.tmp 16), 43, "law.go:110", #[⟨11, .guard⟩], some (11, false)⟩) rfl ?_
          try simp only [Act.put, pA, pB, pC]
          refine tkQ 13 (oi := ⟨some 132, .move (.tmp 19), 3, "law.go:110", #[⟨11, .guard⟩], some (11, false)⟩) rfl ?_
          try simp only [Act.put, pA, pB, pC]
          refine tkQ 14 (oi := ⟨some 133, .indexAddr 43 (.tmp 131) (.tmp 132), 0, "law.go:110", #[⟨12, .data⟩, ⟨13, .data⟩, ⟨11, .guard⟩], some (11, false)⟩) rfl ?_
          try simp only [Act.put, pA, pB, pC]
          refine tkQ 15 (oi := ⟨some 134, .load 38 (.tmp 133), 38, "law.go:110", #[⟨14, .data⟩, ⟨11, .guard⟩], some (11, false)⟩) rfl ?_
          try simp only [Act.put, pA, pB, pC]
          refine tkQ 16 (oi := ⟨some 135, .nilCheck (.tmp 134), 0, "law.go:110", #[⟨15, .data⟩, ⟨11, .guard⟩], some (11, false)⟩) rfl ?_
          try simp only [Act.put, pA, pB, pC]
          refine tkQ 17 (oi := ⟨some 136, .fieldAddr 52 (.tmp 135) 0, 0, "law.go:110", #[⟨16, .data⟩, ⟨11, .guard⟩], some (11, false)⟩) rfl ?_
          try simp only [Act.put, pA, pB, pC]
          refine tkQ 18 (oi := ⟨some 137, .load 4 (.tmp 136), 4, "law.go:110", #[⟨17, .data⟩, ⟨11, .guard⟩], some (11, false)⟩) rfl ?_
          try simp only [Act.put, pA, pB, pC]
          refine tkQ 19 (oi := ⟨some 138, .move (.tmp 137), 4, "law.go:110", #[⟨18, .data⟩, ⟨11, .chain⟩, ⟨11, .guard⟩], some (11, false)⟩) rfl ?_
          try simp only [Act.put, pA, pB, pC]
          refine skH 20 (oi := ⟨some 139, .move (.tmp 16), 43, "law.go:110", #[⟨19, .guard⟩], some (19, true)⟩) rfl ?_
          try simp only [Act.put, pA, pB, pC]
          refine skH 21 (oi := ⟨some 140, .move (.tmp 19), 3, "law.go:110", #[⟨19, .guard⟩], some (19, true)⟩) rfl ?_
          try simp only [Act.put, pA, pB, pC]
          refine skH 22 (oi := ⟨some 141, .indexAddr 43 (.tmp 139) (.tmp 140), 0, "law.go:110", #[⟨20, .data⟩, ⟨21, .data⟩, ⟨19, .guard⟩], some (19, true)⟩) rfl ?_
          try simp only [Act.put, pA, pB, pC]
          refine skH 23 (oi := ⟨some 142, .load 38 (.tmp 141), 38, "law.go:110", #[⟨22, .data⟩, ⟨19, .guard⟩], some (19, true)⟩) rfl ?_
          try simp only [Act.put, pA, pB, pC]
          refine skH 24 (oi := ⟨some 143, .call { callee := .value (.func 19), args := #[.tmp 142], argTypes := #[38] }, 4, "law.go:110", #[⟨23, .data⟩, ⟨19, .chain⟩, ⟨19, .guard⟩], some (19, true)⟩) rfl ?_
          try simp only [Act.put, pA, pB, pC]
          refine skH 25 (oi := ⟨some 144, .unOp .not 4 (.tmp 143), 4, "law.go:110", #[⟨24, .data⟩, ⟨19, .guard⟩], some (19, true)⟩) rfl ?_
          try simp only [Act.put, pA, pB, pC]
          refine tkQ 26 (oi := ⟨some 145, .pick (.tmp 138) (.tmp 144) (.const (.bool false)), 4, "law.go:110", #[⟨19, .data⟩, ⟨25, .data⟩, ⟨11, .guard⟩], some (11, false)⟩) rfl ?_
          try simp only [Act.put, pA, pB, pC]
          refine tkQ 27 (oi := ⟨some 146, .pick (.tmp 130) (.const (.bool true)) (.tmp 145), 4, "law.go:110", #[⟨11, .data⟩, ⟨26, .data⟩], none⟩) rfl ?_
          try simp only [Act.put, pA, pB, pC]
          refine wpAnyH_done (by kernel_rfl) ?_ _
          have GG := hide (G5)
          clear hK21 hK5 G5 hHeld G21 HOne HKb
          go_wp2
          have HV : Vw w (World.drew w5) A B (4096 + j + 1) RX RY k [((OB, [Value.int .i64 dd, .int .i64 nn, .int .i64 rk, .int .u32 ri, .int .i64 rs, .int .i64 ru, .int .i64 rc, .int .u32 (id : Int), .int .i64 seat], 48) : Nat × List Value × TypeId)] := ⟨pa, pb, da, db, _, ob, _, XB, (GG.out.then (grown_drew w5 none)).o1⟩
          obtain ⟨p0, p1, d0, d1, o0, o1, X0, X1, G0⟩ := HV.to HKp.out (l := 0) (by omega)
          have HK0 : Hid (∀ W, Gs w W p0 p1 d0 d1 A B o0 o1 (4096 + j + 1) X0 X1 (rws RX RY 0 p0 p1 d0 d1 ++ [((OB, [Value.int .i64 dd, .int .i64 nn, .int .i64 rk, .int .u32 ri, .int .i64 rs, .int .i64 ru, .int .i64 rc, .int .u32 (id : Int), .int .i64 seat], 48) : Nat × List Value × TypeId)]) → W.cell? ⟨OB, 0, none⟩ = some (.int .i64 dd) ∧ (W.cell? ⟨RX, 0, none⟩ = some (.pointer p0) ∧ W.cell? ⟨RX, 1, none⟩ = some (.pointer p1)) ∧ (W.cell? ⟨RY, 0, none⟩ = some (.pointer (some ⟨d0, 0, none⟩)) ∧ W.cell? ⟨RY, 1, none⟩ = some (.pointer (some ⟨d1, 0, none⟩)))) := fun W G => ⟨G.cell (List.mem_cons_of_mem _ (List.mem_cons_of_mem _ (List.mem_cons_self ..))) 0 _ rfl, ⟨G.cell (List.mem_cons_self ..) 0 _ rfl, G.cell (List.mem_cons_self ..) 1 _ rfl⟩, G.cell (List.mem_cons_of_mem _ (List.mem_cons_self ..)) 0 _ rfl, G.cell (List.mem_cons_of_mem _ (List.mem_cons_self ..)) 1 _ rfl⟩
          have HSm : Hid (∀ W, Gs w W p0 p1 d0 d1 A B o0 o1 (4096 + j + 1) X0 X1 (rws RX RY 0 p0 p1 d0 d1 ++ [((OB, [Value.int .i64 dd, .int .i64 nn, .int .i64 rk, .int .u32 ri, .int .i64 rs, .int .i64 ru, .int .i64 rc, .int .u32 (id : Int), .int .i64 seat], 48) : Nat × List Value × TypeId)]) → Calls Tryz.prog 20 #[.pointer p0, .pointer p1] W fun e w' => e = .returned (.bool (sameO o0 o1)) ∧ W.grownBy w' none) := fun W G => G.sa.same G.sb
          have HDs : Hid (∀ W, Gs w W p0 p1 d0 d1 A B o0 o1 (4096 + j + 1) X0 X1 (rws RX RY 0 p0 p1 d0 d1 ++ [((OB, [Value.int .i64 dd, .int .i64 nn, .int .i64 rk, .int .u32 ri, .int .i64 rs, .int .i64 ru, .int .i64 rc, .int .u32 (id : Int), .int .i64 seat], 48) : Nat × List Value × TypeId)]) → Calls Tryz.prog 21 #[.pointer (some ⟨d0, 0, none⟩), .pointer (some ⟨d1, 0, none⟩)] W fun e w' => e = .returned (.bool (sameO o0 o1)) ∧ W.grownBy w' none) := fun W G => G.sa.dsame G.sb
          have hK0 := HK0.out _ G0
          clear HV GG HKc
          generalize sameO o0 o1 = sm at *
          refine wp_region_held_drew (S := (fun W => W.cell? ⟨OB, 0, none⟩ = some (.int .i64 dd) ∧ (W.cell? ⟨RX, 0, none⟩ = some (.pointer p0) ∧ W.cell? ⟨RX, 1, none⟩ = some (.pointer p1)) ∧ (W.cell? ⟨RY, 0, none⟩ = some (.pointer (some ⟨d0, 0, none⟩)) ∧ W.cell? ⟨RY, 1, none⟩ = some (.pointer (some ⟨d1, 0, none⟩))))) (by kernel_rfl) ?_ (fun hHeld => ?_)
          · (exact hK0)
          refine tkQ 0 (oi := ⟨some 147, .fieldAddr 48 (.tmp 18) 0, 0, "law.go:113", #[], none⟩) rfl ?_
          try simp only [Act.put, pA, pB, pC]
          refine tkQ 1 (oi := ⟨some 148, .load 3 (.tmp 147), 3, "law.go:113", #[⟨0, .data⟩], none⟩) rfl ?_
          try simp only [Act.put, pA, pB, pC]
          refine rdH (i := 2) rfl (fun K hK => ?_)
          go_simp
          refine (HPm.out _).mono ?_
          rintro e wz ⟨rfl, rfl⟩
          go_wp2_with fail
          refine hK.out _ _ ?_ (fun hHeld => ?_)
          · ((try dsimp only); first | with_reducible assumption | exact hK8 | exact hK9)
          clear hK K
          try simp only [Act.put, pA, pB, pC]
          refine tkQ 3 (oi := ⟨some 150, .binOp .eql 3 (.tmp 149) (.const (.int .i64 5)) 3, 4, "law.go:113", #[⟨2, .data⟩], none⟩) rfl ?_
          try simp only [Act.put, pA, pB, pC]
          refine tkQ 4 (oi := ⟨some 151, .move (.tmp 150), 4, "law.go:113", #[⟨3, .data⟩, ⟨2, .chain⟩], none⟩) rfl ?_
          try simp only [Act.put, pA, pB, pC]
          refine tkQ 5 (oi := ⟨some 152, .move (.tmp 15), 42, "law.go:113", #[⟨4, .guard⟩], some (4, true)⟩) rfl ?_
          try simp only [Act.put, pA, pB, pC]
          refine tkQ 6 (oi := ⟨some 153, .indexAddr 42 (.tmp 152) (.const (.int .i64 0)), 0, "law.go:113", #[⟨5, .data⟩, ⟨4, .guard⟩], some (4, true)⟩) rfl ?_
          try simp only [Act.put, pA, pB, pC]
          refine tkQ 7 (oi := ⟨some 154, .load 31 (.tmp 153), 31, "law.go:113", #[⟨6, .data⟩, ⟨4, .guard⟩], some (4, true)⟩) rfl ?_
          try simp only [Act.put, pA, pB, pC]
          refine tkQ 8 (oi := ⟨some 155, .move (.tmp 15), 42, "law.go:113", #[⟨4, .guard⟩], some (4, true)⟩) rfl ?_
          try simp only [Act.put, pA, pB, pC]
          refine tkQ 9 (oi := ⟨some 156, .indexAddr 42 (.tmp 155) (.const (.int .i64 1)), 0, "law.go:113", #[⟨8, .data⟩, ⟨4, .guard⟩], some (4, true)⟩) rfl ?_
          try simp only [Act.put, pA, pB, pC]
          refine tkQ 10 (oi := ⟨some 157, .load 31 (.tmp 156), 31, "law.go:113", #[⟨9, .data⟩, ⟨4, .guard⟩], some (4, true)⟩) rfl ?_
          try simp only [Act.put, pA, pB, pC]
          refine tkQ 12 (oi := ⟨some 159, .move (.tmp 16), 43, "law.go:113", #[⟨4, .guard⟩], some (4, true)⟩) rfl ?_
          try simp only [Act.put, pA, pB, pC]
          refine tkQ 13 (oi := ⟨some 160, .indexAddr 43 (.tmp 159) (.const (.int .i64 0)), 0, "law.go:113", #[⟨12, .data⟩, ⟨4, .guard⟩], some (4, true)⟩) rfl ?_
          try simp only [Act.put, pA, pB, pC]
          refine tkQ 14 (oi := ⟨some 161, .load 38 (.tmp 160), 38, "law.go:113", #[⟨13, .data⟩, ⟨4, .guard⟩], some (4, true)⟩) rfl ?_
          try simp only [Act.put, pA, pB, pC]
          refine tkQ 15 (oi := ⟨some 162, .move (.tmp 16), 43, "law.go:113", #[⟨4, .guard⟩], some (4, true)⟩) rfl ?_
          try simp only [Act.put, pA, pB, pC]
          refine tkQ 16 (oi := ⟨some 163, .indexAddr 43 (.tmp 162) (.const (.int .i64 1)), 0, "law.go:113", #[⟨15, .data⟩, ⟨4, .guard⟩], some (4, true)⟩) rfl ?_
          try simp only [Act.put, pA, pB, pC]
          refine tkQ 17 (oi := ⟨some 164, .load 38 (.tmp 163), 38, "law.go:113", #[⟨16, .data⟩, ⟨4, .guard⟩], some (4, true)⟩) rfl ?_
          try simp only [Act.put, pA, pB, pC]
          refine rdH (i := 11) rfl (fun K hK => ?_)
          go_simp
          refine (HSm.out _ G0).mono ?_
          rintro e w8 ⟨rfl, g8⟩
          have G8 := G0.then g8
          have hK8 := HK0.out _ G8
          go_wp2_with fail
          refine hK.out _ _ ?_ (fun hHeld => ?_)
          · ((try dsimp only); first | with_reducible assumption | exact hK8 | exact hK9)
          clear hK K
          try simp only [Act.put, pA, pB, pC]
          refine rdH (i := 18) rfl (fun K hK => ?_)
          go_simp
          refine (HDs.out _ G8).mono ?_
          rintro e w9 ⟨rfl, g9⟩
          have G9 := G8.then g9
          have hK9 := HK0.out _ G9
          go_wp2_with fail
          refine hK.out _ _ ?_ (fun hHeld => ?_)
          · ((try dsimp only); first | with_reducible assumption | exact hK8 | exact hK9)
          clear hK K
          try simp only [Act.put, pA, pB, pC]
          refine tkQ 19 (oi := ⟨some 166, .binOp .neq 4 (.tmp 158) (.tmp 165) 4, 4, "law.go:113", #[⟨11, .data⟩, ⟨18, .data⟩, ⟨4, .guard⟩], some (4, true)⟩) rfl ?_
          try simp only [Act.put, pA, pB, pC]
          refine tkQ 20 (oi := ⟨some 167, .pick (.tmp 151) (.tmp 166) (.const (.bool false)), 4, "law.go:113", #[⟨4, .data⟩, ⟨19, .data⟩], none⟩) rfl ?_
          try simp only [Act.put, pA, pB, pC]
          refine wpAnyH_done (by kernel_rfl) ?_ _
          have GZ := hide G9
          clear hHeld hK0 hK8 hK9 HK0 HSm HDs G0 G8 G9 g8 g9
          have z0 : w9.cell? ⟨OB, 0, none⟩ = some (.int .i64 dd) := GZ.out.cell (List.mem_cons_of_mem _ (List.mem_cons_of_mem _ (List.mem_cons_self ..))) 0 _ rfl
          go_wp2_with fail
          refine (HPm.out _).mono ?_
          rintro e wz ⟨rfl, rfl⟩
          go_wp2
          go_roundg (gk - 1)
          case measure => omega
          case rel => exact ⟨j + 1, by omega, by go_num, p0, p1, d0, d1, o0, o1, X0, X1, GZ.out.o2⟩
        · have HPm := hide (HPk.out 6 hd)
          clear HPk hd
          refine wp_region_held_drew (S := (fun W => (W.cell? ⟨RX, k, none⟩ = some (.pointer pa) ∧ W.cell? ⟨RY, k, none⟩ = some (.pointer (some ⟨da, 0, none⟩))) ∧ (W.cell? ⟨OB, 0, none⟩ = some (.int .i64 dd) ∧ W.cell? ⟨OB, 1, none⟩ = some (.int .i64 nn) ∧ W.cell? ⟨OB, 2, none⟩ = some (.int .i64 rk) ∧ W.cell? ⟨OB, 3, none⟩ = some (.int .u32 ri) ∧ W.cell? ⟨OB, 4, none⟩ = some (.int .i64 rs) ∧ W.cell? ⟨OB, 5, none⟩ = some (.int .i64 ru) ∧ W.cell? ⟨OB, 6, none⟩ = some (.int .i64 rc) ∧ W.cell? ⟨OB, 7, none⟩ = some (.int .u32 (id : Int)) ∧ W.cell? ⟨OB, 8, none⟩ = some (.int .i64 seat)) ∧ W.cell? ⟨da, 0, none⟩ = some (.bool false))) (by kernel_rfl) ?_ (fun hHeld => ?_)
          · (exact hK21)
          refine tkQ 0 (oi := ⟨some 119, .move (.tmp 15), 42, "law.go:110", #[], none⟩) rfl ?_
          try simp only [Act.put, pA, pB, pC]
          refine tkQ 1 (oi := ⟨some 120, .move (.tmp 19), 3, "law.go:110", #[], none⟩) rfl ?_
          try simp only [Act.put, pA, pB, pC]
          refine tkQ 2 (oi := ⟨some 121, .indexAddr 42 (.tmp 119) (.tmp 120), 0, "law.go:110", #[⟨0, .data⟩, ⟨1, .data⟩], none⟩) rfl ?_
          try simp only [Act.put, pA, pB, pC]
          refine tkQ 3 (oi := ⟨some 122, .load 31 (.tmp 121), 31, "law.go:110", #[⟨2, .data⟩], none⟩) rfl ?_
          try simp only [Act.put, pA, pB, pC]
          refine tkQ 4 (oi := ⟨some 123, .move (.tmp 16), 43, "law.go:110", #[], none⟩) rfl ?_
          try simp only [Act.put, pA, pB, pC]
          refine tkQ 5 (oi := ⟨some 124, .move (.tmp 19), 3, "law.go:110", #[], none⟩) rfl ?_
          try simp only [Act.put, pA, pB, pC]
          refine tkQ 6 (oi := ⟨some 125, .indexAddr 43 (.tmp 123) (.tmp 124), 0, "law.go:110", #[⟨4, .data⟩, ⟨5, .data⟩], none⟩) rfl ?_
          try simp only [Act.put, pA, pB, pC]
          refine tkQ 7 (oi := ⟨some 126, .load 38 (.tmp 125), 38, "law.go:110", #[⟨6, .data⟩], none⟩) rfl ?_
          try simp only [Act.put, pA, pB, pC]
          refine tkQ 8 (oi := ⟨some 127, .load 48 (.tmp 18), 48, "law.go:110", #[], none⟩) rfl ?_
          try simp only [Act.put, pA, pB, pC]
          refine rdH (i := 9) rfl (fun K hK => ?_)
          go_simp
          refine (HOne.out _ G21).mono ?_
          rintro e w5 ⟨rfl, XA5, G5⟩
          have hK5 := HKc.out _ _ _ G5
          go_wp2_with fail
          refine hK.out _ _ ?_ (fun hHeld => ?_)
          · ((try dsimp only); first | with_reducible assumption | exact hK5)
          clear hK K
          try simp only [Act.put, pA, pB, pC]
          refine tkQ 10 (oi := ⟨some 129, .unOp .not 4 (.tmp 128), 4, "law.go:110", #[⟨9, .data⟩], none⟩) rfl ?_
          try simp only [Act.put, pA, pB, pC]
          refine tkQ 11 (oi := ⟨some 130, .move (.tmp 129), 4, "law.go:110", #[⟨10, .data⟩, ⟨9, .chain⟩], none⟩) rfl ?_
          try simp only [Act.put, pA, pB, pC]
          refine tkQ 12 (oi := ⟨some 131, .move (.tmp 16), 43, "law.go:110", #[⟨11, .guard⟩], some (11, false)⟩) rfl ?_
          try simp only [Act.put, pA, pB, pC]
          refine tkQ 13 (oi := ⟨some 132, .move (.tmp 19), 3, "law.go:110", #[⟨11, .guard⟩], some (11, false)⟩) rfl ?_
          try simp only [Act.put, pA, pB, pC]
          refine tkQ 14 (oi := ⟨some 133, .indexAddr 43 (.tmp 131) (.tmp 132), 0, "law.go:110", #[⟨12, .data⟩, ⟨13, .data⟩, ⟨11, .guard⟩], some (11, false)⟩) rfl ?_
          try simp only [Act.put, pA, pB, pC]
          refine tkQ 15 (oi := ⟨some 134, .load 38 (.tmp 133), 38, "law.go:110", #[⟨14, .data⟩, ⟨11, .guard⟩], some (11, false)⟩) rfl ?_
          try simp only [Act.put, pA, pB, pC]
          refine tkQ 16 (oi := ⟨some 135, .nilCheck (.tmp 134), 0, "law.go:110", #[⟨15, .data⟩, ⟨11, .guard⟩], some (11, false)⟩) rfl ?_
          try simp only [Act.put, pA, pB, pC]
          refine tkQ 17 (oi := ⟨some 136, .fieldAddr 52 (.tmp 135) 0, 0, "law.go:110", #[⟨16, .data⟩, ⟨11, .guard⟩], some (11, false)⟩) rfl ?_
          try simp only [Act.put, pA, pB, pC]
          refine tkQ 18 (oi := ⟨some 137, .load 4 (.tmp 136), 4, "law.go:110", #[⟨17, .data⟩, ⟨11, .guard⟩], some (11, false)⟩) rfl ?_
          try simp only [Act.put, pA, pB, pC]
          refine tkQ 19 (oi := ⟨some 138, .move (.tmp 137), 4, "law.go:110", #[⟨18, .data⟩, ⟨11, .chain⟩, ⟨11, .guard⟩], some (11, false)⟩) rfl ?_
          try simp only [Act.put, pA, pB, pC]
          refine skH 20 (oi := ⟨some 139, .move (.tmp 16), 43, "law.go:110", #[⟨19, .guard⟩], some (19, true)⟩) rfl ?_
          try simp only [Act.put, pA, pB, pC]
          refine skH 21 (oi := ⟨some 140, .move (.tmp 19), 3, "law.go:110", #[⟨19, .guard⟩], some (19, true)⟩) rfl ?_
          try simp only [Act.put, pA, pB, pC]
          refine skH 22 (oi := ⟨some 141, .indexAddr 43 (.tmp 139) (.tmp 140), 0, "law.go:110", #[⟨20, .data⟩, ⟨21, .data⟩, ⟨19, .guard⟩], some (19, true)⟩) rfl ?_
          try simp only [Act.put, pA, pB, pC]
          refine skH 23 (oi := ⟨some 142, .load 38 (.tmp 141), 38, "law.go:110", #[⟨22, .data⟩, ⟨19, .guard⟩], some (19, true)⟩) rfl ?_
          try simp only [Act.put, pA, pB, pC]
          refine skH 24 (oi := ⟨some 143, .call { callee := .value (.func 19), args := #[.tmp 142], argTypes := #[38] }, 4, "law.go:110", #[⟨23, .data⟩, ⟨19, .chain⟩, ⟨19, .guard⟩], some (19, true)⟩) rfl ?_
          try simp only [Act.put, pA, pB, pC]
          refine skH 25 (oi := ⟨some 144, .unOp .not 4 (.tmp 143), 4, "law.go:110", #[⟨24, .data⟩, ⟨19, .guard⟩], some (19, true)⟩) rfl ?_
          try simp only [Act.put, pA, pB, pC]
          refine tkQ 26 (oi := ⟨some 145, .pick (.tmp 138) (.tmp 144) (.const (.bool false)), 4, "law.go:110", #[⟨19, .data⟩, ⟨25, .data⟩, ⟨11, .guard⟩], some (11, false)⟩) rfl ?_
          try simp only [Act.put, pA, pB, pC]
          refine tkQ 27 (oi := ⟨some 146, .pick (.tmp 130) (.const (.bool true)) (.tmp 145), 4, "law.go:110", #[⟨11, .data⟩, ⟨26, .data⟩], none⟩) rfl ?_
          try simp only [Act.put, pA, pB, pC]
          refine wpAnyH_done (by kernel_rfl) ?_ _
          have GG := hide (G5)
          clear hK21 hK5 G5 hHeld G21 HOne HKb
          go_wp2
          have hz23 : (World.drew w5).cell? ⟨OB, 0, none⟩ = some (.int .i64 dd) := (GG.out.then (grown_drew w5 none)).cell (List.mem_cons_self ..) 0 _ rfl
          refine wp_region_held_drew (S := (fun W => W.cell? ⟨OB, 0, none⟩ = some (.int .i64 dd))) (by kernel_rfl) ?_ (fun hHeld => ?_)
          · (exact hz23)
          refine tkQ 0 (oi := ⟨some 147, .fieldAddr 48 (.tmp 18) 0, 0, "law.go:113", #[], none⟩) rfl ?_
          try simp only [Act.put, pA, pB, pC]
          refine tkQ 1 (oi := ⟨some 148, .load 3 (.tmp 147), 3, "law.go:113", #[⟨0, .data⟩], none⟩) rfl ?_
          try simp only [Act.put, pA, pB, pC]
          refine rdH (i := 2) rfl (fun K hK => ?_)
          go_simp
          refine (HPm.out _).mono ?_
          rintro e wz ⟨rfl, rfl⟩
          go_wp2_with fail
          refine hK.out _ _ ?_ (fun hHeld => ?_)
          · ((try dsimp only); with_reducible assumption)
          clear hK K
          try simp only [Act.put, pA, pB, pC]
          refine tkQ 3 (oi := ⟨some 150, .binOp .eql 3 (.tmp 149) (.const (.int .i64 5)) 3, 4, "law.go:113", #[⟨2, .data⟩], none⟩) rfl ?_
          try simp only [Act.put, pA, pB, pC]
          refine tkQ 4 (oi := ⟨some 151, .move (.tmp 150), 4, "law.go:113", #[⟨3, .data⟩, ⟨2, .chain⟩], none⟩) rfl ?_
          try simp only [Act.put, pA, pB, pC]
          refine skH 5 (oi := ⟨some 152, .move (.tmp 15), 42, "law.go:113", #[⟨4, .guard⟩], some (4, true)⟩) rfl ?_
          try simp only [Act.put, pA, pB, pC]
          refine skH 6 (oi := ⟨some 153, .indexAddr 42 (.tmp 152) (.const (.int .i64 0)), 0, "law.go:113", #[⟨5, .data⟩, ⟨4, .guard⟩], some (4, true)⟩) rfl ?_
          try simp only [Act.put, pA, pB, pC]
          refine skH 7 (oi := ⟨some 154, .load 31 (.tmp 153), 31, "law.go:113", #[⟨6, .data⟩, ⟨4, .guard⟩], some (4, true)⟩) rfl ?_
          try simp only [Act.put, pA, pB, pC]
          refine skH 8 (oi := ⟨some 155, .move (.tmp 15), 42, "law.go:113", #[⟨4, .guard⟩], some (4, true)⟩) rfl ?_
          try simp only [Act.put, pA, pB, pC]
          refine skH 9 (oi := ⟨some 156, .indexAddr 42 (.tmp 155) (.const (.int .i64 1)), 0, "law.go:113", #[⟨8, .data⟩, ⟨4, .guard⟩], some (4, true)⟩) rfl ?_
          try simp only [Act.put, pA, pB, pC]
          refine skH 10 (oi := ⟨some 157, .load 31 (.tmp 156), 31, "law.go:113", #[⟨9, .data⟩, ⟨4, .guard⟩], some (4, true)⟩) rfl ?_
          try simp only [Act.put, pA, pB, pC]
          refine skH 11 (oi := ⟨some 158, .call { callee := .value (.func 20), args := #[.tmp 154, .tmp 157], argTypes := #[31, 31] }, 4, "law.go:113", #[⟨7, .data⟩, ⟨10, .data⟩, ⟨4, .chain⟩, ⟨4, .guard⟩], some (4, true)⟩) rfl ?_
          try simp only [Act.put, pA, pB, pC]
          refine skH 12 (oi := ⟨some 159, .move (.tmp 16), 43, "law.go:113", #[⟨4, .guard⟩], some (4, true)⟩) rfl ?_
          try simp only [Act.put, pA, pB, pC]
          refine skH 13 (oi := ⟨some 160, .indexAddr 43 (.tmp 159) (.const (.int .i64 0)), 0, "law.go:113", #[⟨12, .data⟩, ⟨4, .guard⟩], some (4, true)⟩) rfl ?_
          try simp only [Act.put, pA, pB, pC]
          refine skH 14 (oi := ⟨some 161, .load 38 (.tmp 160), 38, "law.go:113", #[⟨13, .data⟩, ⟨4, .guard⟩], some (4, true)⟩) rfl ?_
          try simp only [Act.put, pA, pB, pC]
          refine skH 15 (oi := ⟨some 162, .move (.tmp 16), 43, "law.go:113", #[⟨4, .guard⟩], some (4, true)⟩) rfl ?_
          try simp only [Act.put, pA, pB, pC]
          refine skH 16 (oi := ⟨some 163, .indexAddr 43 (.tmp 162) (.const (.int .i64 1)), 0, "law.go:113", #[⟨15, .data⟩, ⟨4, .guard⟩], some (4, true)⟩) rfl ?_
          try simp only [Act.put, pA, pB, pC]
          refine skH 17 (oi := ⟨some 164, .load 38 (.tmp 163), 38, "law.go:113", #[⟨16, .data⟩, ⟨4, .guard⟩], some (4, true)⟩) rfl ?_
          try simp only [Act.put, pA, pB, pC]
          refine skH 18 (oi := ⟨some 165, .call { callee := .value (.func 21), args := #[.tmp 161, .tmp 164], argTypes := #[38, 38] }, 4, "law.go:113", #[⟨14, .data⟩, ⟨17, .data⟩, ⟨11, .chain⟩, ⟨4, .guard⟩], some (4, true)⟩) rfl ?_
          try simp only [Act.put, pA, pB, pC]
          refine skH 19 (oi := ⟨some 166, .binOp .neq 4 (.tmp 158) (.tmp 165) 4, 4, "law.go:113", #[⟨11, .data⟩, ⟨18, .data⟩, ⟨4, .guard⟩], some (4, true)⟩) rfl ?_
          try simp only [Act.put, pA, pB, pC]
          refine tkQ 20 (oi := ⟨some 167, .pick (.tmp 151) (.tmp 166) (.const (.bool false)), 4, "law.go:113", #[⟨4, .data⟩, ⟨19, .data⟩], none⟩) rfl ?_
          try simp only [Act.put, pA, pB, pC]
          refine wpAnyH_done (by kernel_rfl) ?_ _
          have G7 := hide (GG.out.then (grown_drew w5 none))
          clear hHeld GG
          generalize World.drew w5 = w7 at *
          obtain ⟨⟨r0, r1⟩, -, r2⟩ := HKc.out _ _ _ G7.out
          go_wp2_with fail
          refine (HPm.out _).mono ?_
          rintro e wz ⟨rfl, hw⟩
          obtain rfl := hw.symm
          clear hw
          go_wp2
          go_roundg (gk - 1)
          case measure => omega
          case rel => exact ⟨j + 1, by omega, by go_num, Vw.to ⟨pa, pb, da, db, _, ob, _, XB, G7.out.o1.o2⟩ HKp.out (by omega)⟩
        · obtain ⟨m7, hm7⟩ : ∃ m7, dd % 7 = m7 := ⟨_, rfl⟩
          have HPm := hide (HPk.out m7 hm7)
          have hm5 : (m7 == 5) = false := by simp; omega
          have hm5' : decide (m7 = 5) = false := by simp; omega
          have hm6 : (m7 == 6) = false := by simp; omega
          have hm6' : decide (m7 = 6) = false := by simp; omega
          clear HPk hd hd' hm7
          refine wp_region_held_drew (S := (fun W => (W.cell? ⟨RX, k, none⟩ = some (.pointer pa) ∧ W.cell? ⟨RY, k, none⟩ = some (.pointer (some ⟨da, 0, none⟩))) ∧ (W.cell? ⟨OB, 0, none⟩ = some (.int .i64 dd) ∧ W.cell? ⟨OB, 1, none⟩ = some (.int .i64 nn) ∧ W.cell? ⟨OB, 2, none⟩ = some (.int .i64 rk) ∧ W.cell? ⟨OB, 3, none⟩ = some (.int .u32 ri) ∧ W.cell? ⟨OB, 4, none⟩ = some (.int .i64 rs) ∧ W.cell? ⟨OB, 5, none⟩ = some (.int .i64 ru) ∧ W.cell? ⟨OB, 6, none⟩ = some (.int .i64 rc) ∧ W.cell? ⟨OB, 7, none⟩ = some (.int .u32 (id : Int)) ∧ W.cell? ⟨OB, 8, none⟩ = some (.int .i64 seat)) ∧ W.cell? ⟨da, 0, none⟩ = some (.bool false))) (by kernel_rfl) ?_ (fun hHeld => ?_)
          · (exact hK21)
          refine tkQ 0 (oi := ⟨some 119, .move (.tmp 15), 42, "law.go:110", #[], none⟩) rfl ?_
          try simp only [Act.put, pA, pB, pC]
          refine tkQ 1 (oi := ⟨some 120, .move (.tmp 19), 3, "law.go:110", #[], none⟩) rfl ?_
          try simp only [Act.put, pA, pB, pC]
          refine tkQ 2 (oi := ⟨some 121, .indexAddr 42 (.tmp 119) (.tmp 120), 0, "law.go:110", #[⟨0, .data⟩, ⟨1, .data⟩], none⟩) rfl ?_
          try simp only [Act.put, pA, pB, pC]
          refine tkQ 3 (oi := ⟨some 122, .load 31 (.tmp 121), 31, "law.go:110", #[⟨2, .data⟩], none⟩) rfl ?_
          try simp only [Act.put, pA, pB, pC]
          refine tkQ 4 (oi := ⟨some 123, .move (.tmp 16), 43, "law.go:110", #[], none⟩) rfl ?_
          try simp only [Act.put, pA, pB, pC]
          refine tkQ 5 (oi := ⟨some 124, .move (.tmp 19), 3, "law.go:110", #[], none⟩) rfl ?_
          try simp only [Act.put, pA, pB, pC]
          refine tkQ 6 (oi := ⟨some 125, .indexAddr 43 (.tmp 123) (.tmp 124), 0, "law.go:110", #[⟨4, .data⟩, ⟨5, .data⟩], none⟩) rfl ?_
          try simp only [Act.put, pA, pB, pC]
          refine tkQ 7 (oi := ⟨some 126, .load 38 (.tmp 125), 38, "law.go:110", #[⟨6, .data⟩], none⟩) rfl ?_
          try simp only [Act.put, pA, pB, pC]
          refine tkQ 8 (oi := ⟨some 127, .load 48 (.tmp 18), 48, "law.go:110", #[], none⟩) rfl ?_
          try simp only [Act.put, pA, pB, pC]
          refine rdH (i := 9) rfl (fun K hK => ?_)
          go_simp
          refine (HOne.out _ G21).mono ?_
          rintro e w5 ⟨rfl, XA5, G5⟩
          have hK5 := HKc.out _ _ _ G5
          go_wp2_with fail
          refine hK.out _ _ ?_ (fun hHeld => ?_)
          · ((try dsimp only); first | with_reducible assumption | exact hK5)
          clear hK K
          try simp only [Act.put, pA, pB, pC]
          refine tkQ 10 (oi := ⟨some 129, .unOp .not 4 (.tmp 128), 4, "law.go:110", #[⟨9, .data⟩], none⟩) rfl ?_
          try simp only [Act.put, pA, pB, pC]
          refine tkQ 11 (oi := ⟨some 130, .move (.tmp 129), 4, "law.go:110", #[⟨10, .data⟩, ⟨9, .chain⟩], none⟩) rfl ?_
          try simp only [Act.put, pA, pB, pC]
          refine tkQ 12 (oi := ⟨some 131, .move (.tmp 16), 43, "law.go:110", #[⟨11, .guard⟩], some (11, false)⟩) rfl ?_
          try simp only [Act.put, pA, pB, pC]
          refine tkQ 13 (oi := ⟨some 132, .move (.tmp 19), 3, "law.go:110", #[⟨11, .guard⟩], some (11, false)⟩) rfl ?_
          try simp only [Act.put, pA, pB, pC]
          refine tkQ 14 (oi := ⟨some 133, .indexAddr 43 (.tmp 131) (.tmp 132), 0, "law.go:110", #[⟨12, .data⟩, ⟨13, .data⟩, ⟨11, .guard⟩], some (11, false)⟩) rfl ?_
          try simp only [Act.put, pA, pB, pC]
          refine tkQ 15 (oi := ⟨some 134, .load 38 (.tmp 133), 38, "law.go:110", #[⟨14, .data⟩, ⟨11, .guard⟩], some (11, false)⟩) rfl ?_
          try simp only [Act.put, pA, pB, pC]
          refine tkQ 16 (oi := ⟨some 135, .nilCheck (.tmp 134), 0, "law.go:110", #[⟨15, .data⟩, ⟨11, .guard⟩], some (11, false)⟩) rfl ?_
          try simp only [Act.put, pA, pB, pC]
          refine tkQ 17 (oi := ⟨some 136, .fieldAddr 52 (.tmp 135) 0, 0, "law.go:110", #[⟨16, .data⟩, ⟨11, .guard⟩], some (11, false)⟩) rfl ?_
          try simp only [Act.put, pA, pB, pC]
          refine tkQ 18 (oi := ⟨some 137, .load 4 (.tmp 136), 4, "law.go:110", #[⟨17, .data⟩, ⟨11, .guard⟩], some (11, false)⟩) rfl ?_
          try simp only [Act.put, pA, pB, pC]
          refine tkQ 19 (oi := ⟨some 138, .move (.tmp 137), 4, "law.go:110", #[⟨18, .data⟩, ⟨11, .chain⟩, ⟨11, .guard⟩], some (11, false)⟩) rfl ?_
          try simp only [Act.put, pA, pB, pC]
          refine skH 20 (oi := ⟨some 139, .move (.tmp 16), 43, "law.go:110", #[⟨19, .guard⟩], some (19, true)⟩) rfl ?_
          try simp only [Act.put, pA, pB, pC]
          refine skH 21 (oi := ⟨some 140, .move (.tmp 19), 3, "law.go:110", #[⟨19, .guard⟩], some (19, true)⟩) rfl ?_
          try simp only [Act.put, pA, pB, pC]
          refine skH 22 (oi := ⟨some 141, .indexAddr 43 (.tmp 139) (.tmp 140), 0, "law.go:110", #[⟨20, .data⟩, ⟨21, .data⟩, ⟨19, .guard⟩], some (19, true)⟩) rfl ?_
          try simp only [Act.put, pA, pB, pC]
          refine skH 23 (oi := ⟨some 142, .load 38 (.tmp 141), 38, "law.go:110", #[⟨22, .data⟩, ⟨19, .guard⟩], some (19, true)⟩) rfl ?_
          try simp only [Act.put, pA, pB, pC]
          refine skH 24 (oi := ⟨some 143, .call { callee := .value (.func 19), args := #[.tmp 142], argTypes := #[38] }, 4, "law.go:110", #[⟨23, .data⟩, ⟨19, .chain⟩, ⟨19, .guard⟩], some (19, true)⟩) rfl ?_
          try simp only [Act.put, pA, pB, pC]
          refine skH 25 (oi := ⟨some 144, .unOp .not 4 (.tmp 143), 4, "law.go:110", #[⟨24, .data⟩, ⟨19, .guard⟩], some (19, true)⟩) rfl ?_
          try simp only [Act.put, pA, pB, pC]
          refine tkQ 26 (oi := ⟨some 145, .pick (.tmp 138) (.tmp 144) (.const (.bool false)), 4, "law.go:110", #[⟨19, .data⟩, ⟨25, .data⟩, ⟨11, .guard⟩], some (11, false)⟩) rfl ?_
          try simp only [Act.put, pA, pB, pC]
          refine tkQ 27 (oi := ⟨some 146, .pick (.tmp 130) (.const (.bool true)) (.tmp 145), 4, "law.go:110", #[⟨11, .data⟩, ⟨26, .data⟩], none⟩) rfl ?_
          try simp only [Act.put, pA, pB, pC]
          refine wpAnyH_done (by kernel_rfl) ?_ _
          have GG := hide (G5)
          clear hK21 hK5 G5 hHeld G21 HOne HKb
          go_wp2
          have hz23 : (World.drew w5).cell? ⟨OB, 0, none⟩ = some (.int .i64 dd) := (GG.out.then (grown_drew w5 none)).cell (List.mem_cons_self ..) 0 _ rfl
          refine wp_region_held_drew (S := (fun W => W.cell? ⟨OB, 0, none⟩ = some (.int .i64 dd))) (by kernel_rfl) ?_ (fun hHeld => ?_)
          · (exact hz23)
          refine tkQ 0 (oi := ⟨some 147, .fieldAddr 48 (.tmp 18) 0, 0, "law.go:113", #[], none⟩) rfl ?_
          try simp only [Act.put, pA, pB, pC]
          refine tkQ 1 (oi := ⟨some 148, .load 3 (.tmp 147), 3, "law.go:113", #[⟨0, .data⟩], none⟩) rfl ?_
          try simp only [Act.put, pA, pB, pC]
          refine rdH (i := 2) rfl (fun K hK => ?_)
          go_simp
          refine (HPm.out _).mono ?_
          rintro e wz ⟨rfl, rfl⟩
          go_wp2_with fail
          refine hK.out _ _ ?_ (fun hHeld => ?_)
          · ((try dsimp only); with_reducible assumption)
          clear hK K
          try simp only [Act.put, pA, pB, pC]
          refine tkQ 3 (oi := ⟨some 150, .binOp .eql 3 (.tmp 149) (.const (.int .i64 5)) 3, 4, "law.go:113", #[⟨2, .data⟩], none⟩) rfl ?_
          try simp only [Act.put, pA, pB, pC]
          refine tkQ 4 (oi := ⟨some 151, .move (.tmp 150), 4, "law.go:113", #[⟨3, .data⟩, ⟨2, .chain⟩], none⟩) rfl ?_
          try simp only [Act.put, pA, pB, pC]
          refine skH 5 (oi := ⟨some 152, .move (.tmp 15), 42, "law.go:113", #[⟨4, .guard⟩], some (4, true)⟩) rfl ?_
          try simp only [Act.put, pA, pB, pC]
          refine skH 6 (oi := ⟨some 153, .indexAddr 42 (.tmp 152) (.const (.int .i64 0)), 0, "law.go:113", #[⟨5, .data⟩, ⟨4, .guard⟩], some (4, true)⟩) rfl ?_
          try simp only [Act.put, pA, pB, pC]
          refine skH 7 (oi := ⟨some 154, .load 31 (.tmp 153), 31, "law.go:113", #[⟨6, .data⟩, ⟨4, .guard⟩], some (4, true)⟩) rfl ?_
          try simp only [Act.put, pA, pB, pC]
          refine skH 8 (oi := ⟨some 155, .move (.tmp 15), 42, "law.go:113", #[⟨4, .guard⟩], some (4, true)⟩) rfl ?_
          try simp only [Act.put, pA, pB, pC]
          refine skH 9 (oi := ⟨some 156, .indexAddr 42 (.tmp 155) (.const (.int .i64 1)), 0, "law.go:113", #[⟨8, .data⟩, ⟨4, .guard⟩], some (4, true)⟩) rfl ?_
          try simp only [Act.put, pA, pB, pC]
          refine skH 10 (oi := ⟨some 157, .load 31 (.tmp 156), 31, "law.go:113", #[⟨9, .data⟩, ⟨4, .guard⟩], some (4, true)⟩) rfl ?_
          try simp only [Act.put, pA, pB, pC]
          refine skH 11 (oi := ⟨some 158, .call { callee := .value (.func 20), args := #[.tmp 154, .tmp 157], argTypes := #[31, 31] }, 4, "law.go:113", #[⟨7, .data⟩, ⟨10, .data⟩, ⟨4, .chain⟩, ⟨4, .guard⟩], some (4, true)⟩) rfl ?_
          try simp only [Act.put, pA, pB, pC]
          refine skH 12 (oi := ⟨some 159, .move (.tmp 16), 43, "law.go:113", #[⟨4, .guard⟩], some (4, true)⟩) rfl ?_
          try simp only [Act.put, pA, pB, pC]
          refine skH 13 (oi := ⟨some 160, .indexAddr 43 (.tmp 159) (.const (.int .i64 0)), 0, "law.go:113", #[⟨12, .data⟩, ⟨4, .guard⟩], some (4, true)⟩) rfl ?_
          try simp only [Act.put, pA, pB, pC]
          refine skH 14 (oi := ⟨some 161, .load 38 (.tmp 160), 38, "law.go:113", #[⟨13, .data⟩, ⟨4, .guard⟩], some (4, true)⟩) rfl ?_
          try simp only [Act.put, pA, pB, pC]
          refine skH 15 (oi := ⟨some 162, .move (.tmp 16), 43, "law.go:113", #[⟨4, .guard⟩], some (4, true)⟩) rfl ?_
          try simp only [Act.put, pA, pB, pC]
          refine skH 16 (oi := ⟨some 163, .indexAddr 43 (.tmp 162) (.const (.int .i64 1)), 0, "law.go:113", #[⟨15, .data⟩, ⟨4, .guard⟩], some (4, true)⟩) rfl ?_
          try simp only [Act.put, pA, pB, pC]
          refine skH 17 (oi := ⟨some 164, .load 38 (.tmp 163), 38, "law.go:113", #[⟨16, .data⟩, ⟨4, .guard⟩], some (4, true)⟩) rfl ?_
          try simp only [Act.put, pA, pB, pC]
          refine skH 18 (oi := ⟨some 165, .call { callee := .value (.func 21), args := #[.tmp 161, .tmp 164], argTypes := #[38, 38] }, 4, "law.go:113", #[⟨14, .data⟩, ⟨17, .data⟩, ⟨11, .chain⟩, ⟨4, .guard⟩], some (4, true)⟩) rfl ?_
          try simp only [Act.put, pA, pB, pC]
          refine skH 19 (oi := ⟨some 166, .binOp .neq 4 (.tmp 158) (.tmp 165) 4, 4, "law.go:113", #[⟨11, .data⟩, ⟨18, .data⟩, ⟨4, .guard⟩], some (4, true)⟩) rfl ?_
          try simp only [Act.put, pA, pB, pC]
          refine tkQ 20 (oi := ⟨some 167, .pick (.tmp 151) (.tmp 166) (.const (.bool false)), 4, "law.go:113", #[⟨4, .data⟩, ⟨19, .data⟩], none⟩) rfl ?_
          try simp only [Act.put, pA, pB, pC]
          refine wpAnyH_done (by kernel_rfl) ?_ _
          have G7 := hide (GG.out.then (grown_drew w5 none))
          clear hHeld GG
          generalize World.drew w5 = w7 at *
          obtain ⟨⟨r0, r1⟩, -, r2⟩ := HKc.out _ _ _ G7.out
          go_wp2_with fail
          refine (HPm.out _).mono ?_
          rintro e wz ⟨rfl, hw⟩
          obtain rfl := hw.symm
          clear hw
          go_wp2
          go_roundg (gk - 1)
          case measure => omega
          case rel => exact ⟨j + 1, by omega, by go_num, Vw.to ⟨pa, pb, da, db, _, ob, _, XB, G7.out.o1.o2⟩ HKp.out (by omega)⟩
      | some S =>
        have HKb : Hid (∀ W o2 K2 X2, Gs w W pa pb da db A B (some o2) ob K2 X2 XB ((OB, [Value.int .i64 dd, .int .i64 nn, .int .i64 rk, .int .u32 ri, .int .i64 rs, .int .i64 ru, .int .i64 rc, .int .u32 (id : Int), .int .i64 seat], 48) :: rws RX RY k pa pb da db) → (W.cell? ⟨RX, k, none⟩ = some (.pointer pa) ∧ W.cell? ⟨RY, k, none⟩ = some (.pointer (some ⟨da, 0, none⟩))) ∧ (W.cell? ⟨OB, 0, none⟩ = some (.int .i64 dd) ∧ W.cell? ⟨OB, 1, none⟩ = some (.int .i64 nn) ∧ W.cell? ⟨OB, 2, none⟩ = some (.int .i64 rk) ∧ W.cell? ⟨OB, 3, none⟩ = some (.int .u32 ri) ∧ W.cell? ⟨OB, 4, none⟩ = some (.int .i64 rs) ∧ W.cell? ⟨OB, 5, none⟩ = some (.int .i64 ru) ∧ W.cell? ⟨OB, 6, none⟩ = some (.int .i64 rc) ∧ W.cell? ⟨OB, 7, none⟩ = some (.int .u32 (id : Int)) ∧ W.cell? ⟨OB, 8, none⟩ = some (.int .i64 seat)) ∧ W.cell? ⟨da, 0, none⟩ = some (.bool true)) := fun W o2 K2 X2 G => HK21.out W (some o2) K2 X2 G
        have HKc : Hid (∀ W K2 X2, Gs w W pa pb da db A B (some (stp dd S ⟨rk, ri, rs, ru, rc⟩)) ob K2 X2 XB ((OB, [Value.int .i64 dd, .int .i64 nn, .int .i64 rk, .int .u32 ri, .int .i64 rs, .int .i64 ru, .int .i64 rc, .int .u32 (id : Int), .int .i64 seat], 48) :: rws RX RY k pa pb da db) → (W.cell? ⟨RX, k, none⟩ = some (.pointer pa) ∧ W.cell? ⟨RY, k, none⟩ = some (.pointer (some ⟨da, 0, none⟩))) ∧ (W.cell? ⟨OB, 0, none⟩ = some (.int .i64 dd) ∧ W.cell? ⟨OB, 1, none⟩ = some (.int .i64 nn) ∧ W.cell? ⟨OB, 2, none⟩ = some (.int .i64 rk) ∧ W.cell? ⟨OB, 3, none⟩ = some (.int .u32 ri) ∧ W.cell? ⟨OB, 4, none⟩ = some (.int .i64 rs) ∧ W.cell? ⟨OB, 5, none⟩ = some (.int .i64 ru) ∧ W.cell? ⟨OB, 6, none⟩ = some (.int .i64 rc) ∧ W.cell? ⟨OB, 7, none⟩ = some (.int .u32 (id : Int)) ∧ W.cell? ⟨OB, 8, none⟩ = some (.int .i64 seat)) ∧ W.cell? ⟨da, 0, none⟩ = some (.bool true)) := fun W K2 X2 G => HK21.out W (some (stp dd S ⟨rk, ri, rs, ru, rc⟩)) K2 X2 G
        simp only [Option.map_some] at HOne
        clear HK21
        have hK21 := HKb.out _ _ _ _ G21
        rcases (show dd % 7 = 5 ∨ dd % 7 = 6 ∨ (dd % 7 ≠ 5 ∧ dd % 7 ≠ 6) by omega) with hd | hd | ⟨hd, hd'⟩
        · have HPm := hide (HPk.out 5 hd)
          clear HPk hd
          refine wp_region_held_drew (S := (fun W => (W.cell? ⟨RX, k, none⟩ = some (.pointer pa) ∧ W.cell? ⟨RY, k, none⟩ = some (.pointer (some ⟨da, 0, none⟩))) ∧ (W.cell? ⟨OB, 0, none⟩ = some (.int .i64 dd) ∧ W.cell? ⟨OB, 1, none⟩ = some (.int .i64 nn) ∧ W.cell? ⟨OB, 2, none⟩ = some (.int .i64 rk) ∧ W.cell? ⟨OB, 3, none⟩ = some (.int .u32 ri) ∧ W.cell? ⟨OB, 4, none⟩ = some (.int .i64 rs) ∧ W.cell? ⟨OB, 5, none⟩ = some (.int .i64 ru) ∧ W.cell? ⟨OB, 6, none⟩ = some (.int .i64 rc) ∧ W.cell? ⟨OB, 7, none⟩ = some (.int .u32 (id : Int)) ∧ W.cell? ⟨OB, 8, none⟩ = some (.int .i64 seat)) ∧ W.cell? ⟨da, 0, none⟩ = some (.bool true))) (by kernel_rfl) ?_ (fun hHeld => ?_)
          · (exact hK21)
          refine tkQ 0 (oi := ⟨some 119, .move (.tmp 15), 42, "law.go:110", #[], none⟩) rfl ?_
          try simp only [Act.put, pA, pB, pC]
          refine tkQ 1 (oi := ⟨some 120, .move (.tmp 19), 3, "law.go:110", #[], none⟩) rfl ?_
          try simp only [Act.put, pA, pB, pC]
          refine tkQ 2 (oi := ⟨some 121, .indexAddr 42 (.tmp 119) (.tmp 120), 0, "law.go:110", #[⟨0, .data⟩, ⟨1, .data⟩], none⟩) rfl ?_
          try simp only [Act.put, pA, pB, pC]
          refine tkQ 3 (oi := ⟨some 122, .load 31 (.tmp 121), 31, "law.go:110", #[⟨2, .data⟩], none⟩) rfl ?_
          try simp only [Act.put, pA, pB, pC]
          refine tkQ 4 (oi := ⟨some 123, .move (.tmp 16), 43, "law.go:110", #[], none⟩) rfl ?_
          try simp only [Act.put, pA, pB, pC]
          refine tkQ 5 (oi := ⟨some 124, .move (.tmp 19), 3, "law.go:110", #[], none⟩) rfl ?_
          try simp only [Act.put, pA, pB, pC]
          refine tkQ 6 (oi := ⟨some 125, .indexAddr 43 (.tmp 123) (.tmp 124), 0, "law.go:110", #[⟨4, .data⟩, ⟨5, .data⟩], none⟩) rfl ?_
          try simp only [Act.put, pA, pB, pC]
          refine tkQ 7 (oi := ⟨some 126, .load 38 (.tmp 125), 38, "law.go:110", #[⟨6, .data⟩], none⟩) rfl ?_
          try simp only [Act.put, pA, pB, pC]
          refine tkQ 8 (oi := ⟨some 127, .load 48 (.tmp 18), 48, "law.go:110", #[], none⟩) rfl ?_
          try simp only [Act.put, pA, pB, pC]
          refine rdH (i := 9) rfl (fun K hK => ?_)
          go_simp
          refine (HOne.out _ G21).mono ?_
          rintro e w5 ⟨rfl, XA5, G5⟩
          have hK5 := HKc.out _ _ _ G5
          go_wp2_with fail
          refine hK.out _ _ ?_ (fun hHeld => ?_)
          · ((try dsimp only); first | with_reducible assumption | exact hK5 | exact hK6)
          clear hK K
          try simp only [Act.put, pA, pB, pC]
          refine tkQ 10 (oi := ⟨some 129, .unOp .not 4 (.tmp 128), 4, "law.go:110", #[⟨9, .data⟩], none⟩) rfl ?_
          try simp only [Act.put, pA, pB, pC]
          refine tkQ 11 (oi := ⟨some 130, .move (.tmp 129), 4, "law.go:110", #[⟨10, .data⟩, ⟨9, .chain⟩], none⟩) rfl ?_
          try simp only [Act.put, pA, pB, pC]
          refine tkQ 12 (oi := ⟨some 131, .move (.tmp 16), 43, "law.go:110", #[⟨11, .guard⟩], some (11, false)⟩) rfl ?_
          try simp only [Act.put, pA, pB, pC]
          refine tkQ 13 (oi := ⟨some 132, .move (.tmp 19), 3, "law.go:110", #[⟨11, .guard⟩], some (11, false)⟩) rfl ?_
          try simp only [Act.put, pA, pB, pC]
          refine tkQ 14 (oi := ⟨some 133, .indexAddr 43 (.tmp 131) (.tmp 132), 0, "law.go:110", #[⟨12, .data⟩, ⟨13, .data⟩, ⟨11, .guard⟩], some (11, false)⟩) rfl ?_
          try simp only [Act.put, pA, pB, pC]
          refine tkQ 15 (oi := ⟨some 134, .load 38 (.tmp 133), 38, "law.go:110", #[⟨14, .data⟩, ⟨11, .guard⟩], some (11, false)⟩) rfl ?_
          try simp only [Act.put, pA, pB, pC]
          refine tkQ 16 (oi := ⟨some 135, .nilCheck (.tmp 134), 0, "law.go:110", #[⟨15, .data⟩, ⟨11, .guard⟩], some (11, false)⟩) rfl ?_
          try simp only [Act.put, pA, pB, pC]
          refine tkQ 17 (oi := ⟨some 136, .fieldAddr 52 (.tmp 135) 0, 0, "law.go:110", #[⟨16, .data⟩, ⟨11, .guard⟩], some (11, false)⟩) rfl ?_
          try simp only [Act.put, pA, pB, pC]
          refine tkQ 18 (oi := ⟨some 137, .load 4 (.tmp 136), 4, "law.go:110", #[⟨17, .data⟩, ⟨11, .guard⟩], some (11, false)⟩) rfl ?_
          try simp only [Act.put, pA, pB, pC]
          refine tkQ 19 (oi := ⟨some 138, .move (.tmp 137), 4, "law.go:110", #[⟨18, .data⟩, ⟨11, .chain⟩, ⟨11, .guard⟩], some (11, false)⟩) rfl ?_
          try simp only [Act.put, pA, pB, pC]
          refine tkQ 20 (oi := ⟨some 139, .move (.tmp 16), 43, "law.go:110", #[⟨19, .guard⟩], some (19, true)⟩) rfl ?_
          try simp only [Act.put, pA, pB, pC]
          refine tkQ 21 (oi := ⟨some 140, .move (.tmp 19), 3, "law.go:110", #[⟨19, .guard⟩], some (19, true)⟩) rfl ?_
          try simp only [Act.put, pA, pB, pC]
          refine tkQ 22 (oi := ⟨some 141, .indexAddr 43 (.tmp 139) (.tmp 140), 0, "law.go:110", #[⟨20, .data⟩, ⟨21, .data⟩, ⟨19, .guard⟩], some (19, true)⟩) rfl ?_
          try simp only [Act.put, pA, pB, pC]
          refine tkQ 23 (oi := ⟨some 142, .load 38 (.tmp 141), 38, "law.go:110", #[⟨22, .data⟩, ⟨19, .guard⟩], some (19, true)⟩) rfl ?_
          try simp only [Act.put, pA, pB, pC]
          refine rdH (i := 24) rfl (fun K hK => ?_)
          go_simp
          refine (G5.sa.may).mono ?_
          rintro e w6 ⟨rfl, g6⟩
          have G6 := G5.then g6
          have hK6 := HKc.out _ _ _ G6
          go_wp2_with fail
          refine hK.out _ _ ?_ (fun hHeld => ?_)
          · ((try dsimp only); first | with_reducible assumption | exact hK5 | exact hK6)
          clear hK K
          try simp only [Act.put, pA, pB, pC]
          refine tkQ 25 (oi := ⟨some 144, .unOp .not 4 (.tmp 143), 4, "law.go:110", #[⟨24, .data⟩, ⟨19, .guard⟩], some (19, true)⟩) rfl ?_
          try simp only [Act.put, pA, pB, pC]
          refine tkQ 26 (oi := ⟨some 145, .pick (.tmp 138) (.tmp 144) (.const (.bool false)), 4, "law.go:110", #[⟨19, .data⟩, ⟨25, .data⟩, ⟨11, .guard⟩], some (11, false)⟩) rfl ?_
          try simp only [Act.put, pA, pB, pC]
          refine tkQ 27 (oi := ⟨some 146, .pick (.tmp 130) (.const (.bool true)) (.tmp 145), 4, "law.go:110", #[⟨11, .data⟩, ⟨26, .data⟩], none⟩) rfl ?_
          try simp only [Act.put, pA, pB, pC]
          refine wpAnyH_done (by kernel_rfl) ?_ _
          have GG := hide (G6)
          clear hK21 hK5 hK6 g6 G6 G5 hHeld G21 HOne HKb
          go_wp2
          have HV : Vw w (World.drew w6) A B (4096 + j + 1) RX RY k [((OB, [Value.int .i64 dd, .int .i64 nn, .int .i64 rk, .int .u32 ri, .int .i64 rs, .int .i64 ru, .int .i64 rc, .int .u32 (id : Int), .int .i64 seat], 48) : Nat × List Value × TypeId)] := ⟨pa, pb, da, db, _, ob, _, XB, (GG.out.then (grown_drew w6 none)).o1⟩
          obtain ⟨p0, p1, d0, d1, o0, o1, X0, X1, G0⟩ := HV.to HKp.out (l := 0) (by omega)
          have HK0 : Hid (∀ W, Gs w W p0 p1 d0 d1 A B o0 o1 (4096 + j + 1) X0 X1 (rws RX RY 0 p0 p1 d0 d1 ++ [((OB, [Value.int .i64 dd, .int .i64 nn, .int .i64 rk, .int .u32 ri, .int .i64 rs, .int .i64 ru, .int .i64 rc, .int .u32 (id : Int), .int .i64 seat], 48) : Nat × List Value × TypeId)]) → W.cell? ⟨OB, 0, none⟩ = some (.int .i64 dd) ∧ (W.cell? ⟨RX, 0, none⟩ = some (.pointer p0) ∧ W.cell? ⟨RX, 1, none⟩ = some (.pointer p1)) ∧ (W.cell? ⟨RY, 0, none⟩ = some (.pointer (some ⟨d0, 0, none⟩)) ∧ W.cell? ⟨RY, 1, none⟩ = some (.pointer (some ⟨d1, 0, none⟩)))) := fun W G => ⟨G.cell (List.mem_cons_of_mem _ (List.mem_cons_of_mem _ (List.mem_cons_self ..))) 0 _ rfl, ⟨G.cell (List.mem_cons_self ..) 0 _ rfl, G.cell (List.mem_cons_self ..) 1 _ rfl⟩, G.cell (List.mem_cons_of_mem _ (List.mem_cons_self ..)) 0 _ rfl, G.cell (List.mem_cons_of_mem _ (List.mem_cons_self ..)) 1 _ rfl⟩
          have HSm : Hid (∀ W, Gs w W p0 p1 d0 d1 A B o0 o1 (4096 + j + 1) X0 X1 (rws RX RY 0 p0 p1 d0 d1 ++ [((OB, [Value.int .i64 dd, .int .i64 nn, .int .i64 rk, .int .u32 ri, .int .i64 rs, .int .i64 ru, .int .i64 rc, .int .u32 (id : Int), .int .i64 seat], 48) : Nat × List Value × TypeId)]) → Calls Tryz.prog 20 #[.pointer p0, .pointer p1] W fun e w' => e = .returned (.bool (sameO o0 o1)) ∧ W.grownBy w' none) := fun W G => G.sa.same G.sb
          have HDs : Hid (∀ W, Gs w W p0 p1 d0 d1 A B o0 o1 (4096 + j + 1) X0 X1 (rws RX RY 0 p0 p1 d0 d1 ++ [((OB, [Value.int .i64 dd, .int .i64 nn, .int .i64 rk, .int .u32 ri, .int .i64 rs, .int .i64 ru, .int .i64 rc, .int .u32 (id : Int), .int .i64 seat], 48) : Nat × List Value × TypeId)]) → Calls Tryz.prog 21 #[.pointer (some ⟨d0, 0, none⟩), .pointer (some ⟨d1, 0, none⟩)] W fun e w' => e = .returned (.bool (sameO o0 o1)) ∧ W.grownBy w' none) := fun W G => G.sa.dsame G.sb
          have hK0 := HK0.out _ G0
          clear HV GG HKc
          generalize sameO o0 o1 = sm at *
          refine wp_region_held_drew (S := (fun W => W.cell? ⟨OB, 0, none⟩ = some (.int .i64 dd) ∧ (W.cell? ⟨RX, 0, none⟩ = some (.pointer p0) ∧ W.cell? ⟨RX, 1, none⟩ = some (.pointer p1)) ∧ (W.cell? ⟨RY, 0, none⟩ = some (.pointer (some ⟨d0, 0, none⟩)) ∧ W.cell? ⟨RY, 1, none⟩ = some (.pointer (some ⟨d1, 0, none⟩))))) (by kernel_rfl) ?_ (fun hHeld => ?_)
          · (exact hK0)
          refine tkQ 0 (oi := ⟨some 147, .fieldAddr 48 (.tmp 18) 0, 0, "law.go:113", #[], none⟩) rfl ?_
          try simp only [Act.put, pA, pB, pC]
          refine tkQ 1 (oi := ⟨some 148, .load 3 (.tmp 147), 3, "law.go:113", #[⟨0, .data⟩], none⟩) rfl ?_
          try simp only [Act.put, pA, pB, pC]
          refine rdH (i := 2) rfl (fun K hK => ?_)
          go_simp
          refine (HPm.out _).mono ?_
          rintro e wz ⟨rfl, rfl⟩
          go_wp2_with fail
          refine hK.out _ _ ?_ (fun hHeld => ?_)
          · ((try dsimp only); first | with_reducible assumption | exact hK8 | exact hK9)
          clear hK K
          try simp only [Act.put, pA, pB, pC]
          refine tkQ 3 (oi := ⟨some 150, .binOp .eql 3 (.tmp 149) (.const (.int .i64 5)) 3, 4, "law.go:113", #[⟨2, .data⟩], none⟩) rfl ?_
          try simp only [Act.put, pA, pB, pC]
          refine tkQ 4 (oi := ⟨some 151, .move (.tmp 150), 4, "law.go:113", #[⟨3, .data⟩, ⟨2, .chain⟩], none⟩) rfl ?_
          try simp only [Act.put, pA, pB, pC]
          refine tkQ 5 (oi := ⟨some 152, .move (.tmp 15), 42, "law.go:113", #[⟨4, .guard⟩], some (4, true)⟩) rfl ?_
          try simp only [Act.put, pA, pB, pC]
          refine tkQ 6 (oi := ⟨some 153, .indexAddr 42 (.tmp 152) (.const (.int .i64 0)), 0, "law.go:113", #[⟨5, .data⟩, ⟨4, .guard⟩], some (4, true)⟩) rfl ?_
          try simp only [Act.put, pA, pB, pC]
          refine tkQ 7 (oi := ⟨some 154, .load 31 (.tmp 153), 31, "law.go:113", #[⟨6, .data⟩, ⟨4, .guard⟩], some (4, true)⟩) rfl ?_
          try simp only [Act.put, pA, pB, pC]
          refine tkQ 8 (oi := ⟨some 155, .move (.tmp 15), 42, "law.go:113", #[⟨4, .guard⟩], some (4, true)⟩) rfl ?_
          try simp only [Act.put, pA, pB, pC]
          refine tkQ 9 (oi := ⟨some 156, .indexAddr 42 (.tmp 155) (.const (.int .i64 1)), 0, "law.go:113", #[⟨8, .data⟩, ⟨4, .guard⟩], some (4, true)⟩) rfl ?_
          try simp only [Act.put, pA, pB, pC]
          refine tkQ 10 (oi := ⟨some 157, .load 31 (.tmp 156), 31, "law.go:113", #[⟨9, .data⟩, ⟨4, .guard⟩], some (4, true)⟩) rfl ?_
          try simp only [Act.put, pA, pB, pC]
          refine tkQ 12 (oi := ⟨some 159, .move (.tmp 16), 43, "law.go:113", #[⟨4, .guard⟩], some (4, true)⟩) rfl ?_
          try simp only [Act.put, pA, pB, pC]
          refine tkQ 13 (oi := ⟨some 160, .indexAddr 43 (.tmp 159) (.const (.int .i64 0)), 0, "law.go:113", #[⟨12, .data⟩, ⟨4, .guard⟩], some (4, true)⟩) rfl ?_
          try simp only [Act.put, pA, pB, pC]
          refine tkQ 14 (oi := ⟨some 161, .load 38 (.tmp 160), 38, "law.go:113", #[⟨13, .data⟩, ⟨4, .guard⟩], some (4, true)⟩) rfl ?_
          try simp only [Act.put, pA, pB, pC]
          refine tkQ 15 (oi := ⟨some 162, .move (.tmp 16), 43, "law.go:113", #[⟨4, .guard⟩], some (4, true)⟩) rfl ?_
          try simp only [Act.put, pA, pB, pC]
          refine tkQ 16 (oi := ⟨some 163, .indexAddr 43 (.tmp 162) (.const (.int .i64 1)), 0, "law.go:113", #[⟨15, .data⟩, ⟨4, .guard⟩], some (4, true)⟩) rfl ?_
          try simp only [Act.put, pA, pB, pC]
          refine tkQ 17 (oi := ⟨some 164, .load 38 (.tmp 163), 38, "law.go:113", #[⟨16, .data⟩, ⟨4, .guard⟩], some (4, true)⟩) rfl ?_
          try simp only [Act.put, pA, pB, pC]
          refine rdH (i := 11) rfl (fun K hK => ?_)
          go_simp
          refine (HSm.out _ G0).mono ?_
          rintro e w8 ⟨rfl, g8⟩
          have G8 := G0.then g8
          have hK8 := HK0.out _ G8
          go_wp2_with fail
          refine hK.out _ _ ?_ (fun hHeld => ?_)
          · ((try dsimp only); first | with_reducible assumption | exact hK8 | exact hK9)
          clear hK K
          try simp only [Act.put, pA, pB, pC]
          refine rdH (i := 18) rfl (fun K hK => ?_)
          go_simp
          refine (HDs.out _ G8).mono ?_
          rintro e w9 ⟨rfl, g9⟩
          have G9 := G8.then g9
          have hK9 := HK0.out _ G9
          go_wp2_with fail
          refine hK.out _ _ ?_ (fun hHeld => ?_)
          · ((try dsimp only); first | with_reducible assumption | exact hK8 | exact hK9)
          clear hK K
          try simp only [Act.put, pA, pB, pC]
          refine tkQ 19 (oi := ⟨some 166, .binOp .neq 4 (.tmp 158) (.tmp 165) 4, 4, "law.go:113", #[⟨11, .data⟩, ⟨18, .data⟩, ⟨4, .guard⟩], some (4, true)⟩) rfl ?_
          try simp only [Act.put, pA, pB, pC]
          refine tkQ 20 (oi := ⟨some 167, .pick (.tmp 151) (.tmp 166) (.const (.bool false)), 4, "law.go:113", #[⟨4, .data⟩, ⟨19, .data⟩], none⟩) rfl ?_
          try simp only [Act.put, pA, pB, pC]
          refine wpAnyH_done (by kernel_rfl) ?_ _
          have GZ := hide G9
          clear hHeld hK0 hK8 hK9 HK0 HSm HDs G0 G8 G9 g8 g9
          have z0 : w9.cell? ⟨OB, 0, none⟩ = some (.int .i64 dd) := GZ.out.cell (List.mem_cons_of_mem _ (List.mem_cons_of_mem _ (List.mem_cons_self ..))) 0 _ rfl
          go_wp2_with fail
          refine (HPm.out _).mono ?_
          rintro e wz ⟨rfl, rfl⟩
          go_wp2
          go_roundg (gk - 1)
          case measure => omega
          case rel => exact ⟨j + 1, by omega, by go_num, p0, p1, d0, d1, o0, o1, X0, X1, GZ.out.o2⟩
        · have HPm := hide (HPk.out 6 hd)
          clear HPk hd
          refine wp_region_held_drew (S := (fun W => (W.cell? ⟨RX, k, none⟩ = some (.pointer pa) ∧ W.cell? ⟨RY, k, none⟩ = some (.pointer (some ⟨da, 0, none⟩))) ∧ (W.cell? ⟨OB, 0, none⟩ = some (.int .i64 dd) ∧ W.cell? ⟨OB, 1, none⟩ = some (.int .i64 nn) ∧ W.cell? ⟨OB, 2, none⟩ = some (.int .i64 rk) ∧ W.cell? ⟨OB, 3, none⟩ = some (.int .u32 ri) ∧ W.cell? ⟨OB, 4, none⟩ = some (.int .i64 rs) ∧ W.cell? ⟨OB, 5, none⟩ = some (.int .i64 ru) ∧ W.cell? ⟨OB, 6, none⟩ = some (.int .i64 rc) ∧ W.cell? ⟨OB, 7, none⟩ = some (.int .u32 (id : Int)) ∧ W.cell? ⟨OB, 8, none⟩ = some (.int .i64 seat)) ∧ W.cell? ⟨da, 0, none⟩ = some (.bool true))) (by kernel_rfl) ?_ (fun hHeld => ?_)
          · (exact hK21)
          refine tkQ 0 (oi := ⟨some 119, .move (.tmp 15), 42, "law.go:110", #[], none⟩) rfl ?_
          try simp only [Act.put, pA, pB, pC]
          refine tkQ 1 (oi := ⟨some 120, .move (.tmp 19), 3, "law.go:110", #[], none⟩) rfl ?_
          try simp only [Act.put, pA, pB, pC]
          refine tkQ 2 (oi := ⟨some 121, .indexAddr 42 (.tmp 119) (.tmp 120), 0, "law.go:110", #[⟨0, .data⟩, ⟨1, .data⟩], none⟩) rfl ?_
          try simp only [Act.put, pA, pB, pC]
          refine tkQ 3 (oi := ⟨some 122, .load 31 (.tmp 121), 31, "law.go:110", #[⟨2, .data⟩], none⟩) rfl ?_
          try simp only [Act.put, pA, pB, pC]
          refine tkQ 4 (oi := ⟨some 123, .move (.tmp 16), 43, "law.go:110", #[], none⟩) rfl ?_
          try simp only [Act.put, pA, pB, pC]
          refine tkQ 5 (oi := ⟨some 124, .move (.tmp 19), 3, "law.go:110", #[], none⟩) rfl ?_
          try simp only [Act.put, pA, pB, pC]
          refine tkQ 6 (oi := ⟨some 125, .indexAddr 43 (.tmp 123) (.tmp 124), 0, "law.go:110", #[⟨4, .data⟩, ⟨5, .data⟩], none⟩) rfl ?_
          try simp only [Act.put, pA, pB, pC]
          refine tkQ 7 (oi := ⟨some 126, .load 38 (.tmp 125), 38, "law.go:110", #[⟨6, .data⟩], none⟩) rfl ?_
          try simp only [Act.put, pA, pB, pC]
          refine tkQ 8 (oi := ⟨some 127, .load 48 (.tmp 18), 48, "law.go:110", #[], none⟩) rfl ?_
          try simp only [Act.put, pA, pB, pC]
          refine rdH (i := 9) rfl (fun K hK => ?_)
          go_simp
          refine (HOne.out _ G21).mono ?_
          rintro e w5 ⟨rfl, XA5, G5⟩
          have hK5 := HKc.out _ _ _ G5
          go_wp2_with fail
          refine hK.out _ _ ?_ (fun hHeld => ?_)
          · ((try dsimp only); first | with_reducible assumption | exact hK5 | exact hK6)
          clear hK K
          try simp only [Act.put, pA, pB, pC]
          refine tkQ 10 (oi := ⟨some 129, .unOp .not 4 (.tmp 128), 4, "law.go:110", #[⟨9, .data⟩], none⟩) rfl ?_
          try simp only [Act.put, pA, pB, pC]
          refine tkQ 11 (oi := ⟨some 130, .move (.tmp 129), 4, "law.go:110", #[⟨10, .data⟩, ⟨9, .chain⟩], none⟩) rfl ?_
          try simp only [Act.put, pA, pB, pC]
          refine tkQ 12 (oi := ⟨some 131, .move (.tmp 16), 43, "law.go:110", #[⟨11, .guard⟩], some (11, false)⟩) rfl ?_
          try simp only [Act.put, pA, pB, pC]
          refine tkQ 13 (oi := ⟨some 132, .move (.tmp 19), 3, "law.go:110", #[⟨11, .guard⟩], some (11, false)⟩) rfl ?_
          try simp only [Act.put, pA, pB, pC]
          refine tkQ 14 (oi := ⟨some 133, .indexAddr 43 (.tmp 131) (.tmp 132), 0, "law.go:110", #[⟨12, .data⟩, ⟨13, .data⟩, ⟨11, .guard⟩], some (11, false)⟩) rfl ?_
          try simp only [Act.put, pA, pB, pC]
          refine tkQ 15 (oi := ⟨some 134, .load 38 (.tmp 133), 38, "law.go:110", #[⟨14, .data⟩, ⟨11, .guard⟩], some (11, false)⟩) rfl ?_
          try simp only [Act.put, pA, pB, pC]
          refine tkQ 16 (oi := ⟨some 135, .nilCheck (.tmp 134), 0, "law.go:110", #[⟨15, .data⟩, ⟨11, .guard⟩], some (11, false)⟩) rfl ?_
          try simp only [Act.put, pA, pB, pC]
          refine tkQ 17 (oi := ⟨some 136, .fieldAddr 52 (.tmp 135) 0, 0, "law.go:110", #[⟨16, .data⟩, ⟨11, .guard⟩], some (11, false)⟩) rfl ?_
          try simp only [Act.put, pA, pB, pC]
          refine tkQ 18 (oi := ⟨some 137, .load 4 (.tmp 136), 4, "law.go:110", #[⟨17, .data⟩, ⟨11, .guard⟩], some (11, false)⟩) rfl ?_
          try simp only [Act.put, pA, pB, pC]
          refine tkQ 19 (oi := ⟨some 138, .move (.tmp 137), 4, "law.go:110", #[⟨18, .data⟩, ⟨11, .chain⟩, ⟨11, .guard⟩], some (11, false)⟩) rfl ?_
          try simp only [Act.put, pA, pB, pC]
          refine tkQ 20 (oi := ⟨some 139, .move (.tmp 16), 43, "law.go:110", #[⟨19, .guard⟩], some (19, true)⟩) rfl ?_
          try simp only [Act.put, pA, pB, pC]
          refine tkQ 21 (oi := ⟨some 140, .move (.tmp 19), 3, "law.go:110", #[⟨19, .guard⟩], some (19, true)⟩) rfl ?_
          try simp only [Act.put, pA, pB, pC]
          refine tkQ 22 (oi := ⟨some 141, .indexAddr 43 (.tmp 139) (.tmp 140), 0, "law.go:110", #[⟨20, .data⟩, ⟨21, .data⟩, ⟨19, .guard⟩], some (19, true)⟩) rfl ?_
          try simp only [Act.put, pA, pB, pC]
          refine tkQ 23 (oi := ⟨some 142, .load 38 (.tmp 141), 38, "law.go:110", #[⟨22, .data⟩, ⟨19, .guard⟩], some (19, true)⟩) rfl ?_
          try simp only [Act.put, pA, pB, pC]
          refine rdH (i := 24) rfl (fun K hK => ?_)
          go_simp
          refine (G5.sa.may).mono ?_
          rintro e w6 ⟨rfl, g6⟩
          have G6 := G5.then g6
          have hK6 := HKc.out _ _ _ G6
          go_wp2_with fail
          refine hK.out _ _ ?_ (fun hHeld => ?_)
          · ((try dsimp only); first | with_reducible assumption | exact hK5 | exact hK6)
          clear hK K
          try simp only [Act.put, pA, pB, pC]
          refine tkQ 25 (oi := ⟨some 144, .unOp .not 4 (.tmp 143), 4, "law.go:110", #[⟨24, .data⟩, ⟨19, .guard⟩], some (19, true)⟩) rfl ?_
          try simp only [Act.put, pA, pB, pC]
          refine tkQ 26 (oi := ⟨some 145, .pick (.tmp 138) (.tmp 144) (.const (.bool false)), 4, "law.go:110", #[⟨19, .data⟩, ⟨25, .data⟩, ⟨11, .guard⟩], some (11, false)⟩) rfl ?_
          try simp only [Act.put, pA, pB, pC]
          refine tkQ 27 (oi := ⟨some 146, .pick (.tmp 130) (.const (.bool true)) (.tmp 145), 4, "law.go:110", #[⟨11, .data⟩, ⟨26, .data⟩], none⟩) rfl ?_
          try simp only [Act.put, pA, pB, pC]
          refine wpAnyH_done (by kernel_rfl) ?_ _
          have GG := hide (G6)
          clear hK21 hK5 hK6 g6 G6 G5 hHeld G21 HOne HKb
          go_wp2
          have hz23 : (World.drew w6).cell? ⟨OB, 0, none⟩ = some (.int .i64 dd) := (GG.out.then (grown_drew w6 none)).cell (List.mem_cons_self ..) 0 _ rfl
          refine wp_region_held_drew (S := (fun W => W.cell? ⟨OB, 0, none⟩ = some (.int .i64 dd))) (by kernel_rfl) ?_ (fun hHeld => ?_)
          · (exact hz23)
          refine tkQ 0 (oi := ⟨some 147, .fieldAddr 48 (.tmp 18) 0, 0, "law.go:113", #[], none⟩) rfl ?_
          try simp only [Act.put, pA, pB, pC]
          refine tkQ 1 (oi := ⟨some 148, .load 3 (.tmp 147), 3, "law.go:113", #[⟨0, .data⟩], none⟩) rfl ?_
          try simp only [Act.put, pA, pB, pC]
          refine rdH (i := 2) rfl (fun K hK => ?_)
          go_simp
          refine (HPm.out _).mono ?_
          rintro e wz ⟨rfl, rfl⟩
          go_wp2_with fail
          refine hK.out _ _ ?_ (fun hHeld => ?_)
          · ((try dsimp only); with_reducible assumption)
          clear hK K
          try simp only [Act.put, pA, pB, pC]
          refine tkQ 3 (oi := ⟨some 150, .binOp .eql 3 (.tmp 149) (.const (.int .i64 5)) 3, 4, "law.go:113", #[⟨2, .data⟩], none⟩) rfl ?_
          try simp only [Act.put, pA, pB, pC]
          refine tkQ 4 (oi := ⟨some 151, .move (.tmp 150), 4, "law.go:113", #[⟨3, .data⟩, ⟨2, .chain⟩], none⟩) rfl ?_
          try simp only [Act.put, pA, pB, pC]
          refine skH 5 (oi := ⟨some 152, .move (.tmp 15), 42, "law.go:113", #[⟨4, .guard⟩], some (4, true)⟩) rfl ?_
          try simp only [Act.put, pA, pB, pC]
          refine skH 6 (oi := ⟨some 153, .indexAddr 42 (.tmp 152) (.const (.int .i64 0)), 0, "law.go:113", #[⟨5, .data⟩, ⟨4, .guard⟩], some (4, true)⟩) rfl ?_
          try simp only [Act.put, pA, pB, pC]
          refine skH 7 (oi := ⟨some 154, .load 31 (.tmp 153), 31, "law.go:113", #[⟨6, .data⟩, ⟨4, .guard⟩], some (4, true)⟩) rfl ?_
          try simp only [Act.put, pA, pB, pC]
          refine skH 8 (oi := ⟨some 155, .move (.tmp 15), 42, "law.go:113", #[⟨4, .guard⟩], some (4, true)⟩) rfl ?_
          try simp only [Act.put, pA, pB, pC]
          refine skH 9 (oi := ⟨some 156, .indexAddr 42 (.tmp 155) (.const (.int .i64 1)), 0, "law.go:113", #[⟨8, .data⟩, ⟨4, .guard⟩], some (4, true)⟩) rfl ?_
          try simp only [Act.put, pA, pB, pC]
          refine skH 10 (oi := ⟨some 157, .load 31 (.tmp 156), 31, "law.go:113", #[⟨9, .data⟩, ⟨4, .guard⟩], some (4, true)⟩) rfl ?_
          try simp only [Act.put, pA, pB, pC]
          refine skH 11 (oi := ⟨some 158, .call { callee := .value (.func 20), args := #[.tmp 154, .tmp 157], argTypes := #[31, 31] }, 4, "law.go:113", #[⟨7, .data⟩, ⟨10, .data⟩, ⟨4, .chain⟩, ⟨4, .guard⟩], some (4, true)⟩) rfl ?_
          try simp only [Act.put, pA, pB, pC]
          refine skH 12 (oi := ⟨some 159, .move (.tmp 16), 43, "law.go:113", #[⟨4, .guard⟩], some (4, true)⟩) rfl ?_
          try simp only [Act.put, pA, pB, pC]
          refine skH 13 (oi := ⟨some 160, .indexAddr 43 (.tmp 159) (.const (.int .i64 0)), 0, "law.go:113", #[⟨12, .data⟩, ⟨4, .guard⟩], some (4, true)⟩) rfl ?_
          try simp only [Act.put, pA, pB, pC]
          refine skH 14 (oi := ⟨some 161, .load 38 (.tmp 160), 38, "law.go:113", #[⟨13, .data⟩, ⟨4, .guard⟩], some (4, true)⟩) rfl ?_
          try simp only [Act.put, pA, pB, pC]
          refine skH 15 (oi := ⟨some 162, .move (.tmp 16), 43, "law.go:113", #[⟨4, .guard⟩], some (4, true)⟩) rfl ?_
          try simp only [Act.put, pA, pB, pC]
          refine skH 16 (oi := ⟨some 163, .indexAddr 43 (.tmp 162) (.const (.int .i64 1)), 0, "law.go:113", #[⟨15, .data⟩, ⟨4, .guard⟩], some (4, true)⟩) rfl ?_
          try simp only [Act.put, pA, pB, pC]
          refine skH 17 (oi := ⟨some 164, .load 38 (.tmp 163), 38, "law.go:113", #[⟨16, .data⟩, ⟨4, .guard⟩], some (4, true)⟩) rfl ?_
          try simp only [Act.put, pA, pB, pC]
          refine skH 18 (oi := ⟨some 165, .call { callee := .value (.func 21), args := #[.tmp 161, .tmp 164], argTypes := #[38, 38] }, 4, "law.go:113", #[⟨14, .data⟩, ⟨17, .data⟩, ⟨11, .chain⟩, ⟨4, .guard⟩], some (4, true)⟩) rfl ?_
          try simp only [Act.put, pA, pB, pC]
          refine skH 19 (oi := ⟨some 166, .binOp .neq 4 (.tmp 158) (.tmp 165) 4, 4, "law.go:113", #[⟨11, .data⟩, ⟨18, .data⟩, ⟨4, .guard⟩], some (4, true)⟩) rfl ?_
          try simp only [Act.put, pA, pB, pC]
          refine tkQ 20 (oi := ⟨some 167, .pick (.tmp 151) (.tmp 166) (.const (.bool false)), 4, "law.go:113", #[⟨4, .data⟩, ⟨19, .data⟩], none⟩) rfl ?_
          try simp only [Act.put, pA, pB, pC]
          refine wpAnyH_done (by kernel_rfl) ?_ _
          have G7 := hide (GG.out.then (grown_drew w6 none))
          clear hHeld GG
          generalize World.drew w6 = w7 at *
          obtain ⟨⟨r0, r1⟩, -, r2⟩ := HKc.out _ _ _ G7.out
          go_wp2_with fail
          refine (HPm.out _).mono ?_
          rintro e wz ⟨rfl, hw⟩
          obtain rfl := hw.symm
          clear hw
          obtain ⟨k2, hk2e⟩ : ∃ k2, k2 = 1 - k := ⟨_, rfl⟩
          have HK2 := hide hk2e
          have W1k : IntKind.i64.wrap (1 - (k : Int)) = (k2 : Int) := by rw [IntKind.wrap_i64]; have := HKp.out; omega
          have hk20 : (0 : Int) ≤ (k2 : Int) := by omega
          have hk22 : (k2 : Int) < 2 := by omega
          clear hk2e
          go_wp2
          have G26 := G7.out.then (grown_drew w7 none)
          have hK26 := G26.rk HKp.out
          have HCp : Hid (∀ W, Gs w W pa pb da db A B (some (stp dd S ⟨rk, ri, rs, ru, rc⟩)) ob (4096 + j + 1) XA5 XB ((OB, [Value.int .i64 dd, .int .i64 nn, .int .i64 rk, .int .u32 ri, .int .i64 rs, .int .i64 ru, .int .i64 rc, .int .u32 (id : Int), .int .i64 seat], 48) :: rws RX RY k pa pb da db) → Calls Tryz.prog 22 #[.pointer pa] W fun e w' => ∃ q : Bp, e = .returned (.pointer (some ⟨q.b, 0, none⟩)) ∧ BkAt w' q (stp dd S ⟨rk, ri, rs, ru, rc⟩) 4096 ∧ W.grownBy w' none ∧ (∀ i, q.own i → W.heap.size ≤ i)) := fun W G => by
            obtain ⟨h1, -, -, p, v, lo, rfl, h5, -⟩ := G.sa.yes _ rfl
            exact copy_any h5.bk h1.wk
          have HCd : Hid (∀ W, Gs w W pa pb da db A B (some (stp dd S ⟨rk, ri, rs, ru, rc⟩)) ob (4096 + j + 1) XA5 XB ((OB, [Value.int .i64 dd, .int .i64 nn, .int .i64 rk, .int .u32 ri, .int .i64 rs, .int .i64 ru, .int .i64 rc, .int .u32 (id : Int), .int .i64 seat], 48) :: rws RX RY k pa pb da db) → Calls Tryz.prog 23 #[.pointer (some ⟨da, 0, none⟩)] W fun e w' => ∃ d' v', e = .returned (.pointer (some ⟨d', 0, none⟩)) ∧ Db w' W.heap.size d' v' (stp dd S ⟨rk, ri, rs, ru, rc⟩) ∧ W.grownBy w' none) := fun W G => by
            obtain ⟨h1, -, -, p, v, lo, -, h5, -⟩ := G.sa.yes _ rfl
            exact dcopy_any h5.db (by have := h1.few; have := h1.b1; omega)
          clear G7 r0 r1 r2
          refine wp_region_held_drew (S := (fun W => (W.cell? ⟨RX, k, none⟩ = some (.pointer pa) ∧ W.cell? ⟨RY, k, none⟩ = some (.pointer (some ⟨da, 0, none⟩))))) (by kernel_rfl) ?_ (fun hHeld => ?_)
          · (exact hK26)
          refine tkQ 0 (oi := ⟨some 181, .move (.tmp 15), 42, "law.go:117", #[], none⟩) rfl ?_
          try simp only [Act.put, pA, pB, pC]
          refine tkQ 1 (oi := ⟨some 182, .move (.tmp 19), 3, "law.go:117", #[], none⟩) rfl ?_
          try simp only [Act.put, pA, pB, pC]
          refine tkQ 2 (oi := ⟨some 183, .binOp .sub 3 (.const (.int .i64 1)) (.tmp 182) 3, 3, "law.go:117", #[⟨1, .data⟩], none⟩) rfl ?_
          try simp only [Act.put, pA, pB, pC]
          refine tkQ 3 (oi := ⟨some 184, .move (.tmp 16), 43, "law.go:117", #[⟨17, .gcOnly .lateStores⟩], none⟩) rfl ?_
          try simp only [Act.put, pA, pB, pC]
          refine tkQ 4 (oi := ⟨some 185, .move (.tmp 19), 3, "law.go:117", #[⟨17, .gcOnly .lateStores⟩], none⟩) rfl ?_
          try simp only [Act.put, pA, pB, pC]
          refine tkQ 5 (oi := ⟨some 186, .binOp .sub 3 (.const (.int .i64 1)) (.tmp 185) 3, 3, "law.go:117", #[⟨4, .data⟩, ⟨17, .gcOnly .lateStores⟩], none⟩) rfl ?_
          try simp only [Act.put, pA, pB, pC]
          refine tkQ 6 (oi := ⟨some 187, .move (.tmp 15), 42, "law.go:117", #[], none⟩) rfl ?_
          try simp only [Act.put, pA, pB, pC]
          refine tkQ 7 (oi := ⟨some 188, .move (.tmp 19), 3, "law.go:117", #[], none⟩) rfl ?_
          try simp only [Act.put, pA, pB, pC]
          refine tkQ 8 (oi := ⟨some 189, .indexAddr 42 (.tmp 187) (.tmp 188), 0, "law.go:117", #[⟨6, .data⟩, ⟨7, .data⟩], none⟩) rfl ?_
          try simp only [Act.put, pA, pB, pC]
          refine tkQ 9 (oi := ⟨some 190, .load 31 (.tmp 189), 31, "law.go:117", #[⟨8, .data⟩], none⟩) rfl ?_
          try simp only [Act.put, pA, pB, pC]
          refine tkQ 11 (oi := ⟨some 192, .move (.tmp 16), 43, "law.go:117", #[], none⟩) rfl ?_
          try simp only [Act.put, pA, pB, pC]
          refine tkQ 12 (oi := ⟨some 193, .move (.tmp 19), 3, "law.go:117", #[], none⟩) rfl ?_
          try simp only [Act.put, pA, pB, pC]
          refine tkQ 13 (oi := ⟨some 194, .indexAddr 43 (.tmp 192) (.tmp 193), 0, "law.go:117", #[⟨11, .data⟩, ⟨12, .data⟩], none⟩) rfl ?_
          try simp only [Act.put, pA, pB, pC]
          refine tkQ 14 (oi := ⟨some 195, .load 38 (.tmp 194), 38, "law.go:117", #[⟨13, .data⟩], none⟩) rfl ?_
          try simp only [Act.put, pA, pB, pC]
          refine rdH (i := 10) rfl (fun K hK => ?_)
          go_simp
          refine (HCp.out _ G26).mono ?_
          rintro e w8 ⟨q, rfl, hq, g8, ho8⟩
          have G8 := G26.then g8
          have hK8 := G8.rk HKp.out
          go_wp2_with fail
          refine hK.out _ _ ?_ (fun hHeld => ?_)
          · ((try dsimp only); first | with_reducible assumption | exact hK8 | exact hK9 | exact hK10 | exact hK11)
          clear hK K
          try simp only [Act.put, pA, pB, pC]
          refine rdH (i := 15) rfl (fun K hK => ?_)
          go_simp
          refine (HCd.out _ G8).mono ?_
          rintro e w9 ⟨d9, v9, rfl, hd9, g9⟩
          obtain ⟨X9, s9, ho9⟩ := G26.sa.copied G26.gr hq g8 ho8 hd9 g9 (by omega)
          have G9 := G26.renew (grown_trans g8 g9) s9 ho9
          have hK9 := G9.rk HKp.out
          obtain ⟨hGz, ⟨t0, t1⟩, ⟨t2, t3⟩, hK10, hK11⟩ := G9.put2 HKp.out HRn.out HObx.out rfl rfl
          have GZ := hide hGz
          clear hGz
          rw [← HK2.out] at t0 t1 t2 t3 hK10 hK11
          go_wp2_with fail
          refine hK.out _ _ ?_ (fun hHeld => ?_)
          · ((try dsimp only); first | with_reducible assumption | exact hK8 | exact hK9 | exact hK10 | exact hK11)
          clear hK K
          try simp only [Act.put, pA, pB, pC]
          refine tkQ 16 (oi := ⟨some 197, .indexAddr 42 (.tmp 181) (.tmp 183), 0, "law.go:117", #[⟨0, .data⟩, ⟨2, .data⟩, ⟨0, .phase⟩, ⟨1, .phase⟩, ⟨2, .phase⟩, ⟨3, .textOnly .lateStores⟩, ⟨4, .textOnly .lateStores⟩, ⟨5, .textOnly .lateStores⟩, ⟨6, .phase⟩, ⟨7, .phase⟩, ⟨8, .phase⟩, ⟨9, .phase⟩, ⟨10, .phase⟩, ⟨11, .textOnly .lateStores⟩, ⟨12, .textOnly .lateStores⟩, ⟨13, .textOnly .lateStoresUnsure⟩, ⟨14, .phase⟩, ⟨15, .phase⟩], none⟩) rfl ?_
          try simp only [Act.put, pA, pB, pC]
          refine rdH (i := 17) rfl (fun K hK => ?_)
          go_simp
          refine hK.out _ _ ?_ (fun hHeld => ?_)
          · ((try dsimp only); first | with_reducible assumption | exact hK8 | exact hK9 | exact hK10 | exact hK11)
          clear hK K
          try simp only [Act.put, pA, pB, pC]
          refine tkQ 18 (oi := ⟨some 198, .indexAddr 43 (.tmp 184) (.tmp 186), 0, "law.go:117", #[⟨3, .data⟩, ⟨5, .data⟩, ⟨0, .phase⟩, ⟨1, .phase⟩, ⟨2, .phase⟩, ⟨3, .phase⟩, ⟨4, .phase⟩, ⟨5, .phase⟩, ⟨6, .phase⟩, ⟨7, .phase⟩, ⟨8, .phase⟩, ⟨9, .phase⟩, ⟨10, .phase⟩, ⟨11, .phase⟩, ⟨12, .phase⟩, ⟨13, .phase⟩, ⟨14, .phase⟩, ⟨15, .phase⟩, ⟨16, .phase⟩, ⟨17, .phase⟩], none⟩) rfl ?_
          try simp only [Act.put, pA, pB, pC]
          refine rdH (i := 19) rfl (fun K hK => ?_)
          go_simp
          refine hK.out _ _ ?_ (fun hHeld => ?_)
          · ((try dsimp only); first | with_reducible assumption | exact hK8 | exact hK9 | exact hK10 | exact hK11)
          clear hK K
          try simp only [Act.put, pA, pB, pC]
          refine wpAnyH_done (by kernel_rfl) ?_ _
          clear hHeld hK26 hK8 hK9 hK10 hK11 t0 t1 t2 t3 G26 G8 G9 hq g8 ho8 hd9 g9 s9 ho9 HCp HCd
          rw [← HK2.out] at GZ
          generalize World.setCell (World.setCell w9 _ _) _ _ = w10 at *
          go_wp2
          go_roundg (gk - 1)
          case measure => omega
          case rel => exact ⟨j + 1, by omega, by go_num, Vw.to ⟨pa, _, da, _, _, _, _, _, GZ.out.o1.o2⟩ HKp.out (by omega)⟩
        · obtain ⟨m7, hm7⟩ : ∃ m7, dd % 7 = m7 := ⟨_, rfl⟩
          have HPm := hide (HPk.out m7 hm7)
          have hm5 : (m7 == 5) = false := by simp; omega
          have hm5' : decide (m7 = 5) = false := by simp; omega
          have hm6 : (m7 == 6) = false := by simp; omega
          have hm6' : decide (m7 = 6) = false := by simp; omega
          clear HPk hd hd' hm7
          refine wp_region_held_drew (S := (fun W => (W.cell? ⟨RX, k, none⟩ = some (.pointer pa) ∧ W.cell? ⟨RY, k, none⟩ = some (.pointer (some ⟨da, 0, none⟩))) ∧ (W.cell? ⟨OB, 0, none⟩ = some (.int .i64 dd) ∧ W.cell? ⟨OB, 1, none⟩ = some (.int .i64 nn) ∧ W.cell? ⟨OB, 2, none⟩ = some (.int .i64 rk) ∧ W.cell? ⟨OB, 3, none⟩ = some (.int .u32 ri) ∧ W.cell? ⟨OB, 4, none⟩ = some (.int .i64 rs) ∧ W.cell? ⟨OB, 5, none⟩ = some (.int .i64 ru) ∧ W.cell? ⟨OB, 6, none⟩ = some (.int .i64 rc) ∧ W.cell? ⟨OB, 7, none⟩ = some (.int .u32 (id : Int)) ∧ W.cell? ⟨OB, 8, none⟩ = some (.int .i64 seat)) ∧ W.cell? ⟨da, 0, none⟩ = some (.bool true))) (by kernel_rfl) ?_ (fun hHeld => ?_)
          · (exact hK21)
          refine tkQ 0 (oi := ⟨some 119, .move (.tmp 15), 42, "law.go:110", #[], none⟩) rfl ?_
          try simp only [Act.put, pA, pB, pC]
          refine tkQ 1 (oi := ⟨some 120, .move (.tmp 19), 3, "law.go:110", #[], none⟩) rfl ?_
          try simp only [Act.put, pA, pB, pC]
          refine tkQ 2 (oi := ⟨some 121, .indexAddr 42 (.tmp 119) (.tmp 120), 0, "law.go:110", #[⟨0, .data⟩, ⟨1, .data⟩], none⟩) rfl ?_
          try simp only [Act.put, pA, pB, pC]
          refine tkQ 3 (oi := ⟨some 122, .load 31 (.tmp 121), 31, "law.go:110", #[⟨2, .data⟩], none⟩) rfl ?_
          try simp only [Act.put, pA, pB, pC]
          refine tkQ 4 (oi := ⟨some 123, .move (.tmp 16), 43, "law.go:110", #[], none⟩) rfl ?_
          try simp only [Act.put, pA, pB, pC]
          refine tkQ 5 (oi := ⟨some 124, .move (.tmp 19), 3, "law.go:110", #[], none⟩) rfl ?_
          try simp only [Act.put, pA, pB, pC]
          refine tkQ 6 (oi := ⟨some 125, .indexAddr 43 (.tmp 123) (.tmp 124), 0, "law.go:110", #[⟨4, .data⟩, ⟨5, .data⟩], none⟩) rfl ?_
          try simp only [Act.put, pA, pB, pC]
          refine tkQ 7 (oi := ⟨some 126, .load 38 (.tmp 125), 38, "law.go:110", #[⟨6, .data⟩], none⟩) rfl ?_
          try simp only [Act.put, pA, pB, pC]
          refine tkQ 8 (oi := ⟨some 127, .load 48 (.tmp 18), 48, "law.go:110", #[], none⟩) rfl ?_
          try simp only [Act.put, pA, pB, pC]
          refine rdH (i := 9) rfl (fun K hK => ?_)
          go_simp
          refine (HOne.out _ G21).mono ?_
          rintro e w5 ⟨rfl, XA5, G5⟩
          have hK5 := HKc.out _ _ _ G5
          go_wp2_with fail
          refine hK.out _ _ ?_ (fun hHeld => ?_)
          · ((try dsimp only); first | with_reducible assumption | exact hK5 | exact hK6)
          clear hK K
          try simp only [Act.put, pA, pB, pC]
          refine tkQ 10 (oi := ⟨some 129, .unOp .not 4 (.tmp 128), 4, "law.go:110", #[⟨9, .data⟩], none⟩) rfl ?_
          try simp only [Act.put, pA, pB, pC]
          refine tkQ 11 (oi := ⟨some 130, .move (.tmp 129), 4, "law.go:110", #[⟨10, .data⟩, ⟨9, .chain⟩], none⟩) rfl ?_
          try simp only [Act.put, pA, pB, pC]
          refine tkQ 12 (oi := ⟨some 131, .move (.tmp 16), 43, "law.go:110", #[⟨11, .guard⟩], some (11, false)⟩) rfl ?_
          try simp only [Act.put, pA, pB, pC]
          refine tkQ 13 (oi := ⟨some 132, .move (.tmp 19), 3, "law.go:110", #[⟨11, .guard⟩], some (11, false)⟩) rfl ?_
          try simp only [Act.put, pA, pB, pC]
          refine tkQ 14 (oi := ⟨some 133, .indexAddr 43 (.tmp 131) (.tmp 132), 0, "law.go:110", #[⟨12, .data⟩, ⟨13, .data⟩, ⟨11, .guard⟩], some (11, false)⟩) rfl ?_
          try simp only [Act.put, pA, pB, pC]
          refine tkQ 15 (oi := ⟨some 134, .load 38 (.tmp 133), 38, "law.go:110", #[⟨14, .data⟩, ⟨11, .guard⟩], some (11, false)⟩) rfl ?_
          try simp only [Act.put, pA, pB, pC]
          refine tkQ 16 (oi := ⟨some 135, .nilCheck (.tmp 134), 0, "law.go:110", #[⟨15, .data⟩, ⟨11, .guard⟩], some (11, false)⟩) rfl ?_
          try simp only [Act.put, pA, pB, pC]
          refine tkQ 17 (oi := ⟨some 136, .fieldAddr 52 (.tmp 135) 0, 0, "law.go:110", #[⟨16, .data⟩, ⟨11, .guard⟩], some (11, false)⟩) rfl ?_
          try simp only [Act.put, pA, pB, pC]
          refine tkQ 18 (oi := ⟨some 137, .load 4 (.tmp 136), 4, "law.go:110", #[⟨17, .data⟩, ⟨11, .guard⟩], some (11, false)⟩) rfl ?_
          try simp only [Act.put, pA, pB, pC]
          refine tkQ 19 (oi := ⟨some 138, .move (.tmp 137), 4, "law.go:110", #[⟨18, .data⟩, ⟨11, .chain⟩, ⟨11, .guard⟩], some (11, false)⟩) rfl ?_
          try simp only [Act.put, pA, pB, pC]
          refine tkQ 20 (oi := ⟨some 139, .move (.tmp 16), 43, "law.go:110", #[⟨19, .guard⟩], some (19, true)⟩) rfl ?_
          try simp only [Act.put, pA, pB, pC]
          refine tkQ 21 (oi := ⟨some 140, .move (.tmp 19), 3, "law.go:110", #[⟨19, .guard⟩], some (19, true)⟩) rfl ?_
          try simp only [Act.put, pA, pB, pC]
          refine tkQ 22 (oi := ⟨some 141, .indexAddr 43 (.tmp 139) (.tmp 140), 0, "law.go:110", #[⟨20, .data⟩, ⟨21, .data⟩, ⟨19, .guard⟩], some (19, true)⟩) rfl ?_
          try simp only [Act.put, pA, pB, pC]
          refine tkQ 23 (oi := ⟨some 142, .load 38 (.tmp 141), 38, "law.go:110", #[⟨22, .data⟩, ⟨19, .guard⟩], some (19, true)⟩) rfl ?_
          try simp only [Act.put, pA, pB, pC]
          refine rdH (i := 24) rfl (fun K hK => ?_)
          go_simp
          refine (G5.sa.may).mono ?_
          rintro e w6 ⟨rfl, g6⟩
          have G6 := G5.then g6
          have hK6 := HKc.out _ _ _ G6
          go_wp2_with fail
          refine hK.out _ _ ?_ (fun hHeld => ?_)
          · ((try dsimp only); first | with_reducible assumption | exact hK5 | exact hK6)
          clear hK K
          try simp only [Act.put, pA, pB, pC]
          refine tkQ 25 (oi := ⟨some 144, .unOp .not 4 (.tmp 143), 4, "law.go:110", #[⟨24, .data⟩, ⟨19, .guard⟩], some (19, true)⟩) rfl ?_
          try simp only [Act.put, pA, pB, pC]
          refine tkQ 26 (oi := ⟨some 145, .pick (.tmp 138) (.tmp 144) (.const (.bool false)), 4, "law.go:110", #[⟨19, .data⟩, ⟨25, .data⟩, ⟨11, .guard⟩], some (11, false)⟩) rfl ?_
          try simp only [Act.put, pA, pB, pC]
          refine tkQ 27 (oi := ⟨some 146, .pick (.tmp 130) (.const (.bool true)) (.tmp 145), 4, "law.go:110", #[⟨11, .data⟩, ⟨26, .data⟩], none⟩) rfl ?_
          try simp only [Act.put, pA, pB, pC]
          refine wpAnyH_done (by kernel_rfl) ?_ _
          have GG := hide (G6)
          clear hK21 hK5 hK6 g6 G6 G5 hHeld G21 HOne HKb
          go_wp2
          have hz23 : (World.drew w6).cell? ⟨OB, 0, none⟩ = some (.int .i64 dd) := (GG.out.then (grown_drew w6 none)).cell (List.mem_cons_self ..) 0 _ rfl
          refine wp_region_held_drew (S := (fun W => W.cell? ⟨OB, 0, none⟩ = some (.int .i64 dd))) (by kernel_rfl) ?_ (fun hHeld => ?_)
          · (exact hz23)
          refine tkQ 0 (oi := ⟨some 147, .fieldAddr 48 (.tmp 18) 0, 0, "law.go:113", #[], none⟩) rfl ?_
          try simp only [Act.put, pA, pB, pC]
          refine tkQ 1 (oi := ⟨some 148, .load 3 (.tmp 147), 3, "law.go:113", #[⟨0, .data⟩], none⟩) rfl ?_
          try simp only [Act.put, pA, pB, pC]
          refine rdH (i := 2) rfl (fun K hK => ?_)
          go_simp
          refine (HPm.out _).mono ?_
          rintro e wz ⟨rfl, rfl⟩
          go_wp2_with fail
          refine hK.out _ _ ?_ (fun hHeld => ?_)
          · ((try dsimp only); with_reducible assumption)
          clear hK K
          try simp only [Act.put, pA, pB, pC]
          refine tkQ 3 (oi := ⟨some 150, .binOp .eql 3 (.tmp 149) (.const (.int .i64 5)) 3, 4, "law.go:113", #[⟨2, .data⟩], none⟩) rfl ?_
          try simp only [Act.put, pA, pB, pC]
          refine tkQ 4 (oi := ⟨some 151, .move (.tmp 150), 4, "law.go:113", #[⟨3, .data⟩, ⟨2, .chain⟩], none⟩) rfl ?_
          try simp only [Act.put, pA, pB, pC]
          refine skH 5 (oi := ⟨some 152, .move (.tmp 15), 42, "law.go:113", #[⟨4, .guard⟩], some (4, true)⟩) rfl ?_
          try simp only [Act.put, pA, pB, pC]
          refine skH 6 (oi := ⟨some 153, .indexAddr 42 (.tmp 152) (.const (.int .i64 0)), 0, "law.go:113", #[⟨5, .data⟩, ⟨4, .guard⟩], some (4, true)⟩) rfl ?_
          try simp only [Act.put, pA, pB, pC]
          refine skH 7 (oi := ⟨some 154, .load 31 (.tmp 153), 31, "law.go:113", #[⟨6, .data⟩, ⟨4, .guard⟩], some (4, true)⟩) rfl ?_
          try simp only [Act.put, pA, pB, pC]
          refine skH 8 (oi := ⟨some 155, .move (.tmp 15), 42, "law.go:113", #[⟨4, .guard⟩], some (4, true)⟩) rfl ?_
          try simp only [Act.put, pA, pB, pC]
          refine skH 9 (oi := ⟨some 156, .indexAddr 42 (.tmp 155) (.const (.int .i64 1)), 0, "law.go:113", #[⟨8, .data⟩, ⟨4, .guard⟩], some (4, true)⟩) rfl ?_
          try simp only [Act.put, pA, pB, pC]
          refine skH 10 (oi := ⟨some 157, .load 31 (.tmp 156), 31, "law.go:113", #[⟨9, .data⟩, ⟨4, .guard⟩], some (4, true)⟩) rfl ?_
          try simp only [Act.put, pA, pB, pC]
          refine skH 11 (oi := ⟨some 158, .call { callee := .value (.func 20), args := #[.tmp 154, .tmp 157], argTypes := #[31, 31] }, 4, "law.go:113", #[⟨7, .data⟩, ⟨10, .data⟩, ⟨4, .chain⟩, ⟨4, .guard⟩], some (4, true)⟩) rfl ?_
          try simp only [Act.put, pA, pB, pC]
          refine skH 12 (oi := ⟨some 159, .move (.tmp 16), 43, "law.go:113", #[⟨4, .guard⟩], some (4, true)⟩) rfl ?_
          try simp only [Act.put, pA, pB, pC]
          refine skH 13 (oi := ⟨some 160, .indexAddr 43 (.tmp 159) (.const (.int .i64 0)), 0, "law.go:113", #[⟨12, .data⟩, ⟨4, .guard⟩], some (4, true)⟩) rfl ?_
          try simp only [Act.put, pA, pB, pC]
          refine skH 14 (oi := ⟨some 161, .load 38 (.tmp 160), 38, "law.go:113", #[⟨13, .data⟩, ⟨4, .guard⟩], some (4, true)⟩) rfl ?_
          try simp only [Act.put, pA, pB, pC]
          refine skH 15 (oi := ⟨some 162, .move (.tmp 16), 43, "law.go:113", #[⟨4, .guard⟩], some (4, true)⟩) rfl ?_
          try simp only [Act.put, pA, pB, pC]
          refine skH 16 (oi := ⟨some 163, .indexAddr 43 (.tmp 162) (.const (.int .i64 1)), 0, "law.go:113", #[⟨15, .data⟩, ⟨4, .guard⟩], some (4, true)⟩) rfl ?_
          try simp only [Act.put, pA, pB, pC]
          refine skH 17 (oi := ⟨some 164, .load 38 (.tmp 163), 38, "law.go:113", #[⟨16, .data⟩, ⟨4, .guard⟩], some (4, true)⟩) rfl ?_
          try simp only [Act.put, pA, pB, pC]
          refine skH 18 (oi := ⟨some 165, .call { callee := .value (.func 21), args := #[.tmp 161, .tmp 164], argTypes := #[38, 38] }, 4, "law.go:113", #[⟨14, .data⟩, ⟨17, .data⟩, ⟨11, .chain⟩, ⟨4, .guard⟩], some (4, true)⟩) rfl ?_
          try simp only [Act.put, pA, pB, pC]
          refine skH 19 (oi := ⟨some 166, .binOp .neq 4 (.tmp 158) (.tmp 165) 4, 4, "law.go:113", #[⟨11, .data⟩, ⟨18, .data⟩, ⟨4, .guard⟩], some (4, true)⟩) rfl ?_
          try simp only [Act.put, pA, pB, pC]
          refine tkQ 20 (oi := ⟨some 167, .pick (.tmp 151) (.tmp 166) (.const (.bool false)), 4, "law.go:113", #[⟨4, .data⟩, ⟨19, .data⟩], none⟩) rfl ?_
          try simp only [Act.put, pA, pB, pC]
          refine wpAnyH_done (by kernel_rfl) ?_ _
          have G7 := hide (GG.out.then (grown_drew w6 none))
          clear hHeld GG
          generalize World.drew w6 = w7 at *
          obtain ⟨⟨r0, r1⟩, -, r2⟩ := HKc.out _ _ _ G7.out
          go_wp2_with fail
          refine (HPm.out _).mono ?_
          rintro e wz ⟨rfl, hw⟩
          obtain rfl := hw.symm
          clear hw
          go_wp2
          go_roundg (gk - 1)
          case measure => omega
          case rel => exact ⟨j + 1, by omega, by go_num, Vw.to ⟨pa, pb, da, db, _, ob, _, XB, G7.out.o1.o2⟩ HKp.out (by omega)⟩
    · have hj : j = m := by omega
      subst hj
      have HV := hide HG.out
      clear HG HD HT
      by_cases h1 : j < len2
      · have h2 : (j : Int) < (len2 : Int) := by omega
        have h3 : ¬ (j : Int) < 300 := by omega
        obtain ⟨p0, p1, d0, d1, o0, o1, X0, X1, hG0⟩ := HV.out
        have G0 := hG0.then (grown_drew wr none)
        have HK0 : Hid (∀ W X2 X3, Gs w W p0 p1 d0 d1 A B o0 o1 (4096 + j) X2 X3 (rws RX RY 0 p0 p1 d0 d1 ++ []) → (W.cell? ⟨RX, 0, none⟩ = some (.pointer p0) ∧ W.cell? ⟨RX, 1, none⟩ = some (.pointer p1)) ∧ (W.cell? ⟨RY, 0, none⟩ = some (.pointer (some ⟨d0, 0, none⟩)) ∧ W.cell? ⟨RY, 1, none⟩ = some (.pointer (some ⟨d1, 0, none⟩)))) := fun W X2 X3 G => ⟨⟨G.cell (List.mem_cons_self ..) 0 _ rfl, G.cell (List.mem_cons_self ..) 1 _ rfl⟩, G.cell (List.mem_cons_of_mem _ (List.mem_cons_self ..)) 0 _ rfl, G.cell (List.mem_cons_of_mem _ (List.mem_cons_self ..)) 1 _ rfl⟩
        have HI0 : Hid (∀ W X2 X3, Gs w W p0 p1 d0 d1 A B o0 o1 (4096 + j) X2 X3 (rws RX RY 0 p0 p1 d0 d1 ++ []) → Calls Tryz.prog 24 #[.pointer p0, .pointer (some ⟨d0, 0, none⟩)] W fun e w' => e = .returned (.bool true) ∧ ∃ X8, Gs w w' p0 p1 d0 d1 A B o0 o1 (4096 + j) X8 X3 (rws RX RY 0 p0 p1 d0 d1 ++ [])) := fun W X2 X3 G => by
          refine G.sa.is.mono ?_
          rintro e w' ⟨rfl, h1, h2⟩
          exact ⟨rfl, G.moved ⟨X2, h1, h2, fun i e => .inl e⟩ (Nat.le_refl _)⟩
        have HI1 : Hid (∀ W X2 X3, Gs w W p0 p1 d0 d1 A B o0 o1 (4096 + j) X2 X3 (rws RX RY 0 p0 p1 d0 d1 ++ []) → Calls Tryz.prog 24 #[.pointer p1, .pointer (some ⟨d1, 0, none⟩)] W fun e w' => e = .returned (.bool true) ∧ ∃ X8, Gs w w' p0 p1 d0 d1 A B o0 o1 (4096 + j) X2 X8 (rws RX RY 0 p0 p1 d0 d1 ++ [])) := fun W X2 X3 G => by
          refine G.sb.is.mono ?_
          rintro e w' ⟨rfl, h1, h2⟩
          obtain ⟨X8, G8⟩ := G.swap.moved ⟨X3, h1, h2, fun i e => .inl e⟩ (Nat.le_refl _)
          exact ⟨rfl, X8, G8.swap⟩
        have hK0 := HK0.out _ _ _ G0
        clear HV hG0
        go_wp2
        refine wp_region_held_drew (S := (fun W => (W.cell? ⟨RX, 0, none⟩ = some (.pointer p0) ∧ W.cell? ⟨RX, 1, none⟩ = some (.pointer p1)) ∧ (W.cell? ⟨RY, 0, none⟩ = some (.pointer (some ⟨d0, 0, none⟩)) ∧ W.cell? ⟨RY, 1, none⟩ = some (.pointer (some ⟨d1, 0, none⟩))))) (by kernel_rfl) ?_ (fun hHeld => ?_)
        · (exact hK0)
        refine tkQ 0 (oi := ⟨some 199, .move (.tmp 15), 42, "law.go:120", #[], none⟩) rfl ?_
        try simp only [Act.put, pA, pB, pC]
        refine tkQ 1 (oi := ⟨some 200, .indexAddr 42 (.tmp 199) (.const (.int .i64 0)), 0, "law.go:120", #[⟨0, .data⟩], none⟩) rfl ?_
        try simp only [Act.put, pA, pB, pC]
        refine tkQ 2 (oi := ⟨some 201, .load 31 (.tmp 200), 31, "law.go:120", #[⟨1, .data⟩], none⟩) rfl ?_
        try simp only [Act.put, pA, pB, pC]
        refine tkQ 3 (oi := ⟨some 202, .move (.tmp 16), 43, "law.go:120", #[], none⟩) rfl ?_
        try simp only [Act.put, pA, pB, pC]
        refine tkQ 4 (oi := ⟨some 203, .indexAddr 43 (.tmp 202) (.const (.int .i64 0)), 0, "law.go:120", #[⟨3, .data⟩], none⟩) rfl ?_
        try simp only [Act.put, pA, pB, pC]
        refine tkQ 5 (oi := ⟨some 204, .load 38 (.tmp 203), 38, "law.go:120", #[⟨4, .data⟩], none⟩) rfl ?_
        try simp only [Act.put, pA, pB, pC]
        refine rdH (i := 6) rfl (fun K hK => ?_)
        go_simp
        refine (HI0.out _ _ _ G0).mono ?_
        rintro e w8 ⟨rfl, X8, G8⟩
        have hK8 := HK0.out _ _ _ G8
        go_wp2_with fail
        refine hK.out _ _ ?_ (fun hHeld => ?_)
        · ((try dsimp only); first | with_reducible assumption | exact hK8 | exact hK9)
        clear hK K
        try simp only [Act.put, pA, pB, pC]
        refine tkQ 7 (oi := ⟨some 206, .move (.tmp 205), 4, "law.go:120", #[⟨6, .data⟩, ⟨6, .chain⟩], none⟩) rfl ?_
        try simp only [Act.put, pA, pB, pC]
        refine tkQ 8 (oi := ⟨some 207, .move (.tmp 15), 42, "law.go:120", #[⟨7, .guard⟩], some (7, true)⟩) rfl ?_
        try simp only [Act.put, pA, pB, pC]
        refine tkQ 9 (oi := ⟨some 208, .indexAddr 42 (.tmp 207) (.const (.int .i64 1)), 0, "law.go:120", #[⟨8, .data⟩, ⟨7, .guard⟩], some (7, true)⟩) rfl ?_
        try simp only [Act.put, pA, pB, pC]
        refine tkQ 10 (oi := ⟨some 209, .load 31 (.tmp 208), 31, "law.go:120", #[⟨9, .data⟩, ⟨7, .guard⟩], some (7, true)⟩) rfl ?_
        try simp only [Act.put, pA, pB, pC]
        refine tkQ 11 (oi := ⟨some 210, .move (.tmp 16), 43, "law.go:120", #[⟨7, .guard⟩], some (7, true)⟩) rfl ?_
        try simp only [Act.put, pA, pB, pC]
        refine tkQ 12 (oi := ⟨some 211, .indexAddr 43 (.tmp 210) (.const (.int .i64 1)), 0, "law.go:120", #[⟨11, .data⟩, ⟨7, .guard⟩], some (7, true)⟩) rfl ?_
        try simp only [Act.put, pA, pB, pC]
        refine tkQ 13 (oi := ⟨some 212, .load 38 (.tmp 211), 38, "law.go:120", #[⟨12, .data⟩, ⟨7, .guard⟩], some (7, true)⟩) rfl ?_
        try simp only [Act.put, pA, pB, pC]
        refine rdH (i := 14) rfl (fun K hK => ?_)
        go_simp
        refine (HI1.out _ _ _ G8).mono ?_
        rintro e w9 ⟨rfl, X9, G9⟩
        have hK9 := HK0.out _ _ _ G9
        go_wp2_with fail
        refine hK.out _ _ ?_ (fun hHeld => ?_)
        · ((try dsimp only); first | with_reducible assumption | exact hK8 | exact hK9)
        clear hK K
        try simp only [Act.put, pA, pB, pC]
        refine tkQ 15 (oi := ⟨some 214, .pick (.tmp 206) (.tmp 213) (.const (.bool false)), 4, "law.go:120", #[⟨7, .data⟩, ⟨14, .data⟩], none⟩) rfl ?_
        try simp only [Act.put, pA, pB, pC]
        refine tkQ 16 (oi := ⟨some 4, .assign (.tmp 214), 4, "law.go:120", #[⟨15, .data⟩, ⟨14, .chain⟩, ⟨0, .phase⟩, ⟨1, .phase⟩, ⟨2, .phase⟩, ⟨3, .phase⟩, ⟨4, .phase⟩, ⟨5, .phase⟩, ⟨6, .phase⟩, ⟨7, .phase⟩, ⟨8, .phase⟩, ⟨9, .phase⟩, ⟨10, .phase⟩, ⟨11, .phase⟩, ⟨12, .phase⟩, ⟨13, .phase⟩, ⟨14, .phase⟩, ⟨15, .phase⟩], none⟩) rfl ?_
        try simp only [Act.put, pA, pB, pC]
        refine wpAnyH_done (by kernel_rfl) ?_ _
        have HZ := hide G9.gr
        clear hHeld hK0 hK8 hK9 HK0 HI0 HI1 G0 G8 G9
        go_wp2
        go_ret
        exact ⟨rfl, HZ.out⟩
      · have h2 : ¬ (j : Int) < (len2 : Int) := by omega
        obtain ⟨p0, p1, d0, d1, o0, o1, X0, X1, hG0⟩ := HV.out
        have G0 := hG0.then (grown_drew wr none)
        have HK0 : Hid (∀ W X2 X3, Gs w W p0 p1 d0 d1 A B o0 o1 (4096 + j) X2 X3 (rws RX RY 0 p0 p1 d0 d1 ++ []) → (W.cell? ⟨RX, 0, none⟩ = some (.pointer p0) ∧ W.cell? ⟨RX, 1, none⟩ = some (.pointer p1)) ∧ (W.cell? ⟨RY, 0, none⟩ = some (.pointer (some ⟨d0, 0, none⟩)) ∧ W.cell? ⟨RY, 1, none⟩ = some (.pointer (some ⟨d1, 0, none⟩)))) := fun W X2 X3 G => ⟨⟨G.cell (List.mem_cons_self ..) 0 _ rfl, G.cell (List.mem_cons_self ..) 1 _ rfl⟩, G.cell (List.mem_cons_of_mem _ (List.mem_cons_self ..)) 0 _ rfl, G.cell (List.mem_cons_of_mem _ (List.mem_cons_self ..)) 1 _ rfl⟩
        have HI0 : Hid (∀ W X2 X3, Gs w W p0 p1 d0 d1 A B o0 o1 (4096 + j) X2 X3 (rws RX RY 0 p0 p1 d0 d1 ++ []) → Calls Tryz.prog 24 #[.pointer p0, .pointer (some ⟨d0, 0, none⟩)] W fun e w' => e = .returned (.bool true) ∧ ∃ X8, Gs w w' p0 p1 d0 d1 A B o0 o1 (4096 + j) X8 X3 (rws RX RY 0 p0 p1 d0 d1 ++ [])) := fun W X2 X3 G => by
          refine G.sa.is.mono ?_
          rintro e w' ⟨rfl, h1, h2⟩
          exact ⟨rfl, G.moved ⟨X2, h1, h2, fun i e => .inl e⟩ (Nat.le_refl _)⟩
        have HI1 : Hid (∀ W X2 X3, Gs w W p0 p1 d0 d1 A B o0 o1 (4096 + j) X2 X3 (rws RX RY 0 p0 p1 d0 d1 ++ []) → Calls Tryz.prog 24 #[.pointer p1, .pointer (some ⟨d1, 0, none⟩)] W fun e w' => e = .returned (.bool true) ∧ ∃ X8, Gs w w' p0 p1 d0 d1 A B o0 o1 (4096 + j) X2 X8 (rws RX RY 0 p0 p1 d0 d1 ++ [])) := fun W X2 X3 G => by
          refine G.sb.is.mono ?_
          rintro e w' ⟨rfl, h1, h2⟩
          obtain ⟨X8, G8⟩ := G.swap.moved ⟨X3, h1, h2, fun i e => .inl e⟩ (Nat.le_refl _)
          exact ⟨rfl, X8, G8.swap⟩
        have hK0 := HK0.out _ _ _ G0
        clear HV hG0
        go_wp2
        refine wp_region_held_drew (S := (fun W => (W.cell? ⟨RX, 0, none⟩ = some (.pointer p0) ∧ W.cell? ⟨RX, 1, none⟩ = some (.pointer p1)) ∧ (W.cell? ⟨RY, 0, none⟩ = some (.pointer (some ⟨d0, 0, none⟩)) ∧ W.cell? ⟨RY, 1, none⟩ = some (.pointer (some ⟨d1, 0, none⟩))))) (by kernel_rfl) ?_ (fun hHeld => ?_)
        · (exact hK0)
        refine tkQ 0 (oi := ⟨some 199, .move (.tmp 15), 42, "law.go:120", #[], none⟩) rfl ?_
        try simp only [Act.put, pA, pB, pC]
        refine tkQ 1 (oi := ⟨some 200, .indexAddr 42 (.tmp 199) (.const (.int .i64 0)), 0, "law.go:120", #[⟨0, .data⟩], none⟩) rfl ?_
        try simp only [Act.put, pA, pB, pC]
        refine tkQ 2 (oi := ⟨some 201, .load 31 (.tmp 200), 31, "law.go:120", #[⟨1, .data⟩], none⟩) rfl ?_
        try simp only [Act.put, pA, pB, pC]
        refine tkQ 3 (oi := ⟨some 202, .move (.tmp 16), 43, "law.go:120", #[], none⟩) rfl ?_
        try simp only [Act.put, pA, pB, pC]
        refine tkQ 4 (oi := ⟨some 203, .indexAddr 43 (.tmp 202) (.const (.int .i64 0)), 0, "law.go:120", #[⟨3, .data⟩], none⟩) rfl ?_
        try simp only [Act.put, pA, pB, pC]
        refine tkQ 5 (oi := ⟨some 204, .load 38 (.tmp 203), 38, "law.go:120", #[⟨4, .data⟩], none⟩) rfl ?_
        try simp only [Act.put, pA, pB, pC]
        refine rdH (i := 6) rfl (fun K hK => ?_)
        go_simp
        refine (HI0.out _ _ _ G0).mono ?_
        rintro e w8 ⟨rfl, X8, G8⟩
        have hK8 := HK0.out _ _ _ G8
        go_wp2_with fail
        refine hK.out _ _ ?_ (fun hHeld => ?_)
        · ((try dsimp only); first | with_reducible assumption | exact hK8 | exact hK9)
        clear hK K
        try simp only [Act.put, pA, pB, pC]
        refine tkQ 7 (oi := ⟨some 206, .move (.tmp 205), 4, "law.go:120", #[⟨6, .data⟩, ⟨6, .chain⟩], none⟩) rfl ?_
        try simp only [Act.put, pA, pB, pC]
        refine tkQ 8 (oi := ⟨some 207, .move (.tmp 15), 42, "law.go:120", #[⟨7, .guard⟩], some (7, true)⟩) rfl ?_
        try simp only [Act.put, pA, pB, pC]
        refine tkQ 9 (oi := ⟨some 208, .indexAddr 42 (.tmp 207) (.const (.int .i64 1)), 0, "law.go:120", #[⟨8, .data⟩, ⟨7, .guard⟩], some (7, true)⟩) rfl ?_
        try simp only [Act.put, pA, pB, pC]
        refine tkQ 10 (oi := ⟨some 209, .load 31 (.tmp 208), 31, "law.go:120", #[⟨9, .data⟩, ⟨7, .guard⟩], some (7, true)⟩) rfl ?_
        try simp only [Act.put, pA, pB, pC]
        refine tkQ 11 (oi := ⟨some 210, .move (.tmp 16), 43, "law.go:120", #[⟨7, .guard⟩], some (7, true)⟩) rfl ?_
        try simp only [Act.put, pA, pB, pC]
        refine tkQ 12 (oi := ⟨some 211, .indexAddr 43 (.tmp 210) (.const (.int .i64 1)), 0, "law.go:120", #[⟨11, .data⟩, ⟨7, .guard⟩], some (7, true)⟩) rfl ?_
        try simp only [Act.put, pA, pB, pC]
        refine tkQ 13 (oi := ⟨some 212, .load 38 (.tmp 211), 38, "law.go:120", #[⟨12, .data⟩, ⟨7, .guard⟩], some (7, true)⟩) rfl ?_
        try simp only [Act.put, pA, pB, pC]
        refine rdH (i := 14) rfl (fun K hK => ?_)
        go_simp
        refine (HI1.out _ _ _ G8).mono ?_
        rintro e w9 ⟨rfl, X9, G9⟩
        have hK9 := HK0.out _ _ _ G9
        go_wp2_with fail
        refine hK.out _ _ ?_ (fun hHeld => ?_)
        · ((try dsimp only); first | with_reducible assumption | exact hK8 | exact hK9)
        clear hK K
        try simp only [Act.put, pA, pB, pC]
        refine tkQ 15 (oi := ⟨some 214, .pick (.tmp 206) (.tmp 213) (.const (.bool false)), 4, "law.go:120", #[⟨7, .data⟩, ⟨14, .data⟩], none⟩) rfl ?_
        try simp only [Act.put, pA, pB, pC]
        refine tkQ 16 (oi := ⟨some 4, .assign (.tmp 214), 4, "law.go:120", #[⟨15, .data⟩, ⟨14, .chain⟩, ⟨0, .phase⟩, ⟨1, .phase⟩, ⟨2, .phase⟩, ⟨3, .phase⟩, ⟨4, .phase⟩, ⟨5, .phase⟩, ⟨6, .phase⟩, ⟨7, .phase⟩, ⟨8, .phase⟩, ⟨9, .phase⟩, ⟨10, .phase⟩, ⟨11, .phase⟩, ⟨12, .phase⟩, ⟨13, .phase⟩, ⟨14, .phase⟩, ⟨15, .phase⟩], none⟩) rfl ?_
        try simp only [Act.put, pA, pB, pC]
        refine wpAnyH_done (by kernel_rfl) ?_ _
        have HZ := hide G9.gr
        clear hHeld hK0 hK8 hK9 HK0 HI0 HI1 G0 G8 G9
        go_wp2
        go_ret
        exact ⟨rfl, HZ.out⟩
end Go.Proofs.YtcbiloomnkbalaaGreatDoor
