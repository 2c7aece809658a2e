/- Texts joined: Wo0, Wo1, Wo2, Wo3. -/
import Derived.Test.YtnonghacjfgnmaaJyAb
import Derived.BigQuiet
import Derived.RegionTactic
import Derived.ChangeAlike
/- Two regions of a device beside the document's: how they lie. -/
namespace Go.Proofs.Ytnonghacjfgnmaa
open Go.RowKit Ap
attribute [local go_sem ↓] Go.wp_at_zero Go.wp_at_succ

theorem pcn_cnt {size at_ m C : Nat} (hs : 0 < size) (h : at_ + m ≤ C * size) : pcn size at_ m ≤ C := by
  unfold pcn
  split
  · omega
  · have h1 : (at_ + m - 1) / size < C := (Nat.div_lt_iff_lt_mul hs).2 (by omega)
    exact Nat.le_trans (Nat.sub_le _ _) h1
theorem rgo_cnt (m : Nat) (s : Dv) : (rgo m s).2.cnt ≤ s.cnt + m := by
  induction m generalizing s with
  | zero => exact Nat.le_refl _
  | succ m ih =>
    have h1 := s.next_cnt
    rw [rgo]
    split
    · have := ih s.next; omega
    · show s.next.cnt ≤ _; omega
theorem wgo_cnt (f : Nat → Bool) (m k : Nat) (s : Dv) : (wgo f m k s).2.2.cnt ≤ s.cnt + 2 * m ∧ (wgo f m k s).1 ≤ m := by
  induction m generalizing k s with
  | zero => exact ⟨Nat.le_refl _, Nat.le_refl _⟩
  | succ m ih =>
    have h1 := s.next_cnt
    have h2 := s.next.next_cnt
    rw [wgo]
    split
    · split
      · have := ih (k + 1) s.next
        exact ⟨by show (wgo f m (k + 1) s.next).2.2.cnt ≤ _; omega, by show (wgo f m (k + 1) s.next).1 + 1 ≤ _; omega⟩
      · split
        · have := ih (k + 1) s.next.next
          exact ⟨by show (wgo f m (k + 1) s.next.next).2.2.cnt ≤ _; omega, by show (wgo f m (k + 1) s.next.next).1 + 1 ≤ _; omega⟩
        · exact ⟨by show s.next.next.cnt ≤ _; omega, by show 0 ≤ _; omega⟩
    · exact ⟨by show s.next.cnt ≤ _; omega, by show 0 ≤ _; omega⟩
section
variable {w0 w w' w'' : World} {n size g : Nat} {p p' : Px}
theorem secs_abs {L : Nat → Nat} {D : List Nat} {W : List Wt} (hD : D.length = n * size) (hW : Fits n size W) : secs n size (stlP size L D (abs W) (abs W).length) = stlR L (abs W) (secs n size D) (abs W).length := by
  rw [← stl_abs]; exact secs_stl hD hW _
theorem same_sync {k' : Dk} {D' : List Nat} {W' : List Wt} {q' : Rk} (h : PxSame n size p) (hd : DiskAt w p.k n size p.D p.W) (e1 : (D', abs W') = (if p.s.goes then syncA size (p.D, abs p.W) else (p.D, abs p.W))) (e2 : rst q' = (if p.t.goes then rsyncA size (rst p.q) else rst p.q)) : PxSame n size ⟨p.b, p.s.next, k', D', W', p.c, p.t.next, q'⟩ := by
  rw [h.st] at e1
  cases hg : p.t.goes with
  | true =>
    rw [hg, if_pos rfl] at e1 e2
    obtain ⟨e3, e4⟩ := Prod.mk.inj e1
    refine ⟨by show p.s.next = p.t.next; rw [h.st], ?_, ?_⟩
    · show secs n size D' = (rst q').1
      rw [e2, e3, rsyncA, ← h.waits, ← h.rows]
      exact secs_abs hd.len hd.fitsW
    · show abs W' = (rst q').2
      rw [e2, e4]; rfl
  | false =>
    rw [hg] at e1 e2
    obtain ⟨e3, e4⟩ := Prod.mk.inj e1
    refine ⟨by show p.s.next = p.t.next; rw [h.st], ?_, ?_⟩
    · show secs n size D' = (rst q').1
      rw [e2, e3]; exact h.rows
    · show abs W' = (rst q').2
      rw [e2, e4]; exact h.waits
theorem same_arm (h : PxSame n size p) (m : Int) : PxSame n size ⟨p.b, p.s.armed m, p.k, p.D, p.W, p.c, p.t.armed m, p.q⟩ := ⟨by show p.s.armed m = p.t.armed m; rw [h.st], h.rows, h.waits⟩
theorem armed_cnt (s : Dv) (m : Int) : (s.armed m).cnt = s.cnt := by unfold Dv.armed; split <;> rfl
theorem same_crash {k' : Dk} {D' : List Nat} {q' : Rk} {F : List (Int × Int)} (h : PxSame n size p) (hd : DiskAt w p.k n size p.D p.W) (e1 : (D', abs []) = crashA size F (p.D, abs p.W)) (e2 : rst q' = rcrashA size F (rst p.q)) : PxSame n size ⟨p.b, Dv.anew, k', D', [], p.c, Dv.anew, q'⟩ := by
  obtain ⟨e3, e4⟩ := Prod.mk.inj e1
  refine ⟨rfl, ?_, ?_⟩
  · show secs n size D' = (rst q').1
    rw [e2, e3, rcrashA, ← h.waits, ← h.rows]
    exact secs_abs hd.len hd.fitsW
  · show abs [] = (rst q').2
    rw [e2]; rfl
/-- What the document's device shows is what the program's shows. -/
theorem same_shows (h : PxSame n size p) (hd : DiskAt w p.k n size p.D p.W) (i : Nat) (hi : i < n) : rrbytes n (rst p.q) (i : Int) = secOf size (now size p.D (abs p.W)) i := by
  unfold rrbytes
  rw [if_pos (by omega), now_found hd.len hd.fitsW i hi, Int.toNat_natCast]
  exact (found_ref hi h.waits h.rows).symm
theorem PxAt.away (h : PxAt w0 w n size p) {i : Nat} {c : Array Value} {t : TypeId} {fr : Nat × Nat} (ho : w.heap[i]? = some (.cells c t fr)) (h1 : t ≠ 132) (h2 : t ≠ 5) (h3 : t ≠ 164) (h4 : t ≠ 46) (h5 : t ≠ 135) (h6 : t ≠ 31) (h7 : t ≠ 141) (h8 : t ≠ 104) : ¬ p.all i := by
  rintro ((e | ⟨x, hx, e⟩) | e | e | e)
  · exact h.dev.disk.disk.other_off ho h1 h2 h3 e
  · have h9 := (h.dev.disk.disk.waits x hx).2.2.2
    rw [e, ho] at h9
    simp at h9
    exact h2 h9.2.1
  · exact h.rd.ref.other_off ho h5 h6 h7 h2 e
  · have := h.dev.dev.head; rw [← e, ho] at this; simp at this; exact h4 this.2.1
  · have := h.rd.dev.head; rw [← e, ho] at this; simp at this; exact h8 this.2.1
end
/-- A region and the document's. -/
structure Pl where
  r : Nat
  q : Nat
  F : Nat
  C : Nat
def rV : Option Pl → Value
  | none => .pointer none
  | some o => .pointer (some ⟨o.r, 0, none⟩)
def qV : Option Pl → Value
  | none => .pointer none
  | some o => .pointer (some ⟨o.q, 0, none⟩)
def wocells (b c : Nat) (x y : Option Pl) : List Value := [.pointer (some ⟨b, 0, none⟩), .pointer (some ⟨c, 0, none⟩), rV x, rV y, qV x, qV y]
structure PlAt (w : World) (n b c : Nat) (o : Pl) : Prop where
  r : RgAt w o.r b o.F o.C
  q : QgAt w o.q c o.F o.C
  fit : o.F + o.C ≤ n
/-- The two regions, the device, and the document's. -/
structure St (w0 w : World) (n size g : Nat) (p : Px) (x y : Option Pl) : Prop where
  px : PxAt w0 w n size p
  same : PxSame n size p
  head : w.heap[g]? = some (.cells (wocells p.b p.c x y).toArray 54 (0, 0))
  low : w0.heap.size ≤ g
  fst : ∀ o, x = some o → PlAt w n p.b p.c o
  snd : ∀ o, y = some o → PlAt w n p.b p.c o
section
variable {w0 w w' w'' : World} {n size g : Nat} {p p' : Px} {x y : Option Pl}
theorem PlAt.grown {b c : Nat} {o : Pl} (h : PlAt w n b c o) (hg : w.grownBy w' none) : PlAt w' n b c o := ⟨h.r.grown hg, h.q.grown hg, h.fit⟩
theorem PlAt.kept {b c : Nat} {o : Pl} {S : Nat → Prop} (h : PlAt w n b c o) (hk : Kept w w' S) (h1 : ¬ S o.r) (h2 : ¬ S o.q) : PlAt w' n b c o := ⟨h.r.kept hk h1, h.q.kept hk h2, h.fit⟩
theorem PlAt.moved {o : Pl} (h : PlAt w n p.b p.c o) (hp : PxAt w0 w n size p) (m : PxM w w' p p') : PlAt w' n p'.b p'.c o := by
  rw [m.eb, m.ec]
  exact h.kept m.kept (fun e => hp.away h.r.head (by decide) (by decide) (by decide) (by decide) (by decide) (by decide) (by decide) (by decide) (Px.own_all e)) (fun e => hp.away h.q.head (by decide) (by decide) (by decide) (by decide) (by decide) (by decide) (by decide) (by decide) (Px.own_all e))
theorem St.then (h : St w0 w n size g p x y) (hg : w.grownBy w' none) : St w0 w' n size g p x y :=
  ⟨h.px.then hg, h.same, (hg.block g (row_lt h.head) (by simp)).trans h.head, h.low, fun o e => (h.fst o e).grown hg, fun o e => (h.snd o e).grown hg⟩
theorem St.off (h : St w0 w n size g p x y) : ¬ p.all g := h.px.away h.head (by decide) (by decide) (by decide) (by decide) (by decide) (by decide) (by decide) (by decide)
theorem St.moved (h : St w0 w n size g p x y) (m : PxW w0 w w' n size p p') (hs : PxSame n size p') : St w0 w' n size g p' x y := by
  refine ⟨m.z, hs, ?_, h.low, fun o e => (h.fst o e).moved h.px m.mv, fun o e => (h.snd o e).moved h.px m.mv⟩
  rw [m.mv.eb, m.mv.ec]
  exact m.mv.kept.at h.head (fun e => h.off (Px.own_all e))
theorem St.c0 (h : St w0 w n size g p x y) : w.cell? ⟨g, 0, none⟩ = some (.pointer (some ⟨p.b, 0, none⟩)) := cell_row h.head 0
theorem St.c1 (h : St w0 w n size g p x y) : w.cell? ⟨g, 1, none⟩ = some (.pointer (some ⟨p.c, 0, none⟩)) := cell_row h.head 1
theorem St.c2 (h : St w0 w n size g p x y) : w.cell? ⟨g, 2, none⟩ = some (rV x) := cell_row h.head 2
theorem St.c3 (h : St w0 w n size g p x y) : w.cell? ⟨g, 3, none⟩ = some (rV y) := cell_row h.head 3
theorem St.c4 (h : St w0 w n size g p x y) : w.cell? ⟨g, 4, none⟩ = some (qV x) := cell_row h.head 4
theorem St.c5 (h : St w0 w n size g p x y) : w.cell? ⟨g, 5, none⟩ = some (qV y) := cell_row h.head 5
theorem St.free (h : St w0 w n size g p x y) (j : Nat) : w.frozen? ⟨g, j, none⟩ = false := free_row h.head j
/-- The block of the two is written anew. -/
theorem St.set {x' y' : Option Pl} (h : St w0 w n size g p x y) (hg : w.grownBy w' (some g)) (hb : w'.heap[g]? = some (.cells (wocells p.b p.c x' y').toArray 54 (0, 0))) (h1 : ∀ o, x' = some o → PlAt w n p.b p.c o) (h2 : ∀ o, y' = some o → PlAt w n p.b p.c o) : St w0 w' n size g p x' y' := by
  have hk : Kept w w' (fun i => i = g) := Kept.of hg (fun _ e _ => (Option.some.inj e).symm)
  have hne : ∀ o, PlAt w n p.b p.c o → PlAt w' n p.b p.c o := by
    intro o ho
    refine ho.kept hk (fun e => ?_) (fun e => ?_)
    · have e : o.r = g := e
      have := ho.r.head; rw [e, h.head] at this; simp at this
    · have e : o.q = g := e
      have := ho.q.head; rw [e, h.head] at this; simp at this
  refine ⟨h.px.other hk (fun i hi e => by have e : i = g := e; exact h.off (e ▸ hi)) (fun i e => by have e : i = g := e; rw [e]; exact h.low), h.same, hb, h.low, fun o e => hne o (h1 o e), fun o e => hne o (h2 o e)⟩
end
end Go.Proofs.Ytnonghacjfgnmaa
/- Reads and writes of a region that may not be; a region is taken. -/
namespace Go.Proofs.Ytnonghacjfgnmaa
open Go.RowKit Ap
attribute [local go_sem ↓] Go.wp_at_zero Go.wp_at_succ

section
variable {w0 w : World} {n size b r F C lo c : Nat} {s : Dv} {k : Dk} {D : List Nat} {W : List Wt} {q : Rk}
set_option maxRecDepth 20000 in
set_option maxHeartbeats 1000000 in
theorem gWrite_bad (h : Dev w0 w n size b s k D W) (hr : RgAt w r b F C) (hC : C ≤ 65536) (at_ : Int) (m cap : Nat) (ao : Option Addr) (hat : at_ ≤ 9223372036854775807) (_hm : m ≤ 9223372036854775807) (hbad : mcode (C * size) at_ m = 2) :
    Calls Try.prog 9 #[.pointer (some ⟨r, 0, none⟩), .int .i64 at_, .slice ao m cap] w fun e w' => e = .returned (.int .i64 2) ∧ w.grownBy w' none := by
  have HM : Hid (∀ w1 : World, w.grownBy w1 none → Calls Try.prog 39 #[.pointer (some ⟨r, 0, none⟩), .int .i64 at_, .int .i64 (m : Int)] w1 fun e w' => e = .returned (.int .i64 2) ∧ w1.grownBy w' none) := by
    intro w1 hg
    have := gmay_at (h.then hg) (hr.grown hg) hC at_ m hat
    rw [hbad] at this
    exact this.mono (by rintro e w' ⟨rfl, q, rfl⟩; exact ⟨rfl, grown_drewN _ _ _⟩)
  have g1 := World.grownBy_alloc w (.cells #[.pointer (some ⟨r, 0, none⟩)] 22) none
  have g2 := World.grownBy_alloc (w.alloc (.cells #[.pointer (some ⟨r, 0, none⟩)] 22)) (.cells #[.slice ao m cap] 31) none
  have z1 : (w.alloc (.cells #[.pointer (some ⟨r, 0, none⟩)] 22)).heap.size = w.heap.size + 1 := Array.size_push ..
  have n1 : (w.alloc (.cells #[.pointer (some ⟨r, 0, none⟩)] 22)).heap[w.heap.size]? = some (.cells #[.pointer (some ⟨r, 0, none⟩)] 22 (0, 0)) := heap_alloc_new w _
  have n2 := heap_alloc_new (w.alloc (.cells #[.pointer (some ⟨r, 0, none⟩)] 22)) (.cells #[.slice ao m cap] 31)
  rw [z1] at n2
  have n1' := (g2.block _ (row_lt n1) (by simp)).trans n1
  have G1 := hide (grown_trans g1 g2)
  have c0 : ((w.alloc (.cells #[.pointer (some ⟨r, 0, none⟩)] 22)).alloc (.cells #[.slice ao m cap] 31)).cell? ⟨w.heap.size, 0, none⟩ = some (.pointer (some ⟨r, 0, none⟩)) := cell_row (l := [_]) n1' 0
  have c1 : ((w.alloc (.cells #[.pointer (some ⟨r, 0, none⟩)] 22)).alloc (.cells #[.slice ao m cap] 31)).cell? ⟨w.heap.size + 1, 0, none⟩ = some (.slice ao m cap) := cell_row (l := [_]) n2 0
  clear h hr g1 g2 z1 n1 n2 n1' hbad
  go_enter Try.func9, Try.ntmps9
  go_wp2_with fail
  generalize (w.alloc (.cells #[.pointer (some ⟨r, 0, none⟩)] 22)).alloc (.cells #[.slice ao m cap] 31) = w1 at *
  generalize w.heap.size + 1 = bb at *
  generalize w.heap.size = br at *
  refine (HM.out _ G1.out).mono ?_
  rintro e w2 ⟨rfl, g2⟩
  have G2 := hide (grown_trans G1.out g2)
  clear g2 c0 c1 HM G1
  go_wp2
  go_ret
  exact ⟨rfl, G2.out⟩
set_option maxRecDepth 20000 in
set_option maxHeartbeats 1000000 in
theorem qRead_bad (h : RDev w lo n size c s q) (hr : QgAt w r c F C) (hC : C ≤ 65536) (at_ m : Int) (hat : at_ ≤ 9223372036854775807) (hbad : mcode (C * size) at_ m = 2) :
    Calls Try.prog 61 #[.pointer (some ⟨r, 0, none⟩), .int .i64 at_, .int .i64 m] w fun e w' => e = .returned (.tuple #[.slice none 0 0, .int .i64 2]) ∧ w.grownBy w' none := by
  have H : Hid (Calls Try.prog 87 #[.pointer (some ⟨r, 0, none⟩), .int .i64 at_, .int .i64 m] w fun e w' => e = .returned (.bool true) ∧ w.grownBy w' none) := by
    have := qwrong_at h hr hC at_ m hat
    rw [hbad] at this
    exact this.mono (by rintro e w' ⟨rfl, p, rfl⟩; exact ⟨rfl, grown_drewN _ _ _⟩)
  clear h hr hbad
  go_enter Try.func61, Try.ntmps61
  go_wp2_with fail
  refine H.out.mono ?_
  rintro e w2 ⟨rfl, g2⟩
  have G2 := hide g2
  clear g2 H
  go_wp2
  go_ret2
  exact ⟨rfl, G2.out⟩
set_option maxRecDepth 20000 in
set_option maxHeartbeats 1000000 in
theorem qWrite_bad (h : RDev w lo n size c s q) (hr : QgAt w r c F C) (hC : C ≤ 65536) (at_ : Int) (m cap : Nat) (ao : Option Addr) (hat : at_ ≤ 9223372036854775807) (_hm : m ≤ 9223372036854775807) (hbad : mcode (C * size) at_ m = 2) :
    Calls Try.prog 62 #[.pointer (some ⟨r, 0, none⟩), .int .i64 at_, .slice ao m cap] w fun e w' => e = .returned (.int .i64 2) ∧ w.grownBy w' none := by
  have H : Hid (Calls Try.prog 87 #[.pointer (some ⟨r, 0, none⟩), .int .i64 at_, .int .i64 (m : Int)] w fun e w' => e = .returned (.bool true) ∧ w.grownBy w' none) := by
    have := qwrong_at h hr hC at_ m hat
    rw [hbad] at this
    exact this.mono (by rintro e w' ⟨rfl, p, rfl⟩; exact ⟨rfl, grown_drewN _ _ _⟩)
  clear h hr hbad
  go_enter Try.func62, Try.ntmps62
  go_wp2_with fail
  refine H.out.mono ?_
  rintro e w2 ⟨rfl, g2⟩
  have G2 := hide g2
  clear g2 H
  go_wp2
  go_ret
  exact ⟨rfl, G2.out⟩
end
end Go.Proofs.Ytnonghacjfgnmaa
/- A region is taken. -/
namespace Go.Proofs.Ytnonghacjfgnmaa
open Go.RowKit Ap
attribute [local go_sem ↓] Go.wp_at_zero Go.wp_at_succ

section
variable {w0 w : World} {n size g : Nat} {p : Px} {x y : Option Pl}
set_option maxRecDepth 20000 in
set_option maxHeartbeats 4000000 in
theorem takes_bad (h : St w0 w n size g p x y) (k F C : Int) (hF : F ≤ 9223372036854775807) (hok : ¬ spanOk n F C) :
    Calls Try.prog 20 #[.pointer (some ⟨g, 0, none⟩), .int .i64 k, .agg #[.int .i64 F, .int .i64 C]] w fun e w' => e = .returned (.bool true) ∧ w.grownBy w' none := by
  have G0 := hide (World.grownBy_alloc w (.cells #[.int .i64 F, .int .i64 C] 25) none)
  have HOK := hide hok
  clear hok
  have g1 := World.grownBy_alloc w (.cells #[.int .i64 F, .int .i64 C] 25) none
  have HS := hide (h.then g1)
  have E := span_new w F C
  have e0 := E.1
  have e1 := E.2
  have c0 := HS.out.c0
  have c1 := HS.out.c1
  clear E g1 h
  go_enter Try.func20, Try.ntmps20
  go_wp2_with fail
  generalize w.alloc (.cells #[.int .i64 F, .int .i64 C] 25) = w1 at *
  generalize w.heap.size = z at *
  go_region_held3 (fun w' => w'.cell? ⟨g, 0, none⟩ = some (.pointer (some ⟨p.b, 0, none⟩)) ∧ w'.cell? ⟨g, 1, none⟩ = some (.pointer (some ⟨p.c, 0, none⟩)) ∧ w'.cell? ⟨z, 0, none⟩ = some (.int .i64 F) ∧ w'.cell? ⟨z, 1, none⟩ = some (.int .i64 C)) (first | exact ⟨c0, c1, e0, e1⟩ | assumption | go_keep) (first
    | (go_at_call 16; refine (gnew_bad (HS.out.px.dev.then (grown_drew _ _)) F C hF HOK.out).mono ?_; rintro e w2 ⟨rfl, g2⟩; have g2' := grown_trans (grown_drew w1 none) g2; have hS2 : w2.cell? ⟨g, 0, none⟩ = some (.pointer (some ⟨p.b, 0, none⟩)) ∧ w2.cell? ⟨g, 1, none⟩ = some (.pointer (some ⟨p.c, 0, none⟩)) ∧ w2.cell? ⟨z, 0, none⟩ = some (.int .i64 F) ∧ w2.cell? ⟨z, 1, none⟩ = some (.int .i64 C) := ⟨g2'.cell c0 (by simp), g2'.cell c1 (by simp), g2'.cell e0 (by simp), g2'.cell e1 (by simp)⟩; have G2 := hide g2'; clear g2 g2'))
  obtain ⟨d0, d1, d2, d3⟩ := hS2
  clear c0 c1 e0 e1
  go_wp2_with fail
  go_region_held3 (fun w' => w'.cell? ⟨g, 0, none⟩ = some (.pointer (some ⟨p.b, 0, none⟩)) ∧ w'.cell? ⟨g, 1, none⟩ = some (.pointer (some ⟨p.c, 0, none⟩)) ∧ w'.cell? ⟨z, 0, none⟩ = some (.int .i64 F) ∧ w'.cell? ⟨z, 1, none⟩ = some (.int .i64 C)) (first | exact ⟨d0, d1, d2, d3⟩ | assumption | go_keep) (first
    | (go_at_call 58; refine (qnew_bad ((HS.out.px.rd.then G2.out).then (grown_drew _ _)) F C hF HOK.out).mono ?_; rintro e w3 ⟨rfl, g3⟩; have g3' := grown_trans (grown_drew w2 none) g3; have hS3 : w3.cell? ⟨g, 0, none⟩ = some (.pointer (some ⟨p.b, 0, none⟩)) ∧ w3.cell? ⟨g, 1, none⟩ = some (.pointer (some ⟨p.c, 0, none⟩)) ∧ w3.cell? ⟨z, 0, none⟩ = some (.int .i64 F) ∧ w3.cell? ⟨z, 1, none⟩ = some (.int .i64 C) := ⟨g3'.cell d0 (by simp), g3'.cell d1 (by simp), g3'.cell d2 (by simp), g3'.cell d3 (by simp)⟩; have G3 := hide g3'; clear g3 g3'))
  go_wp2
  go_ret
  exact ⟨rfl, grown_trans G0.out (grown_trans G2.out G3.out)⟩
set_option maxRecDepth 20000 in
set_option maxHeartbeats 4000000 in
theorem takes_ok0 (h : St w0 w n size g p x y) (F C : Nat) (hok : spanOk n F C) :
    Calls Try.prog 20 #[.pointer (some ⟨g, 0, none⟩), .int .i64 0, .agg #[.int .i64 (F : Int), .int .i64 (C : Int)]] w fun e w' => e = .returned (.bool true) ∧ ∃ r q, St w0 w' n size g p (some ⟨r, q, F, C⟩) y := by
  have HOK := hide hok
  clear hok
  have g1 := World.grownBy_alloc w (.cells #[.int .i64 (F : Int), .int .i64 (C : Int)] 25) none
  have HS := hide (h.then g1)
  have E := span_new w (F : Int) (C : Int)
  have e0 := E.1
  have e1 := E.2
  have c0 := HS.out.c0
  have c1 := HS.out.c1
  clear E g1 h
  go_enter Try.func20, Try.ntmps20
  go_wp2_with fail
  generalize w.alloc (.cells #[.int .i64 (F : Int), .int .i64 (C : Int)] 25) = w1 at *
  generalize w.heap.size = z at *
  go_region_held3 (fun w' => w'.cell? ⟨g, 0, none⟩ = some (.pointer (some ⟨p.b, 0, none⟩)) ∧ w'.cell? ⟨g, 1, none⟩ = some (.pointer (some ⟨p.c, 0, none⟩)) ∧ w'.cell? ⟨z, 0, none⟩ = some (.int .i64 (F : Int)) ∧ w'.cell? ⟨z, 1, none⟩ = some (.int .i64 (C : Int))) (first | exact ⟨c0, c1, e0, e1⟩ | assumption | go_keep) (first
    | (go_at_call 16; refine (gnew_at (HS.out.px.dev.then (grown_drew _ _)) F C HOK.out).mono ?_; rintro e w2 ⟨r, rfl, r2, l2, g2⟩; have g2' := grown_trans (grown_drew w1 none) g2; have hS2 : w2.cell? ⟨g, 0, none⟩ = some (.pointer (some ⟨p.b, 0, none⟩)) ∧ w2.cell? ⟨g, 1, none⟩ = some (.pointer (some ⟨p.c, 0, none⟩)) ∧ w2.cell? ⟨z, 0, none⟩ = some (.int .i64 (F : Int)) ∧ w2.cell? ⟨z, 1, none⟩ = some (.int .i64 (C : Int)) := ⟨g2'.cell c0 (by simp), g2'.cell c1 (by simp), g2'.cell e0 (by simp), g2'.cell e1 (by simp)⟩; have G2 := hide (And.intro g2' r2); clear g2 g2' r2 l2))
  obtain ⟨d0, d1, d2, d3⟩ := hS2
  clear c0 c1 e0 e1
  go_wp2_with fail
  go_region_held3 (fun w' => w'.cell? ⟨g, 0, none⟩ = some (.pointer (some ⟨p.b, 0, none⟩)) ∧ w'.cell? ⟨g, 1, none⟩ = some (.pointer (some ⟨p.c, 0, none⟩)) ∧ w'.cell? ⟨z, 0, none⟩ = some (.int .i64 (F : Int)) ∧ w'.cell? ⟨z, 1, none⟩ = some (.int .i64 (C : Int))) (first | exact ⟨d0, d1, d2, d3⟩ | assumption | go_keep) (first
    | (go_at_call 58; refine (qnew_at ((HS.out.px.rd.then G2.out.1).then (grown_drew _ _)) F C HOK.out).mono ?_; rintro e w3 ⟨q, rfl, r3, l3, g3⟩; have g3' := grown_trans (grown_drew w2 none) g3; have hS3 : w3.cell? ⟨g, 0, none⟩ = some (.pointer (some ⟨p.b, 0, none⟩)) ∧ w3.cell? ⟨g, 1, none⟩ = some (.pointer (some ⟨p.c, 0, none⟩)) ∧ w3.cell? ⟨z, 0, none⟩ = some (.int .i64 (F : Int)) ∧ w3.cell? ⟨z, 1, none⟩ = some (.int .i64 (C : Int)) := ⟨g3'.cell d0 (by simp), g3'.cell d1 (by simp), g3'.cell d2 (by simp), g3'.cell d3 (by simp)⟩; have G3 := hide (And.intro g3' r3); clear g3 g3' r3 l3))
  clear d0 d1 d2 d3 hS3
  have H3 := hide ((HS.out.then G2.out.1).then G3.out.1)
  have HP : Hid (PlAt w3 n p.b p.c ⟨r, q, F, C⟩) := ⟨G2.out.2.grown G3.out.1, G3.out.2, by have := HOK.out; unfold spanOk at this; show F + C ≤ n; omega⟩
  have a1 := H3.out.c2
  have a2 := H3.out.c4
  have a3 := H3.out.free 2
  have a4 := H3.out.free 4
  go_wp2_with fail
  go_region
  all_goals
    go_wp2
    go_ret
    refine ⟨rfl, r, q, ?_⟩
    have r1 := row_setCell H3.out.head 2 (.pointer (some ⟨r, 0, none⟩))
    have r2 := row_setCell r1 4 (.pointer (some ⟨q, 0, none⟩))
    have gg := grown_then (grown_setCell w3 g 2 (.pointer (some ⟨r, 0, none⟩))) (grown_setCell _ g 4 (.pointer (some ⟨q, 0, none⟩))) (fun j e => Or.inr e)
    exact (H3.out.set (x' := (some ⟨r, q, F, C⟩)) (y' := y) gg r2 (fun o e => by cases e; exact HP.out) H3.out.snd).then (grown_drew _ _)
set_option maxRecDepth 20000 in
set_option maxHeartbeats 4000000 in
theorem takes_ok1 (h : St w0 w n size g p x y) (F C : Nat) (hok : spanOk n F C) :
    Calls Try.prog 20 #[.pointer (some ⟨g, 0, none⟩), .int .i64 1, .agg #[.int .i64 (F : Int), .int .i64 (C : Int)]] w fun e w' => e = .returned (.bool true) ∧ ∃ r q, St w0 w' n size g p x (some ⟨r, q, F, C⟩) := by
  have HOK := hide hok
  clear hok
  have g1 := World.grownBy_alloc w (.cells #[.int .i64 (F : Int), .int .i64 (C : Int)] 25) none
  have HS := hide (h.then g1)
  have E := span_new w (F : Int) (C : Int)
  have e0 := E.1
  have e1 := E.2
  have c0 := HS.out.c0
  have c1 := HS.out.c1
  clear E g1 h
  go_enter Try.func20, Try.ntmps20
  go_wp2_with fail
  generalize w.alloc (.cells #[.int .i64 (F : Int), .int .i64 (C : Int)] 25) = w1 at *
  generalize w.heap.size = z at *
  go_region_held3 (fun w' => w'.cell? ⟨g, 0, none⟩ = some (.pointer (some ⟨p.b, 0, none⟩)) ∧ w'.cell? ⟨g, 1, none⟩ = some (.pointer (some ⟨p.c, 0, none⟩)) ∧ w'.cell? ⟨z, 0, none⟩ = some (.int .i64 (F : Int)) ∧ w'.cell? ⟨z, 1, none⟩ = some (.int .i64 (C : Int))) (first | exact ⟨c0, c1, e0, e1⟩ | assumption | go_keep) (first
    | (go_at_call 16; refine (gnew_at (HS.out.px.dev.then (grown_drew _ _)) F C HOK.out).mono ?_; rintro e w2 ⟨r, rfl, r2, l2, g2⟩; have g2' := grown_trans (grown_drew w1 none) g2; have hS2 : w2.cell? ⟨g, 0, none⟩ = some (.pointer (some ⟨p.b, 0, none⟩)) ∧ w2.cell? ⟨g, 1, none⟩ = some (.pointer (some ⟨p.c, 0, none⟩)) ∧ w2.cell? ⟨z, 0, none⟩ = some (.int .i64 (F : Int)) ∧ w2.cell? ⟨z, 1, none⟩ = some (.int .i64 (C : Int)) := ⟨g2'.cell c0 (by simp), g2'.cell c1 (by simp), g2'.cell e0 (by simp), g2'.cell e1 (by simp)⟩; have G2 := hide (And.intro g2' r2); clear g2 g2' r2 l2))
  obtain ⟨d0, d1, d2, d3⟩ := hS2
  clear c0 c1 e0 e1
  go_wp2_with fail
  go_region_held3 (fun w' => w'.cell? ⟨g, 0, none⟩ = some (.pointer (some ⟨p.b, 0, none⟩)) ∧ w'.cell? ⟨g, 1, none⟩ = some (.pointer (some ⟨p.c, 0, none⟩)) ∧ w'.cell? ⟨z, 0, none⟩ = some (.int .i64 (F : Int)) ∧ w'.cell? ⟨z, 1, none⟩ = some (.int .i64 (C : Int))) (first | exact ⟨d0, d1, d2, d3⟩ | assumption | go_keep) (first
    | (go_at_call 58; refine (qnew_at ((HS.out.px.rd.then G2.out.1).then (grown_drew _ _)) F C HOK.out).mono ?_; rintro e w3 ⟨q, rfl, r3, l3, g3⟩; have g3' := grown_trans (grown_drew w2 none) g3; have hS3 : w3.cell? ⟨g, 0, none⟩ = some (.pointer (some ⟨p.b, 0, none⟩)) ∧ w3.cell? ⟨g, 1, none⟩ = some (.pointer (some ⟨p.c, 0, none⟩)) ∧ w3.cell? ⟨z, 0, none⟩ = some (.int .i64 (F : Int)) ∧ w3.cell? ⟨z, 1, none⟩ = some (.int .i64 (C : Int)) := ⟨g3'.cell d0 (by simp), g3'.cell d1 (by simp), g3'.cell d2 (by simp), g3'.cell d3 (by simp)⟩; have G3 := hide (And.intro g3' r3); clear g3 g3' r3 l3))
  clear d0 d1 d2 d3 hS3
  have H3 := hide ((HS.out.then G2.out.1).then G3.out.1)
  have HP : Hid (PlAt w3 n p.b p.c ⟨r, q, F, C⟩) := ⟨G2.out.2.grown G3.out.1, G3.out.2, by have := HOK.out; unfold spanOk at this; show F + C ≤ n; omega⟩
  have a1 := H3.out.c3
  have a2 := H3.out.c5
  have a3 := H3.out.free 3
  have a4 := H3.out.free 5
  go_wp2_with fail
  go_region
  all_goals
    go_wp2
    go_ret
    refine ⟨rfl, r, q, ?_⟩
    have r1 := row_setCell H3.out.head 3 (.pointer (some ⟨r, 0, none⟩))
    have r2 := row_setCell r1 5 (.pointer (some ⟨q, 0, none⟩))
    have gg := grown_then (grown_setCell w3 g 3 (.pointer (some ⟨r, 0, none⟩))) (grown_setCell _ g 5 (.pointer (some ⟨q, 0, none⟩))) (fun j e => Or.inr e)
    exact (H3.out.set (x' := x) (y' := (some ⟨r, q, F, C⟩)) gg r2 H3.out.fst (fun o e => by cases e; exact HP.out)).then (grown_drew _ _)
/-- A region is taken, or refused, as the document's. -/
theorem takes_any (h : St w0 w n size g p x y) (k : Bool) (F C : Int) (hF : F ≤ 9223372036854775807) :
    Calls Try.prog 20 #[.pointer (some ⟨g, 0, none⟩), .int .i64 (if k then 1 else 0), .agg #[.int .i64 F, .int .i64 C]] w fun e w' => e = .returned (.bool true) ∧ ∃ x' y', St w0 w' n size g p x' y' := by
  by_cases hok : spanOk n F C
  · obtain ⟨F', rfl⟩ := Int.eq_ofNat_of_zero_le hok.1
    obtain ⟨C', rfl⟩ := Int.eq_ofNat_of_zero_le (show 0 ≤ C by have := hok.2.1; omega)
    cases k with
    | false => exact (takes_ok0 h F' C' hok).mono (by rintro e w' ⟨rfl, r, q, h'⟩; exact ⟨rfl, _, _, h'⟩)
    | true => exact (takes_ok1 h F' C' hok).mono (by rintro e w' ⟨rfl, r, q, h'⟩; exact ⟨rfl, _, _, h'⟩)
  · exact (takes_bad h _ F C hF hok).mono (by rintro e w' ⟨rfl, g'⟩; exact ⟨rfl, _, _, h.then g'⟩)
end
end Go.Proofs.Ytnonghacjfgnmaa
/- All is as it should be. -/
namespace Go.Proofs.Ytnonghacjfgnmaa
open Go.RowKit Ap
attribute [local go_sem ↓] Go.wp_at_zero Go.wp_at_succ

section
variable {w0 w : World} {n size g : Nat} {p : Px} {x y : Option Pl}
set_option maxRecDepth 20000 in
set_option maxHeartbeats 8000000 in
theorem stands_any (h : St w0 w n size g p x y) :
    Calls Try.prog 22 #[.pointer (some ⟨g, 0, none⟩)] w fun e w' => e = .returned (.bool true) ∧ w.grownBy w' none := by
  have n1 := h.px.dev.disk.disk.shape.n1
  have HS := hide h
  have est := hide h.same.st
  have eln := hide h.same.len
  clear h
  go_enter Try.func22, Try.ntmps22
  go_wp2
  go_loopg [3] 2 (fun q i wr => ∃ j : Nat, q + j = 2 ∧ i = .int .i64 j ∧ Hid (w.grownBy wr none))
  case atStart => exact ⟨0, by omega, rfl, hide (grown_refl _ _)⟩
  case round =>
    obtain ⟨j, hkj, rfl, HR⟩ := hrel
    have H1 := hide (HS.out.then HR.out)
    by_cases hk : 0 < gk
    · have c1 := H1.out.c1
      obtain ⟨z, c2, c4, hPz⟩ : ∃ z, wr.cell? ⟨g, 2 + j, none⟩ = some (rV z) ∧ wr.cell? ⟨g, 4 + j, none⟩ = some (qV z) ∧ ∀ o, z = some o → PlAt wr n p.b p.c o := by
        have hj : j = 0 ∨ j = 1 := by omega
        rcases hj with rfl | rfl
        · exact ⟨x, H1.out.c2, H1.out.c4, H1.out.fst⟩
        · exact ⟨y, H1.out.c3, H1.out.c5, H1.out.snd⟩
      have hj0 : (0 : Int) ≤ (j : Int) := by omega
      have hj1 : (j : Int) < 2 := by omega
      cases z with
      | none =>
        simp only [rV] at c2
        go_wp2_with fail
        refine wp_region_quiet_lit (by kernel_rfl) (by kernel_rfl) ?_
        simp only [List.append]
        repeat (go_big_quiet_step (fail))
        refine wpQuiet_nil ?_
        intro _ hw'
        obtain ⟨nq, hw''⟩ := hw'
        subst hw''
        go_wp2
        go_roundg (gk - 1)
        case measure => omega
        case rel => exact ⟨j + 1, by omega, by go_num, hide (grown_trans HR.out (grown_drewN _ _ _))⟩
      | some o =>
        simp only [rV] at c2
        simp only [qV] at c4
        have HPZ := hide (hPz o rfl)
        clear hPz
        have hC : o.C ≤ 65536 := by have := HPZ.out.fit; omega
        have HQ : Hid (∀ q, St w0 (wr.drewN q) n size g p x y) := fun q => H1.out.then (grown_drewN wr q none)
        have HP : Hid (∀ q, PlAt (wr.drewN q) n p.b p.c o) := fun q => HPZ.out.grown (grown_drewN wr q none)
        obtain ⟨BY, hBY⟩ : ∃ BY : Int, BY = ((o.C * size : Nat) : Int) := ⟨_, rfl⟩
        have X1 : Hid (∀ q, Calls Try.prog 13 #[.pointer (some ⟨o.r, 0, none⟩)] (wr.drewN q) fun e w' => e = .returned (.int .i64 (p.t.cnt : Int)) ∧ w' = wr.drewN q) := fun q => by rw [← est.out]; exact gCount_at (HQ.out q).px.dev (HP.out q).r
        have X2 : Hid (∀ q, Calls Try.prog 14 #[.pointer (some ⟨o.r, 0, none⟩)] (wr.drewN q) fun e w' => e = .returned (.bool p.t.off) ∧ w' = wr.drewN q) := fun q => by rw [← est.out]; exact gDown_at (HQ.out q).px.dev (HP.out q).r
        have X3 : Hid (∀ q, Calls Try.prog 11 #[.pointer (some ⟨o.r, 0, none⟩)] (wr.drewN q) fun e w' => e = .returned (.int .i64 BY) ∧ ∃ m, w' = (wr.drewN q).drewN m) := fun q => by rw [hBY]; exact gBytes_at (HQ.out q).px.dev (HP.out q).r hC
        have X4 : Hid (∀ q, Calls Try.prog 64 #[.pointer (some ⟨o.q, 0, none⟩)] (wr.drewN q) fun e w' => e = .returned (.int .i64 BY) ∧ ∃ m, w' = (wr.drewN q).drewN m) := fun q => by rw [hBY]; exact qbytes_at (HQ.out q).px.rd (HP.out q).q hC
        clear hBY hC
        go_wp2_with fail
        refine wp_region_quiet_lit (by kernel_rfl) (by kernel_rfl) ?_
        simp only [List.append]
        repeat (go_big_quiet_step (first
          | (go_at_call 11; exact Calls.quiet_of (X3.out _))
          | (go_at_call 64; exact Calls.quiet_of (X4.out _))
          | (go_at_call 12; exact Calls.quiet_of_same (gSize_at (HQ.out _).px.dev (HP.out _).r))
          | (go_at_call 65; exact Calls.quiet_of_same (rdsize_any (HQ.out _).px.rd))
          | (go_at_call 13; exact Calls.quiet_of_same (X1.out _))
          | (go_at_call 66; exact Calls.quiet_of_same (rcount_any (HQ.out _).px.rd.dev))
          | (go_at_call 14; exact Calls.quiet_of_same (X2.out _))
          | (go_at_call 67; exact Calls.quiet_of_same (rdown_any (HQ.out _).px.rd.dev))))
        refine wpQuiet_nil ?_
        intro _ hw'
        obtain ⟨nq, hw''⟩ := hw'
        subst hw''
        go_wp2
        go_roundg (gk - 1)
        case measure => omega
        case rel => exact ⟨j + 1, by omega, by go_num, hide (grown_trans HR.out (grown_drewN _ _ _))⟩
    · have hj : j = 2 := by omega
      subst hj
      have c0 := H1.out.c0
      have c1 := H1.out.c1
      have HQ : Hid (∀ q, St w0 (wr.drewN q) n size g p x y) := fun q => H1.out.then (grown_drewN wr q none)
      have X1 : Hid (∀ q, Calls Try.prog 17 #[.pointer (some ⟨p.b, 0, none⟩)] (wr.drewN q) fun e w' => e = .returned (.int .i64 (p.t.cnt : Int)) ∧ w' = wr.drewN q) := fun q => by rw [← est.out]; exact count_any (HQ.out q).px.dev.dev
      have X2 : Hid (∀ q, Calls Try.prog 50 #[.pointer (some ⟨p.b, 0, none⟩)] (wr.drewN q) fun e w' => e = .returned (.bool p.t.off) ∧ w' = wr.drewN q) := fun q => by rw [← est.out]; exact down_any (HQ.out q).px.dev.dev
      have X3 : Hid (∀ q, Calls Try.prog 34 #[.pointer (some ⟨p.b, 0, none⟩)] (wr.drewN q) fun e w' => e = .returned (.int .i64 (p.q.V.length : Int)) ∧ w' = wr.drewN q) := fun q => by rw [eln.out]; exact dwaiting_any (HQ.out q).px.dev
      go_wp2_with fail
      go_quiet (first
        | (go_at_call 17; exact Calls.quiet_of_same (X1.out _))
        | (go_at_call 66; exact Calls.quiet_of_same (rcount_any (HQ.out _).px.rd.dev))
        | (go_at_call 50; exact Calls.quiet_of_same (X2.out _))
        | (go_at_call 67; exact Calls.quiet_of_same (rdown_any (HQ.out _).px.rd.dev))
        | (go_at_call 34; exact Calls.quiet_of_same (X3.out _))
        | (go_at_call 68; exact Calls.quiet_of_same (rdwaiting_any (HQ.out _).px.rd)))
      go_wp2
      go_ret
      exact ⟨by simp, grown_trans HR.out (grown_drewN _ _ _)⟩
end
end Go.Proofs.Ytnonghacjfgnmaa
