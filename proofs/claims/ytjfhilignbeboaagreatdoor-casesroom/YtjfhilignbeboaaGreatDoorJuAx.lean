/- Texts joined: Lw, LaF, LaC, Ra1. -/
import Derived.Test.YtjfhilignbeboaaGreatDoorJuAs
import Derived.Test.YtjfhilignbeboaaGreatDoorJuAt
import Derived.Test.YtjfhilignbeboaaGreatDoorJuAw
import Derived.Test.YtjfhilignbeboaaGreatDoorJuAm
import Derived.Test.YtjfhilignbeboaaGreatDoorJuAl
import Derived.Test.YtjfhilignbeboaaGreatDoorJuAv
import Derived.Test.YtjfhilignbeboaaGreatDoorJuAn
namespace Go.Proofs.YtjfhilignbeboaaGreatDoor
/- A law's two books, the document's, and boxes, side by side. -/
open Go.RowKit
structure Ls (w W : World) (b d c : Nat) (S : Sb) (p q : Bp) (lo : Nat) (v : Value) (Bs : List (Nat × List Value × TypeId)) : Prop where
  lk : Lk w W b S 4096 p Bs
  cp : Lk w W c S 4096 q Bs
  db : Db W lo d v S
  pq : ∀ i, p.own i → ¬ q.own i
  dp : ∀ i, dbo d v i → ¬ p.own i
  dq : ∀ i, dbo d v i → ¬ q.own i
  dx : ∀ x ∈ Bs, ¬ dbo d v x.1
section
variable {w W W' : World} {b d c : Nat} {S : Sb} {p q : Bp} {lo : Nat} {v : Value} {Bs Cs : List (Nat × List Value × TypeId)} {x y z u t s r : Nat × List Value × TypeId}
theorem Lk.other {b : Nat} {K : Nat} (h : Lk w W b S K q Bs) (k : Kept W W' p.own) (hp : ∀ i, p.own i → w.heap.size ≤ i) (hd : ∀ i, p.own i → ¬ q.own i) (hB : ∀ y ∈ Bs, ¬ p.own y.1) : Lk w W' b S K q Bs :=
  ⟨h.eb, h.bk.far k (fun i hi e => hd i e hi), ((Kept.new h.gr (fun i => w.heap.size ≤ i)).trans k (fun i _ e => hp i e)).grown (fun i hi e => by omega), h.own, fun y hy => ⟨k.at (h.bx y hy).1 (hB y hy), (h.bx y hy).2⟩⟩
theorem Ls.mt (h : Ls w W b d c S p q lo v Bs) (m : Mt W W' p S 4096 []) : Ls w W' b d c S p q lo v Bs :=
  ⟨h.lk.mt m, h.cp.other m.st h.lk.own h.pq (fun y hy => (h.lk.bx y hy).2.1), h.db.far m.st (fun i hi e => h.dp i hi e), h.pq, h.dp, h.dq, h.dx⟩
theorem Ls.then (h : Ls w W b d c S p q lo v Bs) (g : W.grownBy W' none) : Ls w W' b d c S p q lo v Bs := ⟨h.lk.then g, h.cp.then g, h.db.then g, h.pq, h.dp, h.dq, h.dx⟩
theorem Ls.box (h : Ls w W b d c S p q lo v Bs) (cs : List Value) (ty : TypeId) : Ls w (W.alloc (.cells cs.toArray ty)) b d c S p q lo v ((W.heap.size, cs, ty) :: Bs) :=
  ⟨h.lk.box cs ty, h.cp.box cs ty, h.db.then (grown_alloc W _), h.pq, h.dp, h.dq, fun y hy => by
    rcases List.mem_cons.1 hy with rfl | hy
    · exact fun e => Nat.lt_irrefl _ (h.db.lt _ e)
    · exact h.dx y hy⟩
theorem Ls.box2 (h : Ls w W b d c S p q lo v Bs) (cs ds : List Value) (s t : TypeId) : Ls w ((W.alloc (.cells cs.toArray s)).alloc (.cells ds.toArray t)) b d c S p q lo v ((W.heap.size + 1, ds, t) :: (W.heap.size, cs, s) :: Bs) := by
  have m0 := (h.box cs s).box ds t
  rw [show (W.alloc (.cells cs.toArray s)).heap.size = W.heap.size + 1 from by show (W.heap.push _).size = _; simp] at m0
  exact m0
theorem Ls.decide (h : Ls w W b d c S p q lo v Bs) (ho : S.Ok) (hT : Rk.Tab w) (room : Int) (Q : Rs.Rq) (hq : Q.Ok) : Calls Tryz.prog 9 #[.pointer (some ⟨b, 0, none⟩), .int .i64 room, Rs.rqV Q] W fun e w' => e = .returned (dcV (dec S room Q)) ∧ Ls w w' b d c S p q lo v Bs := by
  have := decide_any h.lk.bk ho room Q hq (hT.grown h.lk.gr (by simp))
  rw [h.lk.eb] at this
  exact this.mono (fun _ _ x => ⟨x.1, h.mt x.2⟩)
theorem Ls.answer (h : Ls w W b d c S p q lo v Bs) (ho : S.Ok) (Q : Rs.Rq) (hq : Q.Ok) : Calls Tryz.prog 10 #[.pointer (some ⟨b, 0, none⟩), Rs.rqV Q] W fun e w' => e = .returned (anV (ans S Q)) ∧ Ls w w' b d c S p q lo v Bs := by
  have := answer_any h.lk.bk ho Q hq
  rw [h.lk.eb] at this
  exact this.mono (fun _ _ x => ⟨x.1, h.mt x.2⟩)
theorem Ls.same (h : Ls w W b d c S p q lo v Bs) (ho : S.Ok) : Calls Tryz.prog 16 #[.pointer (some ⟨b, 0, none⟩), .pointer (some ⟨c, 0, none⟩)] W fun e w' => e = .returned (.bool true) ∧ Ls w w' b d c S p q lo v Bs :=
  (h.lk.same h.cp ho.wk).mono (fun _ _ x => ⟨x.1, h.then x.2⟩)
theorem Ls.b0 (h : Ls w W b d c S p q lo v (x :: Bs)) : W.heap[x.1]? = some (.cells x.2.1.toArray x.2.2 (0, 0)) := (h.lk.bx x (List.mem_cons_self ..)).1
theorem Ls.b1 (h : Ls w W b d c S p q lo v (y :: x :: Bs)) : W.heap[x.1]? = some (.cells x.2.1.toArray x.2.2 (0, 0)) := (h.lk.bx x (List.mem_cons_of_mem _ (List.mem_cons_self ..))).1
theorem Ls.b2 (h : Ls w W b d c S p q lo v (z :: y :: x :: Bs)) : W.heap[x.1]? = some (.cells x.2.1.toArray x.2.2 (0, 0)) := (h.lk.bx x (List.mem_cons_of_mem _ (List.mem_cons_of_mem _ (List.mem_cons_self ..)))).1
theorem Ls.b3 (h : Ls w W b d c S p q lo v (u :: z :: y :: x :: Bs)) : W.heap[x.1]? = some (.cells x.2.1.toArray x.2.2 (0, 0)) := (h.lk.bx x (List.mem_cons_of_mem _ (List.mem_cons_of_mem _ (List.mem_cons_of_mem _ (List.mem_cons_self ..))))).1
theorem Ls.b4 (h : Ls w W b d c S p q lo v (t :: u :: z :: y :: x :: Bs)) : W.heap[x.1]? = some (.cells x.2.1.toArray x.2.2 (0, 0)) := (h.lk.bx x (List.mem_cons_of_mem _ (List.mem_cons_of_mem _ (List.mem_cons_of_mem _ (List.mem_cons_of_mem _ (List.mem_cons_self ..)))))).1
theorem Ls.sub (h : Ls w W b d c S p q lo v Bs) (hs : ∀ x ∈ Cs, x ∈ Bs) : Ls w W b d c S p q lo v Cs := ⟨h.lk.sub hs, h.cp.sub hs, h.db, h.pq, h.dp, h.dq, fun x hx => h.dx x (hs x hx)⟩
end
end Go.Proofs.YtjfhilignbeboaaGreatDoor
namespace Go.Proofs.YtjfhilignbeboaaGreatDoor
/- Arguments that are a request. -/
open Go.ChangeShapes Go.WideShapes Go.ChangeAt Go.RowKit Go.Deep
section
variable {H : Type} {enc : TypeId × Value → H}
end
end Go.Proofs.YtjfhilignbeboaaGreatDoor
namespace Go.Proofs.YtjfhilignbeboaaGreatDoor
/- An argument that is a slice of changes. -/
open Go.ChangeShapes Go.WideShapes Go.ChangeAt Go.RowKit Go.Deep
section
variable {H : Type} {enc : TypeId × Value → H}
theorem cellsOf73 : Tryz.prog.cellsOf 152 = 4 := by kernel_rfl
theorem open_cg {w : World} {base n : Nat} {spare : Nat → Bool} {held : Bool} {a : Addr} {cs : List Value} {x : DataW H × List MemPlace} (hc : w.cells? base a 4 = some cs) (h : DataW.trod enc Tryz.prog w base spare held n 152 cs = some x) :
    ∃ r : Cg, a = ⟨a.block, a.off, none⟩ ∧ w.cell? ⟨a.block, a.off, none⟩ = some (.int .i64 r.k) ∧ w.cell? ⟨a.block, a.off + 1, none⟩ = some (.int .i64 r.i) ∧ w.cell? ⟨a.block, a.off + 2, none⟩ = some (.int .i64 r.s) ∧ w.cell? ⟨a.block, a.off + 3, none⟩ = some (.int .i64 r.t) := by
  obtain ⟨_, hlen, hcell⟩ := World.cells?_some hc
  obtain ⟨xs, n, _, rfl, hl, hsz, hf⟩ := DataW.trod_struct Tryz.underlying152 h
  obtain ⟨v0, v1, v2, v3, rfl⟩ := listOf4 hlen
  obtain ⟨y0, y1, y2, y3, rfl⟩ := listOf4 (show xs.length = 4 from hsz)
  clear hl hsz
  have f0 : DataW.trod enc Tryz.prog w base spare held n 3 [v0] = some y0 := by simpa [cellsOf3] using hf 0 _ rfl
  have f1 : DataW.trod enc Tryz.prog w base spare held n 3 [v1] = some y1 := by simpa [cellsOf3] using hf 1 _ rfl
  have f2 : DataW.trod enc Tryz.prog w base spare held n 3 [v2] = some y2 := by simpa [cellsOf3] using hf 2 _ rfl
  have f3 : DataW.trod enc Tryz.prog w base spare held n 3 [v3] = some y3 := by simpa [cellsOf3] using hf 3 _ rfl
  obtain ⟨b0, e0, rfl, wa⟩ := DataW.trod_int Tryz.underlying3 f0
  obtain ⟨b1, e1, rfl, wb⟩ := DataW.trod_int Tryz.underlying3 f1
  obtain ⟨b2, e2, rfl, wc⟩ := DataW.trod_int Tryz.underlying3 f2
  obtain ⟨b3, e3, rfl, wd⟩ := DataW.trod_int Tryz.underlying3 f3
  simp only [List.cons.injEq, and_true] at e0 e1 e2 e3
  subst e0 e1 e2 e3
  have g0 := hcell 0 (by omega)
  have ha : a = ⟨a.block, a.off, none⟩ := by
    have h1 : w.cell? a = some (.int .i64 b0) := by simpa [Addr.add] using g0
    have h2 : a.spot = none := by
      unfold World.cell? at h1
      split at h1
      · split at h1
        · cases h1
        · rename_i hs; simpa using hs
      · cases h1
    cases a; simp_all
  rw [ha] at hcell
  refine ⟨⟨b0, b1, b2, b3⟩, ha, ?_, ?_, ?_, ?_⟩
  · simpa [Addr.add_lit] using hcell 0 (by omega)
  · simpa [Addr.add_lit] using hcell 1 (by omega)
  · simpa [Addr.add_lit] using hcell 2 (by omega)
  · simpa [Addr.add_lit] using hcell 3 (by omega)
theorem open_cgsB {w : World} {base len n : Nat} {spare : Nat → Bool} {held : Bool} {a : Addr} {D : Nat → DataW H} {Pl : Nat → List MemPlace}
    (h : ∀ i, i < len → ∃ cs', w.cells? base (a.add (i * 4)) 4 = some cs' ∧ DataW.trod enc Tryz.prog w base spare held n 152 cs' = some (D i, Pl i)) :
    ∃ os : List Cg, os.length = len ∧ CgsAt w (some a) os := by
  have hex : ∀ i, i < len → ∃ r : Cg, ∃ blk off, some a = some (⟨blk, off, none⟩ : Addr) ∧ w.cell? ⟨blk, off + i * 4, none⟩ = some (.int .i64 r.k) ∧ w.cell? ⟨blk, off + i * 4 + 1, none⟩ = some (.int .i64 r.i) ∧ w.cell? ⟨blk, off + i * 4 + 2, none⟩ = some (.int .i64 r.s) ∧ w.cell? ⟨blk, off + i * 4 + 3, none⟩ = some (.int .i64 r.t) := by
    intro i hi
    obtain ⟨cs', hc, ht⟩ := h i hi
    obtain ⟨o, _, h1, h2, h3, h4⟩ := open_cg hc ht
    have ha : a = ⟨a.block, a.off, none⟩ := by
      obtain ⟨cs0, hc0, ht0⟩ := h 0 (by omega)
      obtain ⟨_, he, _⟩ := open_cg hc0 ht0
      simpa [Addr.add] using he
    have e1 : (a.add (i * 4)).block = a.block := by unfold Addr.add; split <;> rfl
    have e2 : (a.add (i * 4)).off = a.off + i * 4 := by rw [ha, Addr.add_lit]
    rw [e1, e2] at h1 h2 h3 h4
    exact ⟨o, a.block, a.off, by rw [← ha], h1, h2, h3, h4⟩
  clear h
  induction len with
  | zero => exact ⟨[], rfl, (fun j o h => by simp at h)⟩
  | succ k ih =>
    obtain ⟨os, h1, h2⟩ := ih (fun i hi => hex i (by omega))
    obtain ⟨o, g1⟩ := hex k (by omega)
    refine ⟨os ++ [o], by simp [h1], ?_⟩
    intro j o' hj
    by_cases hjk : j < os.length
    · rw [List.getElem?_append_left hjk] at hj; exact h2 j o' hj
    · have hlt := (List.getElem?_eq_some_iff.1 hj).1
      have hjk2 : j = k := by simp at hlt; omega
      subst hjk2
      rw [List.getElem?_append_right (by omega), h1, Nat.sub_self] at hj
      simp at hj
      subst hj
      exact g1
end
end Go.Proofs.YtjfhilignbeboaaGreatDoor
namespace Go.Proofs.YtjfhilignbeboaaGreatDoor
/- Requests out of plain numbers, part by part. -/
open Go.RowKit
attribute [local go_sem ↓] Go.wp_at_zero Go.wp_at_succ
attribute [local go_sem] Oper.semAt_some
set_option maxHeartbeats 8000000 in
theorem request_011 (k i s u t kk : Int) (hk : 1 + k % 10 = kk) (h1 : Rs.hI kk = false) (h2 : Rs.hS kk = true) (h3 : Rs.hL kk = true) (w : World) : Calls Tryz.prog 18 #[akV ⟨k, i, s, u, t⟩] w fun e w' => e = .returned (.agg #[.int .i64 kk, .int .u32 t, .int .u32 (0), .int .i64 (s % 14), .int .i64 (u % 9)]) ∧ w.grownBy w' none := by
  have HP : Hid (∀ x (n : Nat) W, 1 ≤ n → n ≤ 4294967296 → Calls Tryz.prog 57 #[.int .i64 x, .int .i64 (n : Int)] W fun e w' => e = .returned (.int .i64 (x % (n : Int))) ∧ w' = W) := fun x n W h1 h2 => pick_any x n W h1 h2
  have HP10 : Hid (∀ W, Calls Tryz.prog 57 #[.int .i64 k, .int .i64 10] W fun e w' => e = .returned (.int .i64 (k % 10)) ∧ w' = W) := fun W => HP.out k 10 W (by decide) (by decide)
  have hkk : IntKind.i64.wrap (1 + k % 10) = kk := by rw [← hk, IntKind.wrap_i64]; omega
  have HP14 : Hid (∀ W, Calls Tryz.prog 57 #[.int .i64 s, .int .i64 14] W fun e w' => e = .returned (.int .i64 (s % 14)) ∧ w' = W) := fun W => HP.out s 14 W (by decide) (by decide)
  have HP9 : Hid (∀ W, Calls Tryz.prog 57 #[.int .i64 u, .int .i64 9] W fun e w' => e = .returned (.int .i64 (u % 9)) ∧ w' = W) := fun W => HP.out u 9 W (by decide) (by decide)
  have HH : Hid (∀ W, Calls Tryz.prog 58 #[.int .i64 kk] W fun e w' => e = .returned (.tuple #[.bool false, .bool true, .bool true]) ∧ w' = W) := fun W => by have := Rs.rhas_any kk W; rw [h1, h2, h3] at this; exact this
  have HA0 := hide (new2a w (.cells [Value.int .i64 k, .int .i64 i, .int .i64 s, .int .i64 u, .int .u32 t].toArray 65) (.cells [Value.int .i64 0, .int .u32 0, .int .u32 0, .int .i64 0, .int .i64 0].toArray 25))
  have HA1 := hide (new2 w (.cells [Value.int .i64 k, .int .i64 i, .int .i64 s, .int .i64 u, .int .u32 t].toArray 65) (.cells [Value.int .i64 0, .int .u32 0, .int .u32 0, .int .i64 0, .int .i64 0].toArray 25))
  have HG0 := hide (grown_alloc2 w (.cells [Value.int .i64 k, .int .i64 i, .int .i64 s, .int .i64 u, .int .u32 t].toArray 65) (.cells [Value.int .i64 0, .int .u32 0, .int .u32 0, .int .i64 0, .int .i64 0].toArray 25))
  obtain ⟨a0, a1, a2, a3, a4⟩ := bx5 HA0.out
  clear hk h1 h2 h3 HP
  unfold akV
  simp only
  generalize s % 14 = ms at *
  generalize u % 9 = mu at *
  generalize k % 10 = k1 at *
  go_enter Tryz.func18, Tryz.ntmps18
  go_wp2
  generalize World.alloc (World.alloc w _) _ = w1 at *
  have HSo : Hid (∀ W, w1.grownBy W none → W.cell? ⟨w.heap.size, 0, none⟩ = some (.int .i64 k) ∧ W.cell? ⟨w.heap.size, 4, none⟩ = some (.int .u32 t)) := fun W gW => by obtain ⟨b0, b1, b2, b3, b4⟩ := bx5 (box_to HA0.out gW); exact ⟨b0, b4⟩
  refine wp_region_held_drew (S := (fun W => W.cell? ⟨w.heap.size, 0, none⟩ = some (.int .i64 k) ∧ W.cell? ⟨w.heap.size, 4, none⟩ = some (.int .u32 t))) (by kernel_rfl) ?_ (fun hHeld => ?_)
  · (exact HSo.out _ (grown_drew _ none))
  refine tkH (i := 0) (v := ?_) rfl ?_ ?_
  rotate_left
  · (intro w hSw; (try dsimp only at hSw); (go_simp <;> with_reducible rfl))
  try simp only [Act.put, List.setIfInBounds_toArray]
  refine tkH (i := 1) (v := ?_) rfl ?_ ?_
  rotate_left
  · (intro w hSw; (try dsimp only at hSw); (go_simp <;> with_reducible rfl))
  try simp only [Act.put]
  refine tkH (i := 4) (v := ?_) rfl ?_ ?_
  rotate_left
  · (intro w hSw; (try dsimp only at hSw); (go_simp <;> with_reducible rfl))
  try simp only [Act.put]
  refine tkH (i := 5) (v := ?_) rfl ?_ ?_
  rotate_left
  · (intro w hSw; (try dsimp only at hSw); (go_simp <;> with_reducible rfl))
  try simp only [Act.put]
  refine wpAnyH_ready (rs := [2, 7]) (by kernel_rfl) (by simp) ?_
  refine AllReadyH.cons rfl (fun K hK => ?_) ?_
  · skip
    go_simp
    refine (HP10.out _).mono ?_
    rintro e wx ⟨rfl, hwx⟩
    obtain rfl := hwx.symm
    go_wp2_with fail
    refine hK.out _ _ ?_ (fun hHeld => ?_)
    · ((try dsimp only); first | with_reducible assumption | exact HSo.out _ (gn_alloc (grown_drew _ none) _))
    clear hK K
    try simp only [Act.put, List.setIfInBounds_toArray, List.set_cons_zero, List.set_cons_succ]
    refine tkH (i := 3) (v := ?_) rfl ?_ ?_
    rotate_left
    · (intro w hSw; (try dsimp only at hSw); (go_simp <;> with_reducible rfl))
    try simp only [Act.put, List.setIfInBounds_toArray]
    refine tkH (i := 6) (v := ?_) rfl ?_ ?_
    rotate_left
    · (intro w hSw; (try dsimp only at hSw); (go_simp <;> with_reducible rfl))
    try simp only [Act.put]
    refine rdH (i := 7) rfl (fun K hK => ?_)
    go_simp
    refine hK.out _ _ ?_ (fun hHeld => ?_)
    · ((try dsimp only); first | with_reducible assumption | exact HSo.out _ (gn_alloc (grown_drew _ none) _))
    clear hK K
    try simp only [Act.put, List.setIfInBounds_toArray, List.set_cons_zero, List.set_cons_succ]
    refine rdH (i := 8) rfl (fun K hK => ?_)
    go_simp
    refine hK.out _ _ ?_ (fun hHeld => ?_)
    · ((try dsimp only); first | with_reducible assumption | exact HSo.out _ (gn_alloc (grown_drew _ none) _))
    clear hK K
    try simp only [Act.put, List.setIfInBounds_toArray, List.set_cons_zero, List.set_cons_succ]
    refine wpAnyH_done (by kernel_rfl) ?_ _
    have b0 := hide (drew_at (box_to HA0.out (grown_alloc w1 (.cells [Value.int .i64 kk, .int .u32 t, .int .u32 0, .int .i64 0, .int .i64 0].toArray 25))))
    have b1 := hide (drew_at (box_to HA1.out (grown_alloc w1 (.cells [Value.int .i64 kk, .int .u32 t, .int .u32 0, .int .i64 0, .int .i64 0].toArray 25))))
    have b2 := hide (drew_at (heap_alloc_new w1 (.cells [Value.int .i64 kk, .int .u32 t, .int .u32 0, .int .i64 0, .int .i64 0].toArray 25)))
    have HG := hide (grown_trans (gn_alloc HG0.out (.cells [Value.int .i64 kk, .int .u32 t, .int .u32 0, .int .i64 0, .int .i64 0].toArray 25)) (grown_drew _ none))
    have HSz := hide (row_lt HA1.out)
    clear HSo HA0 HA1 HG0 a0 a1 a2 a3 a4 hHeld
    generalize hX : w1.heap.size = X at *
    clear hX
    generalize World.drew (World.alloc w1 (.cells [Value.int .i64 kk, .int .u32 t, .int .u32 0, .int .i64 0, .int .i64 0].toArray 25)) = v0 at *
    obtain ⟨a0, a1, a2, a3, a4⟩ := bx5 b0.out
    obtain ⟨⟨y0, y1, y2, y3, y4⟩, y5⟩ := bxf5 b2.out
    go_wp2_with fail
    refine (HH.out _).mono ?_
    rintro e wx ⟨rfl, hwx⟩
    obtain rfl := hwx.symm
    clear hwx
    go_wp2_with fail
    refine (HP14.out _).mono ?_
    rintro e wx ⟨rfl, hwx⟩
    obtain rfl := hwx.symm
    clear hwx
    have n0 := hide (((grown_setCell v0 X 3 (.int .i64 ms)).block _ (row_lt b0.out) (fun e => by have h1 := Option.some.inj e; have h2 := HSz.out; omega)).trans b0.out)
    have n1 := hide (((grown_setCell v0 X 3 (.int .i64 ms)).block _ (row_lt b1.out) (fun e => by have h1 := Option.some.inj e; have h2 := HSz.out; omega)).trans b1.out)
    have n2 := hide (row_setCell b2.out 3 (.int .i64 ms))
    have nG := hide (gn_own HG.out (grown_setCell v0 X 3 (.int .i64 ms)) (by have h2 := HSz.out; omega))
    go_upto_region 7 with fail
    generalize World.setCell _ _ _ = v1 at *
    clear b0 b1 b2 HG a0 a1 a2 a3 a4 y0 y1 y2 y3 y4 y5
    have b0 := n0
    have b1 := n1
    have b2 := n2
    have HG := nG
    clear n0 n1 n2 nG
    obtain ⟨a0, a1, a2, a3, a4⟩ := bx5 b0.out
    obtain ⟨⟨y0, y1, y2, y3, y4⟩, y5⟩ := bxf5 b2.out
    go_wp2_with fail
    refine (HP9.out _).mono ?_
    rintro e wx ⟨rfl, hwx⟩
    obtain rfl := hwx.symm
    clear hwx
    have n0 := hide (((grown_setCell v1 X 4 (.int .i64 mu)).block _ (row_lt b0.out) (fun e => by have h1 := Option.some.inj e; have h2 := HSz.out; omega)).trans b0.out)
    have n1 := hide (((grown_setCell v1 X 4 (.int .i64 mu)).block _ (row_lt b1.out) (fun e => by have h1 := Option.some.inj e; have h2 := HSz.out; omega)).trans b1.out)
    have n2 := hide (row_setCell b2.out 4 (.int .i64 mu))
    have nG := hide (gn_own HG.out (grown_setCell v1 X 4 (.int .i64 mu)) (by have h2 := HSz.out; omega))
    go_upto_region 9 with fail
    generalize World.setCell _ _ _ = v2 at *
    clear b0 b1 b2 HG a0 a1 a2 a3 a4 y0 y1 y2 y3 y4 y5
    have b0 := n0
    have b1 := n1
    have b2 := n2
    have HG := nG
    clear n0 n1 n2 nG
    obtain ⟨a0, a1, a2, a3, a4⟩ := bx5 b0.out
    obtain ⟨⟨y0, y1, y2, y3, y4⟩, y5⟩ := bxf5 b2.out
    clear a0 a1 a2 a3 a4
    obtain ⟨⟨x0, x1, x2, x3, x4⟩, x5⟩ := bxf5 b1.out
    go_wp2
    obtain ⟨r1, r2⟩ := set5w v2 rfl b1.out (.int .i64 kk) (.int .u32 t) (.int .u32 0) (.int .i64 ms) (.int .i64 mu)
    exact bodyPost_ret (results_cell_row rfl _ _ (w.heap.size + 1) 25 _ (0, 0) _ rfl r1 Tryz.underlying25 rfl (by kernel_rfl)) rfl ⟨rfl, gn_own HG.out r2 (by omega)⟩
  refine AllReadyH.cons rfl (fun K hK => ?_) ?_
  · skip
    go_simp
    refine hK.out _ _ ?_ (fun hHeld => ?_)
    · ((try dsimp only); first | with_reducible assumption | exact HSo.out _ (gn_alloc (grown_drew _ none) _))
    clear hK K
    try simp only [Act.put, List.setIfInBounds_toArray, List.set_cons_zero, List.set_cons_succ]
    refine rdH (i := 2) rfl (fun K hK => ?_)
    go_simp
    refine (HP10.out _).mono ?_
    rintro e wx ⟨rfl, hwx⟩
    obtain rfl := hwx.symm
    go_wp2_with fail
    refine hK.out _ _ ?_ (fun hHeld => ?_)
    · ((try dsimp only); first | with_reducible assumption | exact HSo.out _ (gn_alloc (grown_drew _ none) _))
    clear hK K
    try simp only [Act.put, List.setIfInBounds_toArray, List.set_cons_zero, List.set_cons_succ]
    refine tkH (i := 3) (v := ?_) rfl ?_ ?_
    rotate_left
    · (intro w hSw; (try dsimp only at hSw); (go_simp <;> with_reducible rfl))
    try simp only [Act.put, List.setIfInBounds_toArray]
    refine tkH (i := 6) (v := ?_) rfl ?_ ?_
    rotate_left
    · (intro w hSw; (try dsimp only at hSw); (go_simp <;> with_reducible rfl))
    try simp only [Act.put]
    refine rdH (i := 8) rfl (fun K hK => ?_)
    go_simp
    refine hK.out _ _ ?_ (fun hHeld => ?_)
    · ((try dsimp only); first | with_reducible assumption | exact HSo.out _ (gn_alloc (grown_drew _ none) _))
    clear hK K
    try simp only [Act.put, List.setIfInBounds_toArray, List.set_cons_zero, List.set_cons_succ]
    refine wpAnyH_done (by kernel_rfl) ?_ _
    have b0 := hide (drew_at (box_to HA0.out (grown_alloc w1 (.cells [Value.int .i64 kk, .int .u32 t, .int .u32 0, .int .i64 0, .int .i64 0].toArray 25))))
    have b1 := hide (drew_at (box_to HA1.out (grown_alloc w1 (.cells [Value.int .i64 kk, .int .u32 t, .int .u32 0, .int .i64 0, .int .i64 0].toArray 25))))
    have b2 := hide (drew_at (heap_alloc_new w1 (.cells [Value.int .i64 kk, .int .u32 t, .int .u32 0, .int .i64 0, .int .i64 0].toArray 25)))
    have HG := hide (grown_trans (gn_alloc HG0.out (.cells [Value.int .i64 kk, .int .u32 t, .int .u32 0, .int .i64 0, .int .i64 0].toArray 25)) (grown_drew _ none))
    have HSz := hide (row_lt HA1.out)
    clear HSo HA0 HA1 HG0 a0 a1 a2 a3 a4 hHeld
    generalize hX : w1.heap.size = X at *
    clear hX
    generalize World.drew (World.alloc w1 (.cells [Value.int .i64 kk, .int .u32 t, .int .u32 0, .int .i64 0, .int .i64 0].toArray 25)) = v0 at *
    obtain ⟨a0, a1, a2, a3, a4⟩ := bx5 b0.out
    obtain ⟨⟨y0, y1, y2, y3, y4⟩, y5⟩ := bxf5 b2.out
    go_wp2_with fail
    refine (HH.out _).mono ?_
    rintro e wx ⟨rfl, hwx⟩
    obtain rfl := hwx.symm
    clear hwx
    go_wp2_with fail
    refine (HP14.out _).mono ?_
    rintro e wx ⟨rfl, hwx⟩
    obtain rfl := hwx.symm
    clear hwx
    have n0 := hide (((grown_setCell v0 X 3 (.int .i64 ms)).block _ (row_lt b0.out) (fun e => by have h1 := Option.some.inj e; have h2 := HSz.out; omega)).trans b0.out)
    have n1 := hide (((grown_setCell v0 X 3 (.int .i64 ms)).block _ (row_lt b1.out) (fun e => by have h1 := Option.some.inj e; have h2 := HSz.out; omega)).trans b1.out)
    have n2 := hide (row_setCell b2.out 3 (.int .i64 ms))
    have nG := hide (gn_own HG.out (grown_setCell v0 X 3 (.int .i64 ms)) (by have h2 := HSz.out; omega))
    go_upto_region 7 with fail
    generalize World.setCell _ _ _ = v1 at *
    clear b0 b1 b2 HG a0 a1 a2 a3 a4 y0 y1 y2 y3 y4 y5
    have b0 := n0
    have b1 := n1
    have b2 := n2
    have HG := nG
    clear n0 n1 n2 nG
    obtain ⟨a0, a1, a2, a3, a4⟩ := bx5 b0.out
    obtain ⟨⟨y0, y1, y2, y3, y4⟩, y5⟩ := bxf5 b2.out
    go_wp2_with fail
    refine (HP9.out _).mono ?_
    rintro e wx ⟨rfl, hwx⟩
    obtain rfl := hwx.symm
    clear hwx
    have n0 := hide (((grown_setCell v1 X 4 (.int .i64 mu)).block _ (row_lt b0.out) (fun e => by have h1 := Option.some.inj e; have h2 := HSz.out; omega)).trans b0.out)
    have n1 := hide (((grown_setCell v1 X 4 (.int .i64 mu)).block _ (row_lt b1.out) (fun e => by have h1 := Option.some.inj e; have h2 := HSz.out; omega)).trans b1.out)
    have n2 := hide (row_setCell b2.out 4 (.int .i64 mu))
    have nG := hide (gn_own HG.out (grown_setCell v1 X 4 (.int .i64 mu)) (by have h2 := HSz.out; omega))
    go_upto_region 9 with fail
    generalize World.setCell _ _ _ = v2 at *
    clear b0 b1 b2 HG a0 a1 a2 a3 a4 y0 y1 y2 y3 y4 y5
    have b0 := n0
    have b1 := n1
    have b2 := n2
    have HG := nG
    clear n0 n1 n2 nG
    obtain ⟨a0, a1, a2, a3, a4⟩ := bx5 b0.out
    obtain ⟨⟨y0, y1, y2, y3, y4⟩, y5⟩ := bxf5 b2.out
    clear a0 a1 a2 a3 a4
    obtain ⟨⟨x0, x1, x2, x3, x4⟩, x5⟩ := bxf5 b1.out
    go_wp2
    obtain ⟨r1, r2⟩ := set5w v2 rfl b1.out (.int .i64 kk) (.int .u32 t) (.int .u32 0) (.int .i64 ms) (.int .i64 mu)
    exact bodyPost_ret (results_cell_row rfl _ _ (w.heap.size + 1) 25 _ (0, 0) _ rfl r1 Tryz.underlying25 rfl (by kernel_rfl)) rfl ⟨rfl, gn_own HG.out r2 (by omega)⟩
  exact AllReadyH.nil
set_option maxHeartbeats 8000000 in
theorem request_100 (k i s u t kk : Int) (hk : 1 + k % 10 = kk) (h1 : Rs.hI kk = true) (h2 : Rs.hS kk = false) (h3 : Rs.hL kk = false) (w : World) : Calls Tryz.prog 18 #[akV ⟨k, i, s, u, t⟩] w fun e w' => e = .returned (.agg #[.int .i64 kk, .int .u32 t, .int .u32 (i % 12), .int .i64 (0), .int .i64 (0)]) ∧ w.grownBy w' none := by
  have HP : Hid (∀ x (n : Nat) W, 1 ≤ n → n ≤ 4294967296 → Calls Tryz.prog 57 #[.int .i64 x, .int .i64 (n : Int)] W fun e w' => e = .returned (.int .i64 (x % (n : Int))) ∧ w' = W) := fun x n W h1 h2 => pick_any x n W h1 h2
  have HP10 : Hid (∀ W, Calls Tryz.prog 57 #[.int .i64 k, .int .i64 10] W fun e w' => e = .returned (.int .i64 (k % 10)) ∧ w' = W) := fun W => HP.out k 10 W (by decide) (by decide)
  have hkk : IntKind.i64.wrap (1 + k % 10) = kk := by rw [← hk, IntKind.wrap_i64]; omega
  have HP12 : Hid (∀ W, Calls Tryz.prog 57 #[.int .i64 i, .int .i64 12] W fun e w' => e = .returned (.int .i64 (i % 12)) ∧ w' = W) := fun W => HP.out i 12 W (by decide) (by decide)
  have hI1 : IntKind.u32.wrap (i % 12) = i % 12 := by rw [IntKind.wrap_u32]; omega
  have HH : Hid (∀ W, Calls Tryz.prog 58 #[.int .i64 kk] W fun e w' => e = .returned (.tuple #[.bool true, .bool false, .bool false]) ∧ w' = W) := fun W => by have := Rs.rhas_any kk W; rw [h1, h2, h3] at this; exact this
  have HA0 := hide (new2a w (.cells [Value.int .i64 k, .int .i64 i, .int .i64 s, .int .i64 u, .int .u32 t].toArray 65) (.cells [Value.int .i64 0, .int .u32 0, .int .u32 0, .int .i64 0, .int .i64 0].toArray 25))
  have HA1 := hide (new2 w (.cells [Value.int .i64 k, .int .i64 i, .int .i64 s, .int .i64 u, .int .u32 t].toArray 65) (.cells [Value.int .i64 0, .int .u32 0, .int .u32 0, .int .i64 0, .int .i64 0].toArray 25))
  have HG0 := hide (grown_alloc2 w (.cells [Value.int .i64 k, .int .i64 i, .int .i64 s, .int .i64 u, .int .u32 t].toArray 65) (.cells [Value.int .i64 0, .int .u32 0, .int .u32 0, .int .i64 0, .int .i64 0].toArray 25))
  obtain ⟨a0, a1, a2, a3, a4⟩ := bx5 HA0.out
  clear hk h1 h2 h3 HP
  unfold akV
  simp only
  generalize i % 12 = mi at *
  generalize k % 10 = k1 at *
  go_enter Tryz.func18, Tryz.ntmps18
  go_wp2
  generalize World.alloc (World.alloc w _) _ = w1 at *
  have HSo : Hid (∀ W, w1.grownBy W none → W.cell? ⟨w.heap.size, 0, none⟩ = some (.int .i64 k) ∧ W.cell? ⟨w.heap.size, 4, none⟩ = some (.int .u32 t)) := fun W gW => by obtain ⟨b0, b1, b2, b3, b4⟩ := bx5 (box_to HA0.out gW); exact ⟨b0, b4⟩
  refine wp_region_held_drew (S := (fun W => W.cell? ⟨w.heap.size, 0, none⟩ = some (.int .i64 k) ∧ W.cell? ⟨w.heap.size, 4, none⟩ = some (.int .u32 t))) (by kernel_rfl) ?_ (fun hHeld => ?_)
  · (exact HSo.out _ (grown_drew _ none))
  refine tkH (i := 0) (v := ?_) rfl ?_ ?_
  rotate_left
  · (intro w hSw; (try dsimp only at hSw); (go_simp <;> with_reducible rfl))
  try simp only [Act.put, List.setIfInBounds_toArray]
  refine tkH (i := 1) (v := ?_) rfl ?_ ?_
  rotate_left
  · (intro w hSw; (try dsimp only at hSw); (go_simp <;> with_reducible rfl))
  try simp only [Act.put]
  refine tkH (i := 4) (v := ?_) rfl ?_ ?_
  rotate_left
  · (intro w hSw; (try dsimp only at hSw); (go_simp <;> with_reducible rfl))
  try simp only [Act.put]
  refine tkH (i := 5) (v := ?_) rfl ?_ ?_
  rotate_left
  · (intro w hSw; (try dsimp only at hSw); (go_simp <;> with_reducible rfl))
  try simp only [Act.put]
  refine wpAnyH_ready (rs := [2, 7]) (by kernel_rfl) (by simp) ?_
  refine AllReadyH.cons rfl (fun K hK => ?_) ?_
  · skip
    go_simp
    refine (HP10.out _).mono ?_
    rintro e wx ⟨rfl, hwx⟩
    obtain rfl := hwx.symm
    go_wp2_with fail
    refine hK.out _ _ ?_ (fun hHeld => ?_)
    · ((try dsimp only); first | with_reducible assumption | exact HSo.out _ (gn_alloc (grown_drew _ none) _))
    clear hK K
    try simp only [Act.put, List.setIfInBounds_toArray, List.set_cons_zero, List.set_cons_succ]
    refine tkH (i := 3) (v := ?_) rfl ?_ ?_
    rotate_left
    · (intro w hSw; (try dsimp only at hSw); (go_simp <;> with_reducible rfl))
    try simp only [Act.put, List.setIfInBounds_toArray]
    refine tkH (i := 6) (v := ?_) rfl ?_ ?_
    rotate_left
    · (intro w hSw; (try dsimp only at hSw); (go_simp <;> with_reducible rfl))
    try simp only [Act.put]
    refine rdH (i := 7) rfl (fun K hK => ?_)
    go_simp
    refine hK.out _ _ ?_ (fun hHeld => ?_)
    · ((try dsimp only); first | with_reducible assumption | exact HSo.out _ (gn_alloc (grown_drew _ none) _))
    clear hK K
    try simp only [Act.put, List.setIfInBounds_toArray, List.set_cons_zero, List.set_cons_succ]
    refine rdH (i := 8) rfl (fun K hK => ?_)
    go_simp
    refine hK.out _ _ ?_ (fun hHeld => ?_)
    · ((try dsimp only); first | with_reducible assumption | exact HSo.out _ (gn_alloc (grown_drew _ none) _))
    clear hK K
    try simp only [Act.put, List.setIfInBounds_toArray, List.set_cons_zero, List.set_cons_succ]
    refine wpAnyH_done (by kernel_rfl) ?_ _
    have b0 := hide (drew_at (box_to HA0.out (grown_alloc w1 (.cells [Value.int .i64 kk, .int .u32 t, .int .u32 0, .int .i64 0, .int .i64 0].toArray 25))))
    have b1 := hide (drew_at (box_to HA1.out (grown_alloc w1 (.cells [Value.int .i64 kk, .int .u32 t, .int .u32 0, .int .i64 0, .int .i64 0].toArray 25))))
    have b2 := hide (drew_at (heap_alloc_new w1 (.cells [Value.int .i64 kk, .int .u32 t, .int .u32 0, .int .i64 0, .int .i64 0].toArray 25)))
    have HG := hide (grown_trans (gn_alloc HG0.out (.cells [Value.int .i64 kk, .int .u32 t, .int .u32 0, .int .i64 0, .int .i64 0].toArray 25)) (grown_drew _ none))
    have HSz := hide (row_lt HA1.out)
    clear HSo HA0 HA1 HG0 a0 a1 a2 a3 a4 hHeld
    generalize hX : w1.heap.size = X at *
    clear hX
    generalize World.drew (World.alloc w1 (.cells [Value.int .i64 kk, .int .u32 t, .int .u32 0, .int .i64 0, .int .i64 0].toArray 25)) = v0 at *
    obtain ⟨a0, a1, a2, a3, a4⟩ := bx5 b0.out
    obtain ⟨⟨y0, y1, y2, y3, y4⟩, y5⟩ := bxf5 b2.out
    go_wp2_with fail
    refine (HH.out _).mono ?_
    rintro e wx ⟨rfl, hwx⟩
    obtain rfl := hwx.symm
    clear hwx
    go_wp2_with fail
    refine (HP12.out _).mono ?_
    rintro e wx ⟨rfl, hwx⟩
    obtain rfl := hwx.symm
    clear hwx
    have n0 := hide (((grown_setCell v0 X 2 (.int .u32 mi)).block _ (row_lt b0.out) (fun e => by have h1 := Option.some.inj e; have h2 := HSz.out; omega)).trans b0.out)
    have n1 := hide (((grown_setCell v0 X 2 (.int .u32 mi)).block _ (row_lt b1.out) (fun e => by have h1 := Option.some.inj e; have h2 := HSz.out; omega)).trans b1.out)
    have n2 := hide (row_setCell b2.out 2 (.int .u32 mi))
    have nG := hide (gn_own HG.out (grown_setCell v0 X 2 (.int .u32 mi)) (by have h2 := HSz.out; omega))
    go_upto_region 5 with fail
    generalize World.setCell _ _ _ = v1 at *
    clear b0 b1 b2 HG a0 a1 a2 a3 a4 y0 y1 y2 y3 y4 y5
    have b0 := n0
    have b1 := n1
    have b2 := n2
    have HG := nG
    clear n0 n1 n2 nG
    obtain ⟨a0, a1, a2, a3, a4⟩ := bx5 b0.out
    obtain ⟨⟨y0, y1, y2, y3, y4⟩, y5⟩ := bxf5 b2.out
    clear a0 a1 a2 a3 a4
    obtain ⟨⟨x0, x1, x2, x3, x4⟩, x5⟩ := bxf5 b1.out
    go_wp2
    obtain ⟨r1, r2⟩ := set5w v1 rfl b1.out (.int .i64 kk) (.int .u32 t) (.int .u32 mi) (.int .i64 0) (.int .i64 0)
    exact bodyPost_ret (results_cell_row rfl _ _ (w.heap.size + 1) 25 _ (0, 0) _ rfl r1 Tryz.underlying25 rfl (by kernel_rfl)) rfl ⟨rfl, gn_own HG.out r2 (by omega)⟩
  refine AllReadyH.cons rfl (fun K hK => ?_) ?_
  · skip
    go_simp
    refine hK.out _ _ ?_ (fun hHeld => ?_)
    · ((try dsimp only); first | with_reducible assumption | exact HSo.out _ (gn_alloc (grown_drew _ none) _))
    clear hK K
    try simp only [Act.put, List.setIfInBounds_toArray, List.set_cons_zero, List.set_cons_succ]
    refine rdH (i := 2) rfl (fun K hK => ?_)
    go_simp
    refine (HP10.out _).mono ?_
    rintro e wx ⟨rfl, hwx⟩
    obtain rfl := hwx.symm
    go_wp2_with fail
    refine hK.out _ _ ?_ (fun hHeld => ?_)
    · ((try dsimp only); first | with_reducible assumption | exact HSo.out _ (gn_alloc (grown_drew _ none) _))
    clear hK K
    try simp only [Act.put, List.setIfInBounds_toArray, List.set_cons_zero, List.set_cons_succ]
    refine tkH (i := 3) (v := ?_) rfl ?_ ?_
    rotate_left
    · (intro w hSw; (try dsimp only at hSw); (go_simp <;> with_reducible rfl))
    try simp only [Act.put, List.setIfInBounds_toArray]
    refine tkH (i := 6) (v := ?_) rfl ?_ ?_
    rotate_left
    · (intro w hSw; (try dsimp only at hSw); (go_simp <;> with_reducible rfl))
    try simp only [Act.put]
    refine rdH (i := 8) rfl (fun K hK => ?_)
    go_simp
    refine hK.out _ _ ?_ (fun hHeld => ?_)
    · ((try dsimp only); first | with_reducible assumption | exact HSo.out _ (gn_alloc (grown_drew _ none) _))
    clear hK K
    try simp only [Act.put, List.setIfInBounds_toArray, List.set_cons_zero, List.set_cons_succ]
    refine wpAnyH_done (by kernel_rfl) ?_ _
    have b0 := hide (drew_at (box_to HA0.out (grown_alloc w1 (.cells [Value.int .i64 kk, .int .u32 t, .int .u32 0, .int .i64 0, .int .i64 0].toArray 25))))
    have b1 := hide (drew_at (box_to HA1.out (grown_alloc w1 (.cells [Value.int .i64 kk, .int .u32 t, .int .u32 0, .int .i64 0, .int .i64 0].toArray 25))))
    have b2 := hide (drew_at (heap_alloc_new w1 (.cells [Value.int .i64 kk, .int .u32 t, .int .u32 0, .int .i64 0, .int .i64 0].toArray 25)))
    have HG := hide (grown_trans (gn_alloc HG0.out (.cells [Value.int .i64 kk, .int .u32 t, .int .u32 0, .int .i64 0, .int .i64 0].toArray 25)) (grown_drew _ none))
    have HSz := hide (row_lt HA1.out)
    clear HSo HA0 HA1 HG0 a0 a1 a2 a3 a4 hHeld
    generalize hX : w1.heap.size = X at *
    clear hX
    generalize World.drew (World.alloc w1 (.cells [Value.int .i64 kk, .int .u32 t, .int .u32 0, .int .i64 0, .int .i64 0].toArray 25)) = v0 at *
    obtain ⟨a0, a1, a2, a3, a4⟩ := bx5 b0.out
    obtain ⟨⟨y0, y1, y2, y3, y4⟩, y5⟩ := bxf5 b2.out
    go_wp2_with fail
    refine (HH.out _).mono ?_
    rintro e wx ⟨rfl, hwx⟩
    obtain rfl := hwx.symm
    clear hwx
    go_wp2_with fail
    refine (HP12.out _).mono ?_
    rintro e wx ⟨rfl, hwx⟩
    obtain rfl := hwx.symm
    clear hwx
    have n0 := hide (((grown_setCell v0 X 2 (.int .u32 mi)).block _ (row_lt b0.out) (fun e => by have h1 := Option.some.inj e; have h2 := HSz.out; omega)).trans b0.out)
    have n1 := hide (((grown_setCell v0 X 2 (.int .u32 mi)).block _ (row_lt b1.out) (fun e => by have h1 := Option.some.inj e; have h2 := HSz.out; omega)).trans b1.out)
    have n2 := hide (row_setCell b2.out 2 (.int .u32 mi))
    have nG := hide (gn_own HG.out (grown_setCell v0 X 2 (.int .u32 mi)) (by have h2 := HSz.out; omega))
    go_upto_region 5 with fail
    generalize World.setCell _ _ _ = v1 at *
    clear b0 b1 b2 HG a0 a1 a2 a3 a4 y0 y1 y2 y3 y4 y5
    have b0 := n0
    have b1 := n1
    have b2 := n2
    have HG := nG
    clear n0 n1 n2 nG
    obtain ⟨a0, a1, a2, a3, a4⟩ := bx5 b0.out
    obtain ⟨⟨y0, y1, y2, y3, y4⟩, y5⟩ := bxf5 b2.out
    clear a0 a1 a2 a3 a4
    obtain ⟨⟨x0, x1, x2, x3, x4⟩, x5⟩ := bxf5 b1.out
    go_wp2
    obtain ⟨r1, r2⟩ := set5w v1 rfl b1.out (.int .i64 kk) (.int .u32 t) (.int .u32 mi) (.int .i64 0) (.int .i64 0)
    exact bodyPost_ret (results_cell_row rfl _ _ (w.heap.size + 1) 25 _ (0, 0) _ rfl r1 Tryz.underlying25 rfl (by kernel_rfl)) rfl ⟨rfl, gn_own HG.out r2 (by omega)⟩
  exact AllReadyH.nil
end Go.Proofs.YtjfhilignbeboaaGreatDoor
