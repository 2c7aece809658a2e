/- Texts joined: BkK, BkL, BkM, BkO, La, Rp1, RkRy, Qx. -/
import Derived.RangeFuncWrites
import Derived.Test.YtjfhilignbeboaaGreatDoorJrAj
import Derived.Test.YtjfhilignbeboaaGreatDoorJrAl
import Derived.ProofKit
import Derived.OpenShut
import Derived.Deep.DeepHandedRow
import Derived.Lib.LaidTab
import Derived.ChangeOld
import Derived.SizedLaws
import Derived.Test.YtjfhilignbeboaaGreatDoorCards
import Derived.Test.YtjfhilignbeboaaGreatDoorTie
import Derived.Laws.BitsAllLaws
import Derived.WalkKit
import Derived.WalkSpells
import Derived.WalkLawsBesides
import Derived.Laws.CopyOwn
import Derived.Deep.MidRow
import Derived.Test.YtjfhilignbeboaaGreatDoorChecked
/- A copy of a book. -/
namespace Go.Proofs.YtjfhilignbeboaaGreatDoor
open Go.RowKit Go.Shelf
attribute [local go_sem ↓] Go.wp_at_zero Go.wp_at_succ
attribute [local go_sem] Oper.semAt_some
section
variable {w w' W W' : World} {p q : Bp} {S : Sb} {K : Nat}
theorem row_cells {w : World} {b : Nat} {e : TypeId} {size n : Nat} {v : Value} {xs : List Value} (h : w.ownsRow b e size v n xs) {i : Nat} (hi : v.ownBlock = some i) : ∃ o : Obj, w.heap[i]? = some o ∧ o.isCells = true := by
  obtain ⟨-, cur, hc⟩ := Ix.own_block h hi
  exact ⟨_, hc, rfl⟩
/-- A book's blocks are cells, but for its two maps. -/
theorem BkAt.ctl (h : BkAt w p S K) : ∀ i, p.own i → (∃ o : Obj, w.heap[i]? = some o ∧ o.isCells = true) ∨ i = p.hp.mb ∨ i = p.hm := by
  obtain ⟨Lb, R, M, E, T, N, B, C, h, -⟩ := h
  rintro i ⟨k, (⟨-, rfl⟩ | ⟨-, rfl⟩ | ⟨-, rfl⟩ | ⟨-, hi⟩ | ⟨-, rfl⟩ | ⟨-, rfl⟩ | ⟨-, hi⟩ | ⟨-, rfl⟩)⟩
  · exact .inl ⟨_, h.head, rfl⟩
  · exact .inl ⟨_, h.var, rfl⟩
  · exact .inl ⟨_, h.row, rfl⟩
  · obtain ⟨lo, st, SS, h1, -⟩ := h.ix
    rcases hi with rfl | rfl
    · exact .inl ⟨_, h1.at_.head, rfl⟩
    · exact .inl ⟨_, h1.at_.row, rfl⟩
  · obtain ⟨WW, cap, cur, h1, h2, -⟩ := h.set; exact .inl ⟨_, h1, rfl⟩
  · obtain ⟨WW, cap, cur, h1, h2, -⟩ := h.set; exact .inl ⟨_, h2, rfl⟩
  · rcases hi with rfl | hi | hi | rfl
    · exact .inl ⟨_, h.due.at_.head, rfl⟩
    · exact .inl (row_cells h.due.at_.ent hi)
    · exact .inl (row_cells h.due.at_.lst hi)
    · exact .inr (.inl rfl)
  · exact .inr (.inr rfl)
/-- The maps lie below B. -/
def Bp.Lo (p : Bp) (B : Nat) : Prop := p.hp.mb < B ∧ p.hm < B
theorem Bst.lo {B : Nat} (h : Bst w w' p q) (hl : p.Lo B) : q.Lo B := ⟨by rw [h.mb]; exact hl.1, by rw [h.hm]; exact hl.2⟩
theorem BkAt.ctl_no {B : Nat} (h : BkAt w p S K) (hl : p.Lo B) {i : Nat} {o : Obj} (hB : B ≤ i) (ho : w.heap[i]? = some o) (hc : o.isCells = false) : ¬ p.own i := fun e => by
  rcases h.ctl i e with ⟨o', h1, h2⟩ | h1 | h1
  · rw [ho] at h1; cases h1; rw [hc] at h2; cases h2
  · have := hl.1; omega
  · have := hl.2; omega
theorem Bst.keeps {B : Nat} (h : Bst w w' p q) (hb : BkAt w p S K) (hl : p.Lo B) : KeepsFrom B w w' :=
  ⟨h.kept.size, fun _k _o hk ho hc => h.kept.at ho (hb.ctl_no hl hk ho hc)⟩
theorem BkAt.own_from {B : Nat} (hl : p.Lo B) : OwnFrom B (fun (_ : Unit) W => BkAt W p S K) := fun _ W W' row h hg hr =>
  h.far (X := fun i => row = some i) (Kept.of hg (fun j e _ => e)) (fun i hi e => by
    obtain ⟨h1, o, h2, h3⟩ := hr i e
    exact h.ctl_no hl h1 h2 h3 hi)
end
/-- The copy, without bookings yet. -/
structure Cp0 (w W : World) (S : Sb) (Bc : Nat) (q : Bp) : Prop where
  bk : BkAt W q { S with L := [] } 0
  bx : Boxed W Bc 34 (.pointer (some ⟨q.b, 0, none⟩))
  gr : w.grownBy W none
  own : ∀ i, q.own i → w.heap.size ≤ i
  nb : ¬ q.own Bc
  lo : w.heap.size ≤ Bc
theorem Cp0.drew {w W : World} {S : Sb} {Bc : Nat} {q : Bp} (h : Cp0 w W S Bc q) : Cp0 w W.drew S Bc q := ⟨h.bk.then (grown_drew _ none), h.bx.kept (grown_drew _ none) (by simp), gn_drew h.gr, h.own, h.nb, h.lo⟩
theorem cp0_a {w w1 : World} {S : Sb} {q : Bp} (h1 : BkAt w1 q { S with L := [] } 0) (h2 : w.grownBy w1 none) (h3 : ∀ i, q.own i → w.heap.size ≤ i) : Cp0 w (w1.alloc (.cells #[.pointer (some ⟨q.b, 0, none⟩)] 34)) S w1.heap.size q :=
  ⟨h1.then (grown_alloc _ _), Boxed.new w1 34 _, gn_alloc h2 _, h3, fun e => Nat.lt_irrefl _ (h1.lt _ e), h2.size⟩
theorem cp0_b {w w1 : World} {S : Sb} {q : Bp} (h1 : BkAt w1 q { S with L := [] } 0) (h2 : (w.alloc (.cells #[.pointer none] 34)).grownBy w1 none) (h3 : ∀ i, q.own i → w.heap.size + 1 ≤ i) : Cp0 w (w1.setCell ⟨w.heap.size, 0, none⟩ (.pointer (some ⟨q.b, 0, none⟩))) S w.heap.size q := by
  have hb : Boxed w1 w.heap.size 34 (.pointer none) := (Boxed.new w 34 _).kept h2 (by simp)
  have hn : ¬ q.own w.heap.size := fun e => by have := h3 _ e; omega
  exact ⟨h1.far (kept_setCell w1 w.heap.size 0 _) (fun i hi e => hn (by rw [← e]; exact hi)), hb.set _, gn_set (grown_trans (grown_alloc w _) h2) (Nat.le_refl _), fun i hi => by have := h3 i hi; omega, hn, Nat.le_refl _⟩
/-- Inside Copy, between two bookings. -/
structure CoI (w W : World) (S : Sb) (Bc b1 b2 : Nat) (b : Nat) (pre : List Bg) : Prop where
  bk : ∃ q : Bp, q.b = b ∧ BkAt W q { S with L := pre } pre.length ∧ q.Lo b1 ∧ (∀ i, q.own i → (w.heap.size ≤ i ∧ i < b1) ∨ b2 ≤ i) ∧ ¬ q.own Bc
  bx : Boxed W Bc 34 (.pointer (some ⟨b, 0, none⟩))
  gr : w.grownBy W none
  sz : b2 ≤ W.heap.size
theorem Bp.Lo.mono {p : Bp} {a b : Nat} (h : p.Lo a) (hab : a ≤ b) : p.Lo b := ⟨Nat.lt_of_lt_of_le h.1 hab, Nat.lt_of_lt_of_le h.2 hab⟩
theorem CoI.own_from {w : World} {S : Sb} {Bc b1 b2 b : Nat} (hB : w.heap.size ≤ b2) (h12 : b1 ≤ b2) : OwnFrom b2 (fun pre W => CoI w W S Bc b1 b2 b pre) := fun pre W W' row h hg hr => by
  obtain ⟨q, e, h1, h2, h3, h4⟩ := h.bk
  exact ⟨⟨q, e, BkAt.own_from (h2.mono h12) () W W' row h1 hg hr, h2, h3, h4⟩, box_own_from b2 () W W' row h.bx hg hr, grown_then h.gr hg (fun j e => Or.inl (Nat.le_trans hB (hr j e).1)), Nat.le_trans h.sz hg.size⟩
theorem pre_facts {L pre : List Bg} {x : Bg} (h : pre ++ [x] <+: L) (hA : AscB L) (hO : OneS L) : x ∈ L ∧ (∀ y ∈ pre, y.i < x.i) ∧ sat pre x.s = none ∧ pre.Sublist L ∧ pre.length + 1 ≤ L.length := by
  have h1 := h.sublist
  have hA' : AscB (pre ++ [x]) := List.Pairwise.sublist h1 hA
  have hO' : OneS (pre ++ [x]) := List.Pairwise.sublist h1 hO
  unfold AscB at hA'
  unfold OneS at hO'
  rw [List.pairwise_append] at hA' hO'
  refine ⟨h.subset (by simp), fun y hy => hA'.2.2 y hy x (by simp), sat_none.2 (fun y hy => hO'.2.2 y hy x (by simp)), (List.sublist_append_left _ _).trans h1, by have := h.length_le; simpa using this⟩
set_option maxRecDepth 100000 in
set_option maxHeartbeats 8000000 in
theorem copy_any {w : World} {p : Bp} {S : Sb} {K : Nat} (h : BkAt w p S K) (hw : S.Wk) : Calls Tryz.prog 14 #[.pointer (some ⟨p.b, 0, none⟩)] w fun e w' => ∃ q : Bp, e = .returned (.pointer (some ⟨q.b, 0, none⟩)) ∧ BkAt w' q S 4096 ∧ w.grownBy w' none ∧ (∀ i, q.own i → w.heap.size ≤ i) := by
  have HN := hide h.isNone
  have hz0 : 0 < w.heap.size := by have := h.lt _ ⟨0, Bp.r0⟩; omega
  have HE : Hid (∀ W, w.grownBy W none → Calls Tryz.prog 37 #[.agg #[.int .i64 (S.a : Int), .int .i64 (S.b : Int), .int .i64 (S.c : Int)], .int .u32 (S.n : Int), .int .i64 S.t] W fun e w' => ∃ q, e = .returned (.pointer (some ⟨q.b, 0, none⟩)) ∧ BkAt w' q { S with L := [] } 0 ∧ W.grownBy w' none ∧ (∀ i, q.own i → W.heap.size ≤ i)) := by
    intro W hg
    have a0 := hw.a0
    have a1 := hw.a1
    have b0 := hw.b0
    have b1 := hw.b1
    have c0 := hw.c0
    have c1 := hw.c1
    exact empty_any S.a S.b S.c S.n S.t (by unfold Gx.OkS; omega) W (by have := hg.size; omega)
  have HA : Hid (∀ W, w.grownBy W none → Calls Tryz.prog 46 #[.pointer (some ⟨p.b, 0, none⟩)] W fun e w' => ∃ u, e = .returned u ∧ VlV w' W.heap.size u S.L ∧ W.grownBy w' none) := fun W hg => all_any (h.then hg) hw
  have HS : Hid (∀ W, w.grownBy W none → W.cell? ⟨p.b, 0, none⟩ = some (.int .i64 (S.a : Int)) ∧ W.cell? ⟨p.b, 1, none⟩ = some (.int .i64 (S.b : Int)) ∧ W.cell? ⟨p.b, 2, none⟩ = some (.int .i64 (S.c : Int)) ∧ W.cell? ⟨p.b, 4, none⟩ = some (.int .u32 (S.n : Int)) ∧ W.cell? ⟨p.b, 5, none⟩ = some (.int .i64 S.t)) := by
    intro W hg
    have h1 := h.then hg
    exact ⟨h1.cells 0 _ rfl, h1.cells 1 _ rfl, h1.cells 2 _ rfl, h1.cells 4 _ rfl, h1.cells 5 _ rfl⟩
  have HW := hide hw
  have hL4 : S.L.length ≤ 4096 := by have := hw.few; have := hw.b1; omega
  clear h hw
  refine (callsIn_wide (n := 6)).1 (callsIn_of_wp_marks Tryz.func14 rfl trivial ?_ rfl)
  simp only [Tryz.ntmps14, List.size_toArray, List.length_cons, List.length_nil, Nat.reduceAdd, Nat.reduceSub, Array.replicate_succ, Array.replicate_zero, List.push_toArray, List.append_toArray, List.nil_append, List.cons_append]
  refine wpIn_wide.2 ?_
  go_wp2_with fail
  refine HN.out.mono ?_
  rintro e wa ⟨rfl, hwa⟩
  obtain rfl := hwa.symm
  go_wp2
  go_cut [3] from 7 to 20 (fun v W => ∃ Bc q, v = .pointer (some ⟨Bc, 0, none⟩) ∧ Hid (Cp0 w W S Bc q))
  case first =>
    go_region_held3 (fun W => W.cell? ⟨p.b, 0, none⟩ = some (.int .i64 (S.a : Int)) ∧ W.cell? ⟨p.b, 1, none⟩ = some (.int .i64 (S.b : Int)) ∧ W.cell? ⟨p.b, 2, none⟩ = some (.int .i64 (S.c : Int)) ∧ W.cell? ⟨p.b, 4, none⟩ = some (.int .u32 (S.n : Int)) ∧ W.cell? ⟨p.b, 5, none⟩ = some (.int .i64 S.t))
      (first | with_reducible assumption | exact HS.out _ (grown_drew w none) | exact HS.out _ (gn_drew (grown_alloc w _)) | exact HS.out _ (gn_alloc G1.out _) | exact HS.out _ (gn_set (grown_trans (grown_alloc w _) G2.out) (Nat.le_refl _)))
      ((first
        | (go_at_call 37; have hq := HE.out _ (grown_drew w none); with_reducible refine hq.mono ?_; clear hq; rintro e w1 ⟨q, rfl, k1, k2, k3⟩; have G1 := hide (grown_trans (grown_drew w none) k2); have hK1 := HS.out w1 G1.out; have HQ := hide (And.intro k1 k3); clear k1 k2 k3)
        | (go_at_call 37; have hq := HE.out _ (gn_drew (grown_alloc w (.cells #[.pointer none] 34))); refine hq.mono ?_; clear hq; rintro e w1 ⟨q, rfl, k1, k2, k3⟩; have G2 := hide (grown_trans (grown_drew (w.alloc (.cells #[.pointer none] 34)) none) k2); have hK1 := HS.out w1 (grown_trans (grown_alloc w _) G2.out); have HQ := hide (And.intro k1 k3); clear k1 k2 k3; have hbx : Boxed w1 w.heap.size 34 (.pointer none) := (Boxed.new w 34 _).kept G2.out (by simp); have v0 := hbx.cell; have v1 := hbx.frozen)))
    all_goals
      go_wp2
      go_meet
      case rel =>
        first
          | exact ⟨_, q, rfl, cp0_a HQ.out.1 G1.out HQ.out.2⟩
          | exact ⟨_, q, rfl, cp0_b HQ.out.1 G2.out (fun i hi => by have := HQ.out.2 i hi; simpa using this)⟩
  case rest =>
  obtain ⟨Bc, q, rfl, HC⟩ := hcut
  have HA' := hide (HA.out wc HC.out.gr)
  clear HA HE HS HN
  go_wp2_with fail
  refine HA'.out.mono ?_
  rintro e w3 ⟨u, rfl, ⟨B, so, cap, rfl, hI, hBq⟩, g3⟩
  have hz3 := g3.size
  have hgw := HC.out.gr.size
  have HQ : Hid (∀ i, vbk B so S.L.length i → wc.heap.size ≤ i ∧ i < w3.heap.size) := fun i hi => ⟨hBq i hi, hI.lt i hi⟩
  have hlo : q.Lo wc.heap.size := ⟨HC.out.bk.lt _ ⟨6, Bp.r6 (.inr (.inr (.inr rfl)))⟩, HC.out.bk.lt _ ⟨7, Bp.r7⟩⟩
  have I0 : Hid (CoI w w3 S Bc wc.heap.size w3.heap.size q.b []) := ⟨⟨q, rfl, HC.out.bk.then g3, hlo, fun i hi => .inl ⟨HC.out.own i hi, HC.out.bk.lt i hi⟩, HC.out.nb⟩, HC.out.bx.kept g3 (by simp), grown_trans HC.out.gr g3, Nat.le_refl _⟩
  have hBc : Bc < wc.heap.size := HC.out.bx.lt
  have hBc2 := HC.out.lo
  have HI := hide hI
  clear hI hBq HA' HC hlo g3
  go_wp2
  refine (wpIn_wide (n := 6)).1 (wpIn_range_V (w := w3) rfl (by decide) (gf := 149) (lb := #[.pointer (some ⟨B, 0, none⟩)]) rfl trivial (enters_of Tryz.func149 (by kernel_rfl) rfl)
    (encs := encB) (Kp := KpB (vbk B so S.L.length)) (V := fun pre x _ => pre ++ [x] <+: S.L) (S := fun ys => ys = S.L)
    (fun W hW => vt_seqV 5 (by decide) B so cap S.L (by omega) W (HI.out.grown hW))
    (fun h k => h.trans k) (fun W l o hl => KpB.put (fun hq => by have := (HQ.out l hq).2; omega)) (fun W W' _ hg => KpB.new hg) (fun _ => rfl)
    (fun pre => fun _ _ _ _ h _ _ => h)
    (fun pre W => CoI w W S Bc wc.heap.size w3.heap.size q.b pre) (fun _ _ _ => False)
    (CoI.own_from (by omega) hz3) (fun _ _ _ _ _ h _ _ => h) I0.out
    (fun x a' W => ∃ F, a' = { tmps := #[Value.pointer (some ⟨p.b, 0, none⟩), undef, Value.pointer none, Value.pointer (some ⟨Bc, 0, none⟩), Value.pointer (some ⟨F, 0, none⟩), Value.pointer (some ⟨p.b, 0, none⟩), Value.bool false, u7, u8, u9, u10, u11, u12, u13, u14, u15, u16, u17, u18, u19, u20, Value.pointer (some ⟨p.b, 0, none⟩), Value.func (Fn.func 149) #[] #[Value.pointer (some ⟨B, 0, none⟩)], bgV x, undef, undef, undef, undef], defers := [] } ∧ W.heap[F]? = some (.cells (bgc x).toArray 51 (0, 0)))
    (fun x => fun a' W W' row h hg hr => by obtain ⟨F, h1, h2⟩ := h; exact ⟨F, h1, cells_own_from w3.heap.size () W W' row h2 hg hr⟩) ?assign ?body ?done (fun _ _ _ _ _ h _ => h.elim))
  case assign =>
    rintro l pre ⟨xi, xs, xu⟩ W K hI hV hK
    simp only [encB, bgV]
    gi_wp2
    exact hK _ _ (grown_alloc W _) ⟨W.heap.size, rfl, heap_alloc_new W _⟩
  case body =>
    rintro l pre x a' W hI hV ⟨F, rfl, hF⟩
    obtain ⟨p1, p2, p3, p4, p5⟩ := pre_facts hV HW.out.asc HW.out.one
    obtain ⟨r, e, r1, r2, r3, r4⟩ := hI.bk
    have hwk : Sb.Wk { S with L := pre } := HW.out.sub p4 HW.out.t0 HW.out.t1
    have hx1 := HW.out.id x p1
    have hn1 := HW.out.n1
    have hxs := HW.out.st x p1
    have hfew := HW.out.few
    have hcall := add_any r1 hwk (by omega) x (by omega) hxs p2 p3 (show pre.length < S.b by omega)
    rw [e] at hcall
    have HCall : Hid (Calls Tryz.prog 39 #[.pointer (some ⟨q.b, 0, none⟩), bgV x] W fun e w' => e = .returned (.tuple #[]) ∧ ∀ a', ownPostG w3.heap.size (KpB (vbk B so S.L.length)) (fun pre W => CoI w W S Bc wc.heap.size w3.heap.size q.b pre) (fun _ _ _ => False) (pre ++ [x]) W .normal a' w') := by
      refine hcall.mono ?_
      rintro e1 w' ⟨rfl, r', k1, k2⟩
      refine ⟨rfl, fun a' => ⟨k2.keeps r1 (r2.mono hz3), KpB.of k2.kept (fun i hi e2 => ?_), ⟨⟨r', k2.b.trans e, by rw [List.length_append]; exact k1, k2.lo r2, fun i hi => ?_, fun e2 => ?_⟩, k2.kept.at hI.bx r4, ?_, Nat.le_trans hI.sz k2.kept.size⟩⟩⟩
      · have h1 := HQ.out i hi
        rcases r3 i e2 with h2 | h2 <;> omega
      · rcases k2.own i hi with h1 | h1
        · exact r3 i h1
        · exact .inr (Nat.le_trans hI.sz h1)
      · rcases k2.own _ e2 with h1 | h1
        · exact r4 h1
        · have := hI.bx.lt; omega
      · refine Kept.grown (((Kept.new hI.gr (fun i => w.heap.size ≤ i)).trans k2.kept (fun i hi e2 => ?_))) (fun i hi e2 => by omega)
        rcases r3 i e2 with h2 | h2
        · exact h2.1
        · omega
    have l0 := hI.bx.cell
    obtain ⟨f0, f1, f2, -⟩ := box3 hF
    clear hcall hI hV hF p1 p2 p3 p4 p5 r1 r2 r3 r4 hwk hx1 hn1 hxs hfew e
    obtain ⟨xi, xs, xu⟩ := x
    unfold bgV at *
    simp only at *
    gi_wp2_with fail
    refine ⟨trivial, ?_⟩
    refine (CallsIn.inRound l (callsIn_wide.2 HCall.out)).mono ?_
    rintro e w' ⟨rfl, hz⟩
    have HZ := hide hz
    clear hz HCall
    gi_wp2
    exact HZ.out _
  case done =>
    rintro D ys W hD rfl hI hK
    have l0 := hI.bx.cell
    have HX := hide (And.intro hI hK)
    clear hI hK
    go_wp2
    obtain ⟨hI, hK⟩ := HX.out
    refine ⟨by simp, .inl ⟨_, _, rfl, run_takeDeferred hK, ?_⟩⟩
    obtain ⟨r, e, r1, r2, r3, r4⟩ := hI.bk
    refine ⟨_, results_tmp rfl _ _ _, r, by rw [e]; rfl, (r1.far (Kept.of (grownBy_putObj' W D _) (S := fun i => i = D) (fun j e _ => (Option.some.inj e).symm)) (fun i hi e2 => r1.ctl_no (r2.mono hz3) (i := D) hD hK rfl (by rw [← e2]; exact hi))).mono hL4, ?_, fun i hi => ?_⟩
    · exact grown_then hI.gr (grownBy_putObj' _ D _) (fun j e => by cases e; exact Or.inl (by omega))
    · rcases r3 i hi with h1 | h1 <;> omega
end Go.Proofs.YtjfhilignbeboaaGreatDoor
/- Rows of bookings, compared. -/
namespace Go.Proofs.YtjfhilignbeboaaGreatDoor
open Go.RowKit
attribute [local go_sem ↓] Go.wp_at_zero Go.wp_at_succ
/-- Bookings that lie somewhere. -/
structure BgA (w : World) (v : Value) (X : List Bg) : Prop where
  ex : ∃ ao cap, v = .slice ao X.length cap ∧ ∀ i, i < X.length → ∃ g, ao = some ⟨g, 0, none⟩ ∧ w.cell? ⟨g, i * 3, none⟩ = some (.int .u32 ((rd X i).i : Int)) ∧ w.cell? ⟨g, i * 3 + 1, none⟩ = some (.int .i64 ((rd X i).s : Int)) ∧ w.cell? ⟨g, i * 3 + 2, none⟩ = some (.int .i64 (rd X i).u)
theorem BgA.then {w w' : World} {v : Value} {X : List Bg} (h : BgA w v X) (g : w.grownBy w' none) : BgA w' v X := by
  obtain ⟨ao, cap, h1, h2⟩ := h.ex
  refine ⟨ao, cap, h1, fun i hi => ?_⟩
  obtain ⟨a, e, c0, c1, c2⟩ := h2 i hi
  exact ⟨a, e, g.cell c0 (by simp), g.cell c1 (by simp), g.cell c2 (by simp)⟩
theorem BgA.own {w : World} {b : Nat} {v : Value} {X : List Bg} (h : w.ownsRow b 51 3 v X.length (bgs X)) : BgA w v X := by
  obtain ⟨vo, vcap, rfl, hle⟩ := Ix.own_form h
  refine ⟨vo, vcap, rfl, fun i hi => ?_⟩
  obtain ⟨q, c, cur, e1, e2, e3, e4, e5, e6, e7⟩ := Ix.own_row h (by omega)
  cases e1
  obtain ⟨b1, b2, b3⟩ := bgs_get hi
  refine ⟨_, rfl, ?_, ?_, ?_⟩
  · exact Ix.own_cell e3 e7 b1
  · exact Ix.own_cell e3 e7 b2
  · exact Ix.own_cell e3 e7 b3
theorem BgA.nil (w : World) : BgA w (.slice none 0 0) [] := ⟨none, 0, rfl, fun i hi => by simp at hi⟩
theorem take_all {X Y : List Bg} (hl : X.length = Y.length) (h : X.take X.length = Y.take X.length) : X = Y := by
  rw [List.take_length, hl, List.take_length] at h; exact h
theorem take_next {X Y : List Bg} {j : Nat} (hx : j < X.length) (hy : j < Y.length) (h : X.take j = Y.take j) (e : rd X j = rd Y j) : X.take (j + 1) = Y.take (j + 1) := by
  rw [← take_rd hx, ← take_rd hy, h, e]
theorem rd_ne {X Y : List Bg} {j : Nat} (h : rd X j ≠ rd Y j) : X ≠ Y := fun e => h (by rw [e])
set_option maxHeartbeats 4000000 in
theorem equal_any {w : World} {v u : Value} {X Y : List Bg} (hv : BgA w v X) (hu : BgA w u Y) (hX : X.length ≤ 65536) : Calls Tryz.prog 53 #[v, u] w fun e w' => e = .returned (.bool (decide (X = Y))) ∧ w.grownBy w' none := by
  obtain ⟨ao, c, rfl, hx⟩ := hv.ex
  obtain ⟨bo, d, rfl, hy⟩ := hu.ex
  clear hv hu
  by_cases hl : X.length = Y.length
  · have HA := hide (And.intro hx (And.intro hy hl))
    clear hx hy
    rw [← hl]
    obtain ⟨res, hres⟩ : ∃ res, decide (X = Y) = res := ⟨_, rfl⟩
    rw [hres]
    have HRes := hide hres
    clear hres hl
    generalize hn : X.length = n at *
    have HN := hide hn
    clear hn
    go_enter Tryz.func53, Tryz.ntmps53
    go_wp2
    go_loopg [13] n (fun k i wr => ∃ j : Nat, k + j = n ∧ i = .int .i64 j ∧ Hid (w.grownBy wr none ∧ X.take j = Y.take j))
    case atStart => exact ⟨0, by omega, rfl, grown_refl _ _, rfl⟩
    case round =>
      obtain ⟨j, hkj, rfl, HW⟩ := hrel
      by_cases hk : 0 < gk
      · have hj : j < X.length := by rw [HN.out]; omega
        have hjy : j < Y.length := by have := HA.out.2.2; omega
        obtain ⟨a, rfl, x0, x1, x2⟩ := HA.out.1 j (by omega)
        obtain ⟨b, rfl, y0, y1, y2⟩ := HA.out.2.1 j hjy
        have g := HW.out.1
        have x0 := g.cell x0 (by simp)
        have x1 := g.cell x1 (by simp)
        have x2 := g.cell x2 (by simp)
        have y0 := g.cell y0 (by simp)
        have y1 := g.cell y1 (by simp)
        have y2 := g.cell y2 (by simp)
        have HG := hide g
        have h1 : (0 : Int) ≤ (j : Int) := by omega
        have h2 : (j : Int) < (n : Int) := by omega
        by_cases e : rd X j = rd Y j
        · have HT := hide (take_next hj hjy HW.out.2 e)
          rw [← e] at y0 y1 y2
          clear e g HW hj hjy
          generalize ((rd X j).i : Int) = p at *
          generalize ((rd X j).s : Int) = q at *
          generalize (rd X j).u = r at *
          go_wp2
          go_quiet (fail)
          go_wp2
          go_roundg (gk - 1)
          case measure => omega
          case rel => exact ⟨j + 1, by omega, by go_num, grown_trans HG.out (grown_drewN _ _ _), HT.out⟩
        · have HD : Hid (res = false) := by rw [← HRes.out, decide_eq_false (rd_ne e)]; rfl
          have hne : ¬ ((rd X j).i = (rd Y j).i ∧ (rd X j).s = (rd Y j).s ∧ (rd X j).u = (rd Y j).u) := fun h => e (Bg.ext' h.1 h.2.1 h.2.2)
          clear e g HW hj hjy
          generalize (rd X j).i = p at *
          generalize (rd X j).s = q at *
          generalize (rd X j).u = r at *
          generalize (rd Y j).i = p' at *
          generalize (rd Y j).s = q' at *
          generalize (rd Y j).u = r' at *
          by_cases e1 : p = p'
          · subst e1
            by_cases e2 : q = q'
            · subst e2
              have e3 : ¬ r = r' := fun e3 => hne ⟨rfl, rfl, e3⟩
              have f1 : (r == r') = false := by simpa using e3
              have f2 : decide (r = r') = false := by simpa using e3
              clear hne
              go_wp2
              go_quiet (fail)
              go_wp2
              go_ret
              exact ⟨by rw [HD.out]; rfl, grown_trans HG.out (grown_drewN _ _ _)⟩
            · have f1 : ((q : Int) == (q' : Int)) = false := by simp; omega
              have f2 : decide ((q : Int) = (q' : Int)) = false := by simp; omega
              clear hne
              go_wp2
              go_quiet (fail)
              go_wp2
              go_ret
              exact ⟨by rw [HD.out]; rfl, grown_trans HG.out (grown_drewN _ _ _)⟩
          · have f1 : ((p : Int) == (p' : Int)) = false := by simp; omega
            have f2 : decide ((p : Int) = (p' : Int)) = false := by simp; omega
            clear hne
            go_wp2
            go_quiet (fail)
            go_wp2
            go_ret
            exact ⟨by rw [HD.out]; rfl, grown_trans HG.out (grown_drewN _ _ _)⟩
      · have hj : j = n := by omega
        subst hj
        have HD : Hid (res = true) := by
          rw [← HRes.out]
          exact decide_eq_true (take_all (HN.out.trans HA.out.2.2) (by rw [HN.out]; exact HW.out.2))
        go_wp2
        go_ret
        exact ⟨by rw [HD.out]; rfl, HW.out.1⟩
  · rw [decide_eq_false (fun e => hl (by rw [e]))]
    have f1 : ((X.length : Int) == (Y.length : Int)) = false := by simp; omega
    have f2 : decide ((X.length : Int) = (Y.length : Int)) = false := by simp; omega
    generalize X.length = n at *
    generalize Y.length = m at *
    clear hx hy
    go_enter Tryz.func53, Tryz.ntmps53
    go_wp2
    go_ret
    exact ⟨rfl, grown_refl _ _⟩
end Go.Proofs.YtjfhilignbeboaaGreatDoor
/- What a book is asked. -/
namespace Go.Proofs.YtjfhilignbeboaaGreatDoor
open Go.RowKit
attribute [local go_sem ↓] Go.wp_at_zero Go.wp_at_succ
attribute [local go_sem] Oper.semAt_some
section
variable {w w' W : World} {p q : Bp} {S S' : Sb} {K K' : Nat}
set_option maxHeartbeats 4000000 in
theorem len_any (h : BkAt w p S K) : Calls Tryz.prog 27 #[.pointer (some ⟨p.b, 0, none⟩)] w fun e w' => e = .returned (.int .i64 (S.L.length : Int)) ∧ w' = w := by
  have HC1 := hide h.isNone
  have HC2 := hide h.len
  have c8 := h.cells 8 _ rfl
  clear h
  go_enter Tryz.func27, Tryz.ntmps27
  go_wp2_with fail
  refine HC1.out.mono ?_
  rintro e w1 ⟨rfl, rfl⟩
  go_wp2_with fail
  refine HC2.out.mono ?_
  rintro e w2 ⟨rfl, rfl⟩
  go_wp2
  go_ret
  exact ⟨rfl, rfl⟩
set_option maxHeartbeats 4000000 in
theorem next_any (h : BkAt w p S K) : Calls Tryz.prog 26 #[.pointer (some ⟨p.b, 0, none⟩)] w fun e w' => e = .returned (.int .u32 (S.n : Int)) ∧ w' = w := by
  have HC1 := hide h.isNone
  have c8 := h.cells 4 _ rfl
  clear h
  go_enter Tryz.func26, Tryz.ntmps26
  go_wp2_with fail
  refine HC1.out.mono ?_
  rintro e w1 ⟨rfl, rfl⟩
  go_wp2
  go_ret
  exact ⟨rfl, rfl⟩
set_option maxHeartbeats 4000000 in
theorem clock_any (h : BkAt w p S K) : Calls Tryz.prog 28 #[.pointer (some ⟨p.b, 0, none⟩)] w fun e w' => e = .returned (.int .i64 S.t) ∧ w' = w := by
  have HC1 := hide h.isNone
  have c8 := h.cells 5 _ rfl
  clear h
  go_enter Tryz.func28, Tryz.ntmps28
  go_wp2_with fail
  refine HC1.out.mono ?_
  rintro e w1 ⟨rfl, rfl⟩
  go_wp2
  go_ret
  exact ⟨rfl, rfl⟩
set_option maxHeartbeats 4000000 in
theorem get_any (h : BkAt w p S K) (hw : S.Wk) (k : Nat) (hk : k < 4294967296) : Calls Tryz.prog 25 #[.pointer (some ⟨p.b, 0, none⟩), .int .u32 (k : Int)] w fun e w' => e = .returned (.tuple #[bgV ((fnd S.L k).getD ⟨0, 0, 0⟩), .int .i64 (if (fnd S.L k).isSome then 0 else 171)]) ∧ BkAt w' p S K ∧ Kept w w' p.own := by
  have b0 := Bx.start h.lt bgz 51
  have h0 := h.then (grown_alloc w (.cells bgz.toArray 51))
  have HC1 := hide h0.isNone
  have hC2 := h0.find hw k hk
  have HB := hide b0
  generalize (fnd S.L k).getD ⟨0, 0, 0⟩ = x at hC2 ⊢
  generalize (if (fnd S.L k).isSome then (0 : Int) else 171) = er at hC2 ⊢
  have HC2 := hide hC2
  clear hC2 h h0 b0
  obtain ⟨xi, xs, xu⟩ := x
  unfold bgV at *
  simp only [bgz] at *
  go_enter Tryz.func25, Tryz.ntmps25
  go_wp2_with fail
  refine HC1.out.mono ?_
  rintro e w1 ⟨rfl, rfl⟩
  go_wp2_with fail
  refine HC2.out.mono ?_
  rintro e w2 ⟨rfl, hA, hk2⟩
  have hX := HB.out.keep hk2
  obtain ⟨d0, d1, d2, d3⟩ := box3 hX.box
  have H3 := hide (And.intro hA hX)
  clear hA hX hk2 HB HC1 HC2
  go_wp2
  obtain ⟨r1, r2⟩ := row3 _ H3.out.2.box (.int .u32 (xi : Int)) (.int .i64 (xs : Int)) (.int .i64 xu)
  have k1 : Kept _ _ (fun i => i = w.heap.size) := Kept.of r2 (fun _ e _ => (Option.some.inj e).symm)
  refine bodyPost_ret (results_bg rfl _ _ w.heap.size ⟨xi, xs, xu⟩ (.int .i64 er) rfl r1 rfl) rfl ⟨rfl, H3.out.1.far k1 (fun i hi e => H3.out.2.nx (by rw [← e]; exact hi)), ?_⟩
  exact H3.out.2.st.kept.trans k1 (fun i hi e => absurd hi (by rw [e]; exact Nat.lt_irrefl _))
/-- What stands at a seat that is taken. -/
theorem BkAt.seat (h : BkAt w p S K) (hw : S.Wk) {s : Nat} {x : Bg} (hx : sat S.L s = some x) : w.cell? ⟨p.sg, s * 3, none⟩ = some (.int .u32 (x.i : Int)) ∧ w.cell? ⟨p.sg, s * 3 + 1, none⟩ = some (.int .i64 (x.s : Int)) ∧ w.cell? ⟨p.sg, s * 3 + 2, none⟩ = some (.int .i64 x.u) := by
  obtain ⟨Lb, R, M, E, T, N, B, C, h, hR, hN⟩ := h
  obtain ⟨hm, hs⟩ := (sat_some hw.one).1 hx
  have h1 := hR.rw x hm
  rw [hs] at h1
  have h2 : s < R.length := by
    apply Classical.byContradiction
    intro hn
    rw [List.getElem?_eq_none (by omega)] at h1
    cases h1
  have h3 : rd R s = x := by unfold rd; rw [h1]; rfl
  have h4 := h.fd.seat h2
  rw [h3] at h4
  exact h4
/-- What a book answers at a seat. -/
def atX (S : Sb) (s : Int) : Bg := if 0 ≤ s ∧ s < (S.a : Int) then (sat S.L s.toNat).getD ⟨0, 0, 0⟩ else ⟨0, 0, 0⟩
def atE (S : Sb) (s : Int) : Int := if 0 ≤ s ∧ s < (S.a : Int) then (if (sat S.L s.toNat).isSome then 0 else 171) else 140
set_option maxHeartbeats 4000000 in
theorem at_any (h : BkAt w p S K) (hw : S.Wk) (s : Int) : Calls Tryz.prog 35 #[.pointer (some ⟨p.b, 0, none⟩), .int .i64 s] w fun e w' => e = .returned (.tuple #[bgV (atX S s), .int .i64 (atE S s)]) ∧ w.grownBy w' none := by
  have m0 := Bm.start h bgz 51
  have HC1 := hide m0.bk.isNone
  have HC2 := hide (fun W => hasSeat_any S.a S.b S.c s W)
  have a0 := m0.ff.a0
  have a1 := m0.ff.a1
  have a2 := m0.ff.a2
  obtain ⟨d0, d1, d2, d3⟩ := box3 m0.box
  by_cases hs : 0 ≤ s ∧ s < (S.a : Int)
  · obtain ⟨n, rfl⟩ := Int.eq_ofNat_of_zero_le hs.1
    have hn : n < S.a := by omega
    rw [decide_eq_true hs] at HC2
    unfold atX atE
    rw [if_pos hs, if_pos hs, Int.toNat_natCast]
    have HC3 : Hid (∀ W, Bm w W w.heap.size bgz 51 p S K → Calls Tryz.prog 88 #[.pointer (some ⟨p.tb, 0, none⟩), .int .i64 (n : Int)] W fun e w' => e = .returned (.bool (sat S.L n).isSome) ∧ W.grownBy w' none) := fun W hW => hW.bk.has n hn
    have HM := hide m0
    cases hq : sat S.L n with
    | some x =>
      have HS : Hid (∀ W, Bm w W w.heap.size bgz 51 p S K → W.cell? ⟨p.sg, n * 3, none⟩ = some (.int .u32 (x.i : Int)) ∧ W.cell? ⟨p.sg, n * 3 + 1, none⟩ = some (.int .i64 (x.s : Int)) ∧ W.cell? ⟨p.sg, n * 3 + 2, none⟩ = some (.int .i64 x.u)) := fun W hW => hW.bk.seat hw hq
      rw [hq] at HC3
      simp only [Option.isSome, Option.getD, if_true] at *
      have h1 : (0 : Int) ≤ (n : Int) := by omega
      have h2 : (n : Int) < (S.a : Int) := by omega
      clear m0 h hs hq hw
      obtain ⟨xi, xs, xu⟩ := x
      unfold bgV limV at *
      simp only [bgz] at *
      go_enter Tryz.func35, Tryz.ntmps35
      go_wp2_with fail
      refine HC1.out.mono ?_
      rintro e w1 ⟨rfl, rfl⟩
      go_wp2_with fail
      refine (HC2.out _).mono ?_
      rintro e w2 ⟨rfl, hg2⟩
      have m2 := HM.out.then hg2
      have a6 := m2.ff.a6
      have HM2 := hide m2
      clear m2 HM a0 a1 a2 d0 d1 d2 d3 HC1 HC2
      go_wp2_with fail
      refine (HC3.out _ HM2.out).mono ?_
      rintro e w3 ⟨rfl, hg3⟩
      have m3 := HM2.out.then hg3
      have a7 := m3.bk.cells 7 _ rfl
      obtain ⟨s0, s1, s2⟩ := HS.out _ m3
      obtain ⟨d0, d1, d2, d3⟩ := box3 m3.box
      have HM3 := hide m3
      clear m3 HM2 a6 HC3 HS
      go_wp2
      obtain ⟨r1, r2⟩ := row3 _ HM3.out.box (.int .u32 (xi : Int)) (.int .i64 (xs : Int)) (.int .i64 xu)
      exact bodyPost_ret (results_bg rfl _ _ w.heap.size ⟨xi, xs, xu⟩ (.int .i64 0) rfl r1 rfl) rfl ⟨rfl, gn_set (gn_set (gn_set HM3.out.gr (Nat.le_refl _)) (Nat.le_refl _)) (Nat.le_refl _)⟩
    | none =>
      rw [hq] at HC3
      simp only [Option.isSome, Option.getD, Bool.false_eq_true, if_false] at *
      clear m0 h hs hq hw
      unfold bgV limV at *
      simp only [bgz] at *
      go_enter Tryz.func35, Tryz.ntmps35
      go_wp2_with fail
      refine HC1.out.mono ?_
      rintro e w1 ⟨rfl, rfl⟩
      go_wp2_with fail
      refine (HC2.out _).mono ?_
      rintro e w2 ⟨rfl, hg2⟩
      have m2 := HM.out.then hg2
      have a6 := m2.ff.a6
      have HM2 := hide m2
      clear m2 HM a0 a1 a2 d0 d1 d2 d3 HC1 HC2
      go_wp2_with fail
      refine (HC3.out _ HM2.out).mono ?_
      rintro e w3 ⟨rfl, hg3⟩
      have m3 := HM2.out.then hg3
      obtain ⟨d0, d1, d2, d3⟩ := box3 m3.box
      have HM3 := hide m3
      clear m3 HM2 a6 HC3
      go_wp2
      obtain ⟨r1, r2⟩ := row3 _ HM3.out.box (.int .u32 0) (.int .i64 0) (.int .i64 0)
      exact bodyPost_ret (results_bg rfl _ _ w.heap.size ⟨0, 0, 0⟩ (.int .i64 171) rfl r1 rfl) rfl ⟨rfl, gn_set (gn_set (gn_set HM3.out.gr (Nat.le_refl _)) (Nat.le_refl _)) (Nat.le_refl _)⟩
  · rw [decide_eq_false hs] at HC2
    unfold atX atE
    rw [if_neg hs, if_neg hs]
    have HM := hide m0
    clear m0 h hs hw
    unfold bgV limV at *
    simp only [bgz] at *
    go_enter Tryz.func35, Tryz.ntmps35
    go_wp2_with fail
    refine HC1.out.mono ?_
    rintro e w1 ⟨rfl, rfl⟩
    go_wp2_with fail
    refine (HC2.out _).mono ?_
    rintro e w2 ⟨rfl, hg2⟩
    have m2 := HM.out.then hg2
    obtain ⟨d0, d1, d2, d3⟩ := box3 m2.box
    have HM3 := hide m2
    clear m2 HM a0 a1 a2 HC1 HC2
    go_wp2
    obtain ⟨r1, r2⟩ := row3 _ HM3.out.box (.int .u32 0) (.int .i64 0) (.int .i64 0)
    exact bodyPost_ret (results_bg rfl _ _ w.heap.size ⟨0, 0, 0⟩ (.int .i64 140) rfl r1 rfl) rfl ⟨rfl, gn_set (gn_set (gn_set HM3.out.gr (Nat.le_refl _)) (Nat.le_refl _)) (Nat.le_refl _)⟩
end
end Go.Proofs.YtjfhilignbeboaaGreatDoor
/- A book in the midst of a law: beside boxes of the law's own. -/
namespace Go.Proofs.YtjfhilignbeboaaGreatDoor
open Go.RowKit
attribute [local go_sem ↓] Go.wp_at_zero Go.wp_at_succ
attribute [local go_sem] Oper.semAt_some
/-- A book at b, made since w, beside boxes. -/
structure Lk (w W : World) (b : Nat) (S : Sb) (K : Nat) (p : Bp) (Bs : List (Nat × List Value × TypeId)) : Prop where
  eb : p.b = b
  bk : BkAt W p S K
  gr : w.grownBy W none
  own : ∀ i, p.own i → w.heap.size ≤ i
  bx : ∀ x ∈ Bs, W.heap[x.1]? = some (.cells x.2.1.toArray x.2.2 (0, 0)) ∧ ¬ p.own x.1 ∧ w.heap.size ≤ x.1
section
variable {w W W' : World} {b : Nat} {S S' : Sb} {K K' : Nat} {p q : Bp} {Bs : List (Nat × List Value × TypeId)}
theorem Lk.kept (h : Lk w W b S K p Bs) (k : Kept W W' p.own) : w.grownBy W' none :=
  ((Kept.new h.gr (fun i => w.heap.size ≤ i)).trans k (fun i _ e => h.own i e)).grown (fun i hi e => by omega)
theorem Lk.step (h : Lk w W b S K p Bs) (k : Bst W W' p q) (hb : BkAt W' q S' K') : Lk w W' b S' K' q Bs :=
  ⟨k.b.trans h.eb, hb, h.kept k.kept, fun i hi => by
    rcases k.own i hi with e | e
    · exact h.own i e
    · exact Nat.le_trans h.gr.size e, fun x hx => by
    obtain ⟨h1, h2, h3⟩ := h.bx x hx
    refine ⟨k.kept.at h1 h2, fun e => ?_, h3⟩
    rcases k.own _ e with e | e
    · exact h2 e
    · have := row_lt h1; omega⟩
theorem Lk.then (h : Lk w W b S K p Bs) (g : W.grownBy W' none) : Lk w W' b S K p Bs := h.step (Bst.grown g p) (h.bk.then g)
theorem Lk.drew (h : Lk w W b S K p Bs) : Lk w W.drew b S K p Bs := h.then (grown_drew W none)
theorem Lk.box (h : Lk w W b S K p Bs) (cs : List Value) (ty : TypeId) : Lk w (W.alloc (.cells cs.toArray ty)) b S K p ((W.heap.size, cs, ty) :: Bs) := by
  have h1 := h.then (grown_alloc W (.cells cs.toArray ty))
  refine ⟨h1.eb, h1.bk, h1.gr, h1.own, fun x hx => ?_⟩
  rcases List.mem_cons.1 hx with rfl | hx
  · exact ⟨heap_alloc_new W _, fun e => Nat.lt_irrefl _ (h.bk.lt _ e), h.gr.size⟩
  · exact h1.bx x hx
theorem Lk.sub {Cs : List (Nat × List Value × TypeId)} (h : Lk w W b S K p Bs) (hs : ∀ x ∈ Cs, x ∈ Bs) : Lk w W b S K p Cs := ⟨h.eb, h.bk, h.gr, h.own, fun x hx => h.bx x (hs x hx)⟩
theorem Lk.bare (h : Lk w W b S K p Bs) : Lk w W b S K p [] := h.sub (fun x hx => by cases hx)
theorem Lk.more (h : Lk w W b S K p Bs) (hk : K ≤ K') : Lk w W b S K' p Bs := ⟨h.eb, h.bk.mono hk, h.gr, h.own, h.bx⟩
theorem Lk.put {X : Nat} {cs : List Value} {ty : TypeId} (h : Lk w W b S K p [(X, cs, ty)]) (j : Nat) (v : Value) : Lk w (W.setCell ⟨X, j, none⟩ v) b S K p [(X, cs.set j v, ty)] := by
  obtain ⟨h1, h2, h3⟩ := h.bx (X, cs, ty) (by simp)
  refine ⟨h.eb, h.bk.far (kept_setCell W X j v) (fun i hi e => h2 (by rw [← e]; exact hi)), grown_then h.gr (grown_setCell W X j v) (fun i e => .inl (by cases e; exact h3)), h.own, fun x hx => ?_⟩
  simp only [List.mem_singleton] at hx
  subst hx
  exact ⟨row_setCell h1 j v, h2, h3⟩
theorem Lk.cell {X : Nat} {cs : List Value} {ty : TypeId} (h : Lk w W b S K p Bs) (hm : (X, cs, ty) ∈ Bs) (j : Nat) (v : Value) (hv : cs[j]? = some v) : W.cell? ⟨X, j, none⟩ = some v := by
  rw [cell_row (h.bx _ hm).1]; exact hv
theorem Lk.free {X : Nat} {cs : List Value} {ty : TypeId} (h : Lk w W b S K p Bs) (hm : (X, cs, ty) ∈ Bs) (j : Nat) : W.frozen? ⟨X, j, none⟩ = false := free_row (h.bx _ hm).1 j
theorem Lk.apply (h : Lk w W b S K p Bs) (ho : S.Ok) (hK : K ≤ 10000000) (hT : Rk.Tab w) (r : Rc) (hr : r.Ok) : Calls Tryz.prog 24 #[.pointer (some ⟨b, 0, none⟩), Rk.rcV r] W fun e w' => e = .returned (.int .i64 (appE S r)) ∧ ∃ q, Lk w w' b (app S r) (K + 1) q Bs ∧ Bst W w' p q := by
  have := apply_any h.bk ho hK r hr (hT.grown h.gr (by simp))
  rw [h.eb] at this
  refine this.mono ?_
  rintro e w' ⟨rfl, q, h1, h2⟩
  exact ⟨rfl, q, h.step h2 h1, h2⟩
theorem Lk.len (h : Lk w W b S K p Bs) : Calls Tryz.prog 27 #[.pointer (some ⟨b, 0, none⟩)] W fun e w' => e = .returned (.int .i64 (S.L.length : Int)) ∧ w' = W := by
  have := len_any h.bk; rw [h.eb] at this; exact this
theorem Lk.next (h : Lk w W b S K p Bs) : Calls Tryz.prog 26 #[.pointer (some ⟨b, 0, none⟩)] W fun e w' => e = .returned (.int .u32 (S.n : Int)) ∧ w' = W := by
  have := next_any h.bk; rw [h.eb] at this; exact this
theorem Lk.clock (h : Lk w W b S K p Bs) : Calls Tryz.prog 28 #[.pointer (some ⟨b, 0, none⟩)] W fun e w' => e = .returned (.int .i64 S.t) ∧ w' = W := by
  have := clock_any h.bk; rw [h.eb] at this; exact this
theorem Lk.seat (h : Lk w W b S K p Bs) (hw : S.Wk) (s : Int) : Calls Tryz.prog 35 #[.pointer (some ⟨b, 0, none⟩), .int .i64 s] W fun e w' => e = .returned (.tuple #[bgV (atX S s), .int .i64 (atE S s)]) ∧ Lk w w' b S K p Bs := by
  have := at_any h.bk hw s; rw [h.eb] at this
  refine this.mono ?_
  rintro e w' ⟨rfl, g⟩
  exact ⟨rfl, h.then g⟩
theorem Lk.get (h : Lk w W b S K p Bs) (hw : S.Wk) (k : Nat) (hk : k < 4294967296) : Calls Tryz.prog 25 #[.pointer (some ⟨b, 0, none⟩), .int .u32 (k : Int)] W fun e w' => e = .returned (.tuple #[bgV ((fnd S.L k).getD ⟨0, 0, 0⟩), .int .i64 (if (fnd S.L k).isSome then 0 else 171)]) ∧ Lk w w' b S K p Bs := by
  have := get_any h.bk hw k hk; rw [h.eb] at this
  refine this.mono ?_
  rintro e w' ⟨rfl, h1, h2⟩
  exact ⟨rfl, h.step (Bst.keep h2) h1⟩
theorem Lk.all (h : Lk w W b S K p Bs) (hw : S.Wk) : Calls Tryz.prog 46 #[.pointer (some ⟨b, 0, none⟩)] W fun e w' => ∃ u, e = .returned u ∧ VlV w' W.heap.size u S.L ∧ Lk w w' b S K p Bs := by
  have := all_any h.bk hw; rw [h.eb] at this
  refine this.mono ?_
  rintro e w' ⟨u, rfl, h1, h2⟩
  exact ⟨u, rfl, h1, h.then h2⟩
theorem Lk.copy (h : Lk w W b S K p Bs) (hw : S.Wk) : Calls Tryz.prog 14 #[.pointer (some ⟨b, 0, none⟩)] W fun e w' => ∃ q : Bp, e = .returned (.pointer (some ⟨q.b, 0, none⟩)) ∧ BkAt w' q S 4096 ∧ Lk w w' b S K p Bs ∧ (∀ i, q.own i → W.heap.size ≤ i) ∧ (∀ i, p.own i → ¬ q.own i) := by
  have := copy_any h.bk hw; rw [h.eb] at this
  refine this.mono ?_
  rintro e w' ⟨q, rfl, h1, h2, h3⟩
  exact ⟨q, rfl, h1, h.then h2, h3, fun i hp hq => by have := h3 i hq; have := h.bk.lt i hp; omega⟩
end
theorem Sb.Ok.new {a b c : Nat} (h : Gx.OkS a b c) : Sb.Ok ⟨a, b, c, 1, 0, []⟩ := by
  obtain ⟨h1, h2, h3, h4, h5, h6⟩ := h
  exact ⟨by simp only; omega, by simp only; omega, by simp only; omega, by simp only; omega, by simp only; omega, by simp only; omega, by simp only; omega, by simp only; omega, by simp only; omega, by simp only [mxC]; omega, List.Pairwise.nil, (fun x hx => by cases hx), (fun x hx => by cases hx), List.Pairwise.nil, (fun x hx => by cases hx), by simp⟩
/-- Records that lie somewhere. -/
def RecsAt (w : World) (ao : Option Addr) (rs : List Rc) : Prop := ∀ j r, rs[j]? = some r → ∃ blk off, ao = some (⟨blk, off, none⟩ : Addr) ∧ w.cell? ⟨blk, off + j * 5, none⟩ = some (.int .i64 r.k) ∧ w.cell? ⟨blk, off + j * 5 + 1, none⟩ = some (.int .u32 r.i) ∧ w.cell? ⟨blk, off + j * 5 + 2, none⟩ = some (.int .i64 r.s) ∧ w.cell? ⟨blk, off + j * 5 + 3, none⟩ = some (.int .i64 r.u) ∧ w.cell? ⟨blk, off + j * 5 + 4, none⟩ = some (.int .i64 r.c)
theorem RecsAt.grown {w w' : World} {ao : Option Addr} {os : List Rc} (h : RecsAt w ao os) (g : w.grownBy w' none) : RecsAt w' ao os := by
  intro j o hj
  obtain ⟨b, off, e, h1, h2, h3, h4, h5⟩ := h j o hj
  exact ⟨b, off, e, g.cell h1 (by simp), g.cell h2 (by simp), g.cell h3 (by simp), g.cell h4 (by simp), g.cell h5 (by simp)⟩
def S0 : Sb := ⟨3, 2, 1, 1, 0, []⟩
def S1 : Sb := ⟨3, 2, 1, 2, 0, [⟨1, 0, 10⟩]⟩
def S2 : Sb := ⟨3, 2, 1, 2, 10, []⟩
theorem S0_ok : S0.Ok := Sb.Ok.new (by decide)
theorem app0 : appE S0 ⟨1, 1, 0, 10, 0⟩ = 0 ∧ app S0 ⟨1, 1, 0, 10, 0⟩ = S1 := ⟨by decide, rfl⟩
theorem app1 : appE S1 ⟨1, 2, 0, 10, 0⟩ = 170 ∧ app S1 ⟨1, 2, 0, 10, 0⟩ = S1 := ⟨by decide, rfl⟩
theorem app2 : appE S1 ⟨5, 0, 0, 0, 10⟩ = 0 ∧ app S1 ⟨5, 0, 0, 0, 10⟩ = S2 := ⟨by decide, rfl⟩
theorem S1_ok : S1.Ok := by rw [← app0.2]; exact S0_ok.app _
end Go.Proofs.YtjfhilignbeboaaGreatDoor
/- What the rows' listed table gives; a world for the witnesses; arguments that are rows of bytes, records: shared by the rows' proofs. -/
namespace Go.Proofs.YtjfhilignbeboaaGreatDoor
open Go.ChangeShapes Go.WideShapes Go.ChangeAt Go.RowKit Go.Deep

theorem seat_own : ownKnob Tryz.prog.godebug = none := by kernel_rfl
theorem seat_laid : laidOutB Tryz.prog = true := by kernel_rfl
theorem gTab : Tryz.prog.globalNamed "gangway/records.fieldsOf" = some 0 := by kernel_rfl
theorem gTabType : (Tryz.prog.globals[0]?).map (·.type) = some 127 := by kernel_rfl
theorem cells160 : Tryz.prog.cellsOf 127 = 24 := by kernel_rfl
theorem cells159 : Tryz.prog.cellsOf 126 = 4 := by kernel_rfl
theorem cells4 : Tryz.prog.cellsOf 4 = 1 := by kernel_rfl
theorem cellsOf46 : Tryz.prog.cellsOf 28 = 5 := by kernel_rfl
theorem cellsOf44 : Tryz.prog.cellsOf 26 = 1 := by kernel_rfl
theorem cellsOf24 : Tryz.prog.cellsOf 23 = 1 := by kernel_rfl
theorem cellsOf3 : Tryz.prog.cellsOf 3 = 1 := by kernel_rfl
theorem cellsOf2 : Tryz.prog.cellsOf 2 = 1 := by kernel_rfl
theorem listOf4 {α : Type} {l : List α} (h : l.length = 4) : ∃ a b c d, l = [a, b, c, d] := by
  match l, h with
  | [a, b, c, d], _ => exact ⟨a, b, c, d, rfl⟩
theorem listOf5 {α : Type} {l : List α} (h : l.length = 5) : ∃ a b c d e, l = [a, b, c, d, e] := by
  match l, h with
  | [a, b, c, d, e], _ => exact ⟨a, b, c, d, e, rfl⟩
variable {H : Type} {enc : TypeId × Value → H}
/-- Four bools that read as such lie so. -/
theorem cells_fields {w : World} {base : Nat} {sp : Nat → Bool} {held : Bool} {fuel : Nat} {cs : List Value} {a b c d : Bool} {p : List MemPlace}
    (h : DataW.trod enc Tryz.prog w base sp held fuel 126 cs = some (.agg [.lit (.bool a), .lit (.bool b), .lit (.bool c), .lit (.bool d)], p)) : cs = [.bool a, .bool b, .bool c, .bool d] := by
  obtain ⟨xs, n, _, hx, hl, hsz, hf⟩ := DataW.trod_struct Tryz.underlying126 h
  rw [cells159] at hl
  obtain ⟨v0, v1, v2, v3, rfl⟩ := listOf4 hl
  obtain ⟨y0, y1, y2, y3, rfl⟩ := listOf4 (show xs.length = 4 from hsz)
  have f0 : DataW.trod enc Tryz.prog w base sp held n 4 [v0] = some y0 := by simpa [cells4] using hf 0 _ rfl
  have f1 : DataW.trod enc Tryz.prog w base sp held n 4 [v1] = some y1 := by simpa [cells4] using hf 1 _ rfl
  have f2 : DataW.trod enc Tryz.prog w base sp held n 4 [v2] = some y2 := by simpa [cells4] using hf 2 _ rfl
  have f3 : DataW.trod enc Tryz.prog w base sp held n 4 [v3] = some y3 := by simpa [cells4] using hf 3 _ rfl
  obtain ⟨b0, e0, rfl⟩ := DataW.trod_bool Tryz.underlying4 f0
  obtain ⟨b1, e1, rfl⟩ := DataW.trod_bool Tryz.underlying4 f1
  obtain ⟨b2, e2, rfl⟩ := DataW.trod_bool Tryz.underlying4 f2
  obtain ⟨b3, e3, rfl⟩ := DataW.trod_bool Tryz.underlying4 f3
  have hd := congrArg Prod.fst hx
  simp at hd e0 e1 e2 e3
  obtain ⟨rfl, rfl, rfl, rfl⟩ := hd
  rw [e0, e1, e2, e3]
theorem table {W : World} (h : laidMetH Tryz.prog [("gangway/records.fieldsOf", Rows.laid_gangway_records_fieldsOf)] W) : Rk.Tab W := by
  have h' : laidMet Tryz.prog [("gangway/records.fieldsOf", Rows.laid_gangway_records_fieldsOf)] W := h
  obtain ⟨ps, ⟨g', t', cs, fuel, p, q, hg', ht', hvar, hd, _, _⟩, _⟩ := h'
  obtain rfl := Option.some.inj (gTab.symm.trans hg')
  obtain rfl := Option.some.inj (gTabType.symm.trans ht')
  cases fuel with
  | zero => simp [DataW.trod] at hd
  | succ fuel =>
    simp only [DataW.trod, Tryz.underlying127, cells160, cells159] at hd
    split at hd
    · rename_i hl
      obtain ⟨xs, hm, hx⟩ := Option.map_eq_some_iff.1 hd
      have hxs := congrArg Prod.fst hx
      simp only [Rows.laid_gangway_records_fieldsOf, DataW.agg.injEq] at hxs
      have key : ∀ i (a b c d : Bool), i < 6 → (xs.map (·.1))[i]? = some (.agg [.lit (.bool a), .lit (.bool b), .lit (.bool c), .lit (.bool d)]) → (cs.toList.drop (i * 4)).take 4 = [.bool a, .bool b, .bool c, .bool d] := by
        intro i a b c d hi he
        obtain ⟨y, hy, hf⟩ := Lib.mapM_at hm i i (by simp [hi])
        rw [List.getElem?_map, hy] at he
        obtain ⟨y1, y2⟩ := y
        simp at he
        subst he
        exact cells_fields hf
      rw [hxs] at key
      have k0 := key 0 _ _ _ _ (by decide) rfl
      have k1 := key 1 _ _ _ _ (by decide) rfl
      have k2 := key 2 _ _ _ _ (by decide) rfl
      have k3 := key 3 _ _ _ _ (by decide) rfl
      have k4 := key 4 _ _ _ _ (by decide) rfl
      have k5 := key 5 _ _ _ _ (by decide) rfl
      have hall : cs.toList = Rk.tabB.map Value.bool := by
        have e : cs.toList = (cs.toList.drop (0 * 4)).take 4 ++ ((cs.toList.drop (1 * 4)).take 4 ++ ((cs.toList.drop (2 * 4)).take 4 ++ ((cs.toList.drop (3 * 4)).take 4 ++ ((cs.toList.drop (4 * 4)).take 4 ++ (cs.toList.drop (5 * 4)).take 4)))) := by
          have s : ∀ n, cs.toList.drop n = (cs.toList.drop n).take 4 ++ cs.toList.drop (n + 4) := by
            intro n
            conv => lhs; rw [← List.take_append_drop 4 (cs.toList.drop n), List.drop_drop]
          have z : (cs.toList.drop (5 * 4)).take 4 = cs.toList.drop (5 * 4) := List.take_of_length_le (by rw [List.length_drop, hl]; decide)
          rw [z, ← s (4 * 4), ← s (3 * 4), ← s (2 * 4), ← s (1 * 4), ← s (0 * 4)]
          simp
        rw [e, k0, k1, k2, k3, k4, k5]
        rfl
      intro j hj
      have := World.var?_cell gTab hvar j
      rw [this, show cs[j]? = cs.toList[j]? by simp, hall, List.getElem?_map, List.getD_eq_getElem?_getD]
      have hjl : j < Rk.tabB.length := hj
      rw [List.getElem?_eq_getElem hjl]
      rfl
    · cases hd
/-- A world for the witness: the table (block 0) holding what its initialiser lays. -/
noncomputable def laidWorld (os : Os) : World :=
  { World.holding Tryz.prog os ⟨#[], #[], []⟩ with heap := (World.holding Tryz.prog os ⟨#[], #[], []⟩).heap.modify 0 fun
      | .cells _ t frozen => .cells (Rk.tabB.map Value.bool).toArray t frozen
      | o => o }
set_option maxRecDepth 20000 in
/-- An argument that is a record. -/
theorem open_recordArg {w : World} {base : Nat} {spare : Nat → Bool} {held : Bool} {r : Reach} {b0 : Nat} {v : Value} {d : DataW H} {ps : List MemPlace} (hval : Value.okWide Tryz.prog w r b0 28 v) (hd : DataW.Trod enc Tryz.prog w base spare held 28 v d ps) :
    ∃ r : Rc, v = Rk.rcV r ∧ r.Ok := by
  obtain ⟨cs, rfl, _⟩ := okWide_struct Tryz.underlying28 hval
  obtain ⟨fuel, h⟩ := hd
  have h : DataW.trod enc Tryz.prog w base spare held fuel 28 cs.toList = some (d, ps) := h
  obtain ⟨xs, n, _, hx, hl, hsz, hf⟩ := DataW.trod_struct Tryz.underlying28 h
  rw [cellsOf46] at hl
  obtain ⟨v0, v1, v2, v3, v4, hc⟩ := listOf5 hl
  obtain ⟨y0, y1, y2, y3, y4, rfl⟩ := listOf5 (show xs.length = 5 from hsz)
  rw [hc] at hf
  have f0 : DataW.trod enc Tryz.prog w base spare held n 26 [v0] = some y0 := by simpa [cellsOf44] using hf 0 _ rfl
  have f1 : DataW.trod enc Tryz.prog w base spare held n 23 [v1] = some y1 := by simpa [cellsOf24] using hf 1 _ rfl
  have f2 : DataW.trod enc Tryz.prog w base spare held n 3 [v2] = some y2 := by simpa [cellsOf3] using hf 2 _ rfl
  have f3 : DataW.trod enc Tryz.prog w base spare held n 2 [v3] = some y3 := by simpa [cellsOf2] using hf 3 _ rfl
  have f4 : DataW.trod enc Tryz.prog w base spare held n 2 [v4] = some y4 := by simpa [cellsOf2] using hf 4 _ rfl
  obtain ⟨a, e0, rfl, wa⟩ := DataW.trod_int Tryz.underlying26 f0
  obtain ⟨b, e1, rfl, wb⟩ := DataW.trod_int Tryz.underlying23 f1
  obtain ⟨c, e2, rfl, wc⟩ := DataW.trod_int Tryz.underlying3 f2
  obtain ⟨e, e3, rfl, we⟩ := DataW.trod_int Tryz.underlying2 f3
  obtain ⟨f, e4, rfl, wf⟩ := DataW.trod_int Tryz.underlying2 f4
  simp only [List.cons.injEq, and_true] at e0 e1 e2 e3 e4
  have ba := bounds_i64 wa
  have bb := bounds_u32 wb
  have bc := bounds_i64 wc
  have be := bounds_i64 we
  have bf := bounds_i64 wf
  refine ⟨⟨a, b, c, e, f⟩, ?_, ⟨by simp only; omega, by simp only; omega, by simp only; omega, by simp only; omega, by simp only; omega, by simp only; omega, by simp only; omega, by simp only; omega, by simp only; omega, by simp only; omega⟩⟩
  rw [e0, e1, e2, e3, e4] at hc
  unfold Rk.rcV
  congr 1
  cases cs
  simpa using hc
theorem cellsOf46' : Tryz.prog.cellsOf 28 = 5 := by kernel_rfl
theorem open_rec {w : World} {base n : Nat} {spare : Nat → Bool} {held : Bool} {a : Addr} {cs : List Value} {x : DataW H × List MemPlace} (hc : w.cells? base a 5 = some cs) (h : DataW.trod enc Tryz.prog w base spare held n 28 cs = some x) :
    ∃ r : Rc, r.Ok ∧ a = ⟨a.block, a.off, none⟩ ∧ w.cell? ⟨a.block, a.off, none⟩ = some (.int .i64 r.k) ∧ w.cell? ⟨a.block, a.off + 1, none⟩ = some (.int .u32 r.i) ∧ w.cell? ⟨a.block, a.off + 2, none⟩ = some (.int .i64 r.s) ∧ w.cell? ⟨a.block, a.off + 3, none⟩ = some (.int .i64 r.u) ∧ w.cell? ⟨a.block, a.off + 4, none⟩ = some (.int .i64 r.c) := by
  obtain ⟨_, hlen, hcell⟩ := World.cells?_some hc
  obtain ⟨xs, n, _, rfl, hl, hsz, hf⟩ := DataW.trod_struct Tryz.underlying28 h
  obtain ⟨v0, v1, v2, v3, v4, rfl⟩ := listOf5 hlen
  obtain ⟨y0, y1, y2, y3, y4, rfl⟩ := listOf5 (show xs.length = 5 from hsz)
  clear hl hsz
  have f0 : DataW.trod enc Tryz.prog w base spare held n 26 [v0] = some y0 := by simpa [cellsOf44] using hf 0 _ rfl
  have f1 : DataW.trod enc Tryz.prog w base spare held n 23 [v1] = some y1 := by simpa [cellsOf24] using hf 1 _ rfl
  have f2 : DataW.trod enc Tryz.prog w base spare held n 3 [v2] = some y2 := by simpa [cellsOf3] using hf 2 _ rfl
  have f3 : DataW.trod enc Tryz.prog w base spare held n 2 [v3] = some y3 := by simpa [cellsOf2] using hf 3 _ rfl
  have f4 : DataW.trod enc Tryz.prog w base spare held n 2 [v4] = some y4 := by simpa [cellsOf2] using hf 4 _ rfl
  obtain ⟨b0, e0, rfl, wa⟩ := DataW.trod_int Tryz.underlying26 f0
  obtain ⟨b1, e1, rfl, wb⟩ := DataW.trod_int Tryz.underlying23 f1
  obtain ⟨b2, e2, rfl, wc⟩ := DataW.trod_int Tryz.underlying3 f2
  obtain ⟨b3, e3, rfl, wd⟩ := DataW.trod_int Tryz.underlying2 f3
  obtain ⟨b4, e4, rfl, we⟩ := DataW.trod_int Tryz.underlying2 f4
  simp only [List.cons.injEq, and_true] at e0 e1 e2 e3 e4
  subst e0 e1 e2 e3 e4
  have ba := bounds_i64 wa
  have bb := bounds_u32 wb
  have bc := bounds_i64 wc
  have bd := bounds_i64 wd
  have be := bounds_i64 we
  have g0 := hcell 0 (by omega)
  have ha : a = ⟨a.block, a.off, none⟩ := by
    have h1 : w.cell? a = some (.int .i64 b0) := by simpa [Addr.add] using g0
    have h2 : a.spot = none := by
      unfold World.cell? at h1
      split at h1
      · split at h1
        · cases h1
        · rename_i hs; simpa using hs
      · cases h1
    cases a; simp_all
  rw [ha] at hcell
  refine ⟨⟨b0, b1, b2, b3, b4⟩, ⟨by simp only; omega, by simp only; omega, by simp only; omega, by simp only; omega, by simp only; omega, by simp only; omega, by simp only; omega, by simp only; omega, by simp only; omega, by simp only; omega⟩, ha, ?_, ?_, ?_, ?_, ?_⟩
  · simpa [Addr.add_lit] using hcell 0 (by omega)
  · simpa [Addr.add_lit] using hcell 1 (by omega)
  · simpa [Addr.add_lit] using hcell 2 (by omega)
  · simpa [Addr.add_lit] using hcell 3 (by omega)
  · simpa [Addr.add_lit] using hcell 4 (by omega)
theorem open_recsB {w : World} {base len n : Nat} {spare : Nat → Bool} {held : Bool} {a : Addr} {D : Nat → DataW H} {Pl : Nat → List MemPlace}
    (h : ∀ i, i < len → ∃ cs', w.cells? base (a.add (i * 5)) 5 = some cs' ∧ DataW.trod enc Tryz.prog w base spare held n 28 cs' = some (D i, Pl i)) :
    ∃ os : List Rc, os.length = len ∧ RecsAt w (some a) os ∧ (∀ o ∈ os, o.Ok) := by
  have hex : ∀ i, i < len → ∃ r : Rc, r.Ok ∧ ∃ blk off, some a = some (⟨blk, off, none⟩ : Addr) ∧ w.cell? ⟨blk, off + i * 5, none⟩ = some (.int .i64 r.k) ∧ w.cell? ⟨blk, off + i * 5 + 1, none⟩ = some (.int .u32 r.i) ∧ w.cell? ⟨blk, off + i * 5 + 2, none⟩ = some (.int .i64 r.s) ∧ w.cell? ⟨blk, off + i * 5 + 3, none⟩ = some (.int .i64 r.u) ∧ w.cell? ⟨blk, off + i * 5 + 4, none⟩ = some (.int .i64 r.c) := by
    intro i hi
    obtain ⟨cs', hc, ht⟩ := h i hi
    obtain ⟨o, hok, _, h1, h2, h3, h4, h5⟩ := open_rec hc ht
    have ha : a = ⟨a.block, a.off, none⟩ := by
      obtain ⟨cs0, hc0, ht0⟩ := h 0 (by omega)
      obtain ⟨_, _, he, _⟩ := open_rec hc0 ht0
      simpa [Addr.add] using he
    have e1 : (a.add (i * 5)).block = a.block := by unfold Addr.add; split <;> rfl
    have e2 : (a.add (i * 5)).off = a.off + i * 5 := by rw [ha, Addr.add_lit]
    rw [e1, e2] at h1 h2 h3 h4 h5
    exact ⟨o, hok, a.block, a.off, by rw [← ha], h1, h2, h3, h4, h5⟩
  clear h
  induction len with
  | zero => exact ⟨[], rfl, (fun j o h => by simp at h), fun o ho => by simp at ho⟩
  | succ k ih =>
    obtain ⟨os, h1, h2, h3⟩ := ih (fun i hi => hex i (by omega))
    obtain ⟨o, hok, g1⟩ := hex k (by omega)
    refine ⟨os ++ [o], by simp [h1], ?_, ?_⟩
    · intro j o' hj
      by_cases hjk : j < os.length
      · rw [List.getElem?_append_left hjk] at hj; exact h2 j o' hj
      · have hlt := (List.getElem?_eq_some_iff.1 hj).1
        have hjk2 : j = k := by simp at hlt; omega
        subst hjk2
        rw [List.getElem?_append_right (by omega), h1, Nat.sub_self] at hj
        simp at hj
        subst hj
        exact g1
    · intro o' ho'
      rcases List.mem_append.1 ho' with h | h
      · exact h3 o' h
      · simp at h; rw [h]; exact hok
set_option maxRecDepth 20000 in
/-- An argument that is a slice of records. -/
theorem open_recsArg {w : World} {r : Reach} {b0 : Nat} {v : Value} {d : DataW H} {p0 : List MemPlace} (hval : Value.okWide Tryz.prog w r b0 100 v) (h0 : DataW.Trod enc Tryz.prog w 0 (fun _ => true) true 100 v d p0) :
    ∃ (ao : Option Addr) (len cap : Nat) (os : List Rc), v = .slice ao len cap ∧ os.length = len ∧ RecsAt w ao os ∧ (∀ o ∈ os, o.Ok) ∧ len ≤ 9223372036854775807 := by
  obtain ⟨ao, len0, cap0, rfl⟩ := okWide_slice Tryz.underlying100 hval
  obtain ⟨fuel, hf⟩ := h0
  rcases open_slice Tryz.underlying100 hf with ⟨hcs, _⟩ | ⟨a, len, cap, m, n, D, Pl, hcs, _, hl, hm, hmm, hx, hel⟩
  · simp [Value.cells] at hcs
    obtain ⟨rfl, rfl, rfl⟩ := hcs
    exact ⟨none, 0, 0, [], rfl, rfl, (fun j o h => by simp at h), (fun o ho => by simp at ho), by omega⟩
  · simp [Value.cells] at hcs
    obtain ⟨rfl, rfl, rfl⟩ := hcs
    have hlm : len0 ≤ m := by rw [hmm]; split <;> omega
    rw [cellsOf46] at hel
    obtain ⟨os, h1, h2, h3⟩ := open_recsB (len := len0) (fun i hi => hel i (by omega))
    exact ⟨_, len0, cap0, os, rfl, h1, h2, h3, by unfold maxLen at hm; omega⟩
end Go.Proofs.YtjfhilignbeboaaGreatDoor
namespace Go.Proofs.YtjfhilignbeboaaGreatDoor
/- What records come to: Of. -/
open Go.RowKit
attribute [local go_sem ↓] Go.wp_at_zero Go.wp_at_succ
attribute [local go_sem] Oper.semAt_some
theorem Lk.base {w w0 W : World} {b : Nat} {S : Sb} {K : Nat} {p : Bp} {Bs : List (Nat × List Value × TypeId)} (h : Lk w0 W b S K p Bs) (g : w.grownBy w0 none) : Lk w W b S K p Bs :=
  ⟨h.eb, h.bk, grown_trans g h.gr, fun i hi => Nat.le_trans g.size (h.own i hi), fun x hx => ⟨(h.bx x hx).1, (h.bx x hx).2.1, Nat.le_trans g.size (h.bx x hx).2.2⟩⟩
/-- A new book's state. -/
def nS (a b c : Nat) : Sb := ⟨a, b, c, 1, 0, []⟩
theorem nS_ok {a b c : Nat} (h : Gx.OkS a b c) : (nS a b c).Ok := Sb.Ok.new h
end Go.Proofs.YtjfhilignbeboaaGreatDoor
/- Records as bytes: numbers alone. -/
namespace Go.Proofs.YtjfhilignbeboaaGreatDoor
/-- How many bytes a kind has. -/
def sz (k : Int) : Nat := if k = 1 then 15 else if k = 2 then 5 else if k = 3 then 5 else if k = 4 then 7 else if k = 5 then 9 else 0
theorem sz_zero {k : Int} (h : ¬ (1 ≤ k ∧ k ≤ 5)) : sz k = 0 := by
  unfold sz
  rw [if_neg (by omega), if_neg (by omega), if_neg (by omega), if_neg (by omega), if_neg (by omega)]
end Go.Proofs.YtjfhilignbeboaaGreatDoor
/- Requests as bytes: numbers alone, without the program. -/
namespace Go.Proofs.YtjfhilignbeboaaGreatDoor.Rs
/-- A request: kind, tag, id, seat, ttl. -/
structure Rq where
  k : Int
  t : Int
  i : Int
  s : Int
  u : Int
/-- Its numbers are such. -/
structure Rq.Ok (q : Rq) : Prop where
  k0 : -9223372036854775808 ≤ q.k
  k1 : q.k ≤ 9223372036854775807
  t0 : 0 ≤ q.t
  t1 : q.t < 4294967296
  i0 : 0 ≤ q.i
  i1 : q.i < 4294967296
  s0 : -9223372036854775808 ≤ q.s
  s1 : q.s ≤ 9223372036854775807
  u0 : -9223372036854775808 ≤ q.u
  u1 : q.u ≤ 9223372036854775807
/-- What a kind has. -/
def hI (k : Int) : Bool := decide (k = 2 ∨ k = 3 ∨ k = 4 ∨ k = 5)
def hS (k : Int) : Bool := decide (k = 1 ∨ k = 4 ∨ k = 6)
def hL (k : Int) : Bool := decide (k = 1 ∨ k = 7)
/-- A number in its place. -/
def inP (b : Bool) (n m : Int) : Bool := if b then decide (0 ≤ n ∧ n ≤ m) else decide (n = 0)
/-- It may be. -/
def Rq.mayB (q : Rq) : Bool := decide (1 ≤ q.k ∧ q.k ≤ 10) && (inP (hI q.k) q.i 4294967295 && (inP (hS q.k) q.s 65535 && inP (hL q.k) q.u 9223372036854775807))
def Rq.May (q : Rq) : Prop := q.mayB = true
instance (q : Rq) : Decidable q.May := by unfold Rq.May; exact inferInstance
/-- What Check answers. -/
def chk (q : Rq) : Int := if q.May then 0 else 200
def zRq : Rq := ⟨0, 0, 0, 0, 0⟩
theorem may_parts {q : Rq} (h : q.May) : (1 ≤ q.k ∧ q.k ≤ 10) ∧ inP (hI q.k) q.i 4294967295 = true ∧ inP (hS q.k) q.s 65535 = true ∧ inP (hL q.k) q.u 9223372036854775807 = true := by
  unfold Rq.May Rq.mayB at h
  simp only [Bool.and_eq_true, decide_eq_true_eq] at h
  exact h
theorem inP_true {b : Bool} {n m : Int} (hm : 0 ≤ m) (h : inP b n m = true) : 0 ≤ n ∧ n ≤ m ∧ (b = false → n = 0) := by
  unfold inP at h
  cases b with
  | false => rw [if_neg (by decide)] at h; have := of_decide_eq_true h; subst this; exact ⟨by omega, hm, fun _ => rfl⟩
  | true => rw [if_pos rfl] at h; have := of_decide_eq_true h; exact ⟨this.1, this.2, fun e => by cases e⟩
/-- What may be has numbers that their bytes hold. -/
theorem may_nums {q : Rq} (h : q.May) : (1 ≤ q.k ∧ q.k ≤ 10) ∧ (0 ≤ q.i ∧ q.i ≤ 4294967295 ∧ (hI q.k = false → q.i = 0)) ∧ (0 ≤ q.s ∧ q.s ≤ 65535 ∧ (hS q.k = false → q.s = 0)) ∧ (0 ≤ q.u ∧ q.u ≤ 9223372036854775807 ∧ (hL q.k = false → q.u = 0)) := by
  obtain ⟨a, b, c, d⟩ := may_parts h
  exact ⟨a, inP_true (by decide) b, inP_true (by decide) c, inP_true (by decide) d⟩
end Go.Proofs.YtjfhilignbeboaaGreatDoor.Rs
