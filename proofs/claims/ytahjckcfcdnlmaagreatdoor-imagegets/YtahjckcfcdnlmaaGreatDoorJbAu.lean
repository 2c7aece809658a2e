/- Texts joined: ImA. -/
import Derived.Test.YtahjckcfcdnlmaaGreatDoorJbAt
/- What is told, copied, and whether it may be. -/
namespace Go.Proofs.YtahjckcfcdnlmaaGreatDoor
open Go.RowKit
attribute [local go_sem ↓] Go.wp_at_zero Go.wp_at_succ
attribute [local go_sem] Oper.semAt_some
def z6 : List Value := [.int .i64 0, .int .i64 0, .int .i64 0, .int .u32 0, .int .i64 0, .slice none 0 0]
theorem row6 (w : World) {g : Nat} {t : TypeId} {x0 x1 x2 x3 x4 x5 : Value} (h : w.heap[g]? = some (.cells [x0, x1, x2, x3, x4, x5].toArray t (0, 0))) (a b c d e f : Value) :
    ((((((w.setCell ⟨g, 0, none⟩ a).setCell ⟨g, 1, none⟩ b).setCell ⟨g, 2, none⟩ c).setCell ⟨g, 3, none⟩ d).setCell ⟨g, 4, none⟩ e).setCell ⟨g, 5, none⟩ f).heap[g]? = some (.cells [a, b, c, d, e, f].toArray t (0, 0)) :=
  row_setCell (row_setCell (row_setCell (row_setCell (row_setCell (row_setCell h 0 a) 1 b) 2 c) 3 d) 4 e) 5 f
theorem gr6 {w0 w : World} {g : Nat} (hg : w0.grownBy w none) (hw : w0.heap.size ≤ g) (a b c d e f : Value) :
    w0.grownBy ((((((w.setCell ⟨g, 0, none⟩ a).setCell ⟨g, 1, none⟩ b).setCell ⟨g, 2, none⟩ c).setCell ⟨g, 3, none⟩ d).setCell ⟨g, 4, none⟩ e).setCell ⟨g, 5, none⟩ f) none :=
  gn_set (gn_set (gn_set (gn_set (gn_set (gn_set hg hw) hw) hw) hw) hw) hw
/-- What was told, copied: it lies at B, its bookings in a row of their own. -/
structure TdS (w0 W : World) (B : Nat) (x0 x1 x2 x3 x4 : Value) (vo : Option Addr) (len vcap : Nat) (X : List Bw) : Prop where
  bx : W.heap[B]? = some (.cells [x0, x1, x2, x3, x4, .slice vo len vcap].toArray 33 (0, 0))
  gr : w0.grownBy W none
  lo : w0.heap.size ≤ B
  ro : BwA W (.slice vo len vcap) X
  fr : ∀ a, vo = some a → w0.heap.size ≤ a.block
theorem TdS.then {w0 W W' : World} {B : Nat} {x0 x1 x2 x3 x4 : Value} {vo : Option Addr} {len vcap : Nat} {X : List Bw} (h : TdS w0 W B x0 x1 x2 x3 x4 vo len vcap X) (g : W.grownBy W' none) : TdS w0 W' B x0 x1 x2 x3 x4 vo len vcap X :=
  ⟨(g.block _ (row_lt h.bx) (by simp)).trans h.bx, grown_trans h.gr g, h.lo, h.ro.then g, h.fr⟩
theorem BwA.off {w w' : World} {vo : Option Addr} {n cap : Nat} {X : List Bw} {k : Nat} (h : BwA w (.slice vo n cap) X) (g : w.grownBy w' (some k)) (hk : ∀ a, vo = some a → a.block ≠ k) : BwA w' (.slice vo n cap) X := by
  obtain ⟨ao, c, e, hx⟩ := h.ex
  refine ⟨ao, c, e, fun i hi => ?_⟩
  obtain ⟨b, e2, h1, h2, h3⟩ := hx i hi
  have e3 : vo = ao := by simp at e; exact e.1
  have hb : some b ≠ some k := fun e4 => hk ⟨b, 0, none⟩ (by rw [e3, e2]) (Option.some.inj e4)
  exact ⟨b, e2, g.cell h1 hb, g.cell h2 hb, g.cell h3 hb⟩
theorem own_fr {w : World} {b n len cap size : Nat} {e : TypeId} {vo : Option Addr} {xs : List Value} (h : w.ownsRow b e size (.slice vo len cap) n xs) : ∀ a, vo = some a → b ≤ a.block := by
  intro a ha
  rcases h.2 with ⟨e1, _⟩ | ⟨g, c, cur, e1, hb, _⟩
  · simp at e1; rw [e1.1] at ha; cases ha
  · simp at e1; rw [e1.1] at ha; cases ha; exact hb
theorem off6 (w : World) {g k : Nat} (hk : k ≠ g) (a b c d e f : Value) {j : Nat} {v : Value} (h : w.cell? ⟨k, j, none⟩ = some v) :
    ((((((w.setCell ⟨g, 0, none⟩ a).setCell ⟨g, 1, none⟩ b).setCell ⟨g, 2, none⟩ c).setCell ⟨g, 3, none⟩ d).setCell ⟨g, 4, none⟩ e).setCell ⟨g, 5, none⟩ f).cell? ⟨k, j, none⟩ = some v := by
  have hn : some (⟨k, j, none⟩ : Addr).block ≠ some g := fun e => hk (Option.some.inj e)
  exact (grown_setCell _ g 5 f).cell ((grown_setCell _ g 4 e).cell ((grown_setCell _ g 3 d).cell ((grown_setCell _ g 2 c).cell ((grown_setCell _ g 1 b).cell ((grown_setCell _ g 0 a).cell h hn) hn) hn) hn) hn) hn
theorem set6 (w : World) (g : Nat) (a b c d e f : Value) : w.grownBy ((((((w.setCell ⟨g, 0, none⟩ a).setCell ⟨g, 1, none⟩ b).setCell ⟨g, 2, none⟩ c).setCell ⟨g, 3, none⟩ d).setCell ⟨g, 4, none⟩ e).setCell ⟨g, 5, none⟩ f) (some g) :=
  grown_trans (grown_trans (grown_trans (grown_trans (grown_trans (grown_setCell _ g 0 a) (grown_setCell _ g 1 b)) (grown_setCell _ g 2 c)) (grown_setCell _ g 3 d)) (grown_setCell _ g 4 e)) (grown_setCell _ g 5 f)
theorem tds_a {w0 w1 : World} {x0 x1 x2 x3 x4 : Value} {vo : Option Addr} {len vcap : Nat} {X : List Bw} (g : w0.grownBy w1 none) (hv : BwA w1 (.slice vo len vcap) X) (hf : ∀ a, vo = some a → w0.heap.size ≤ a.block) : TdS w0 (w1.alloc (.cells [x0, x1, x2, x3, x4, .slice vo len vcap].toArray 33)) w1.heap.size x0 x1 x2 x3 x4 vo len vcap X :=
  ⟨heap_alloc_new w1 _, gn_alloc g _, g.size, hv.then (grown_alloc w1 _), hf⟩
theorem tds_b {w0 w1 : World} {x0 x1 x2 x3 x4 : Value} {vo : Option Addr} {len vcap : Nat} {X : List Bw} (g : (w0.alloc (.cells z6.toArray 33)).grownBy w1 none) (hv : w1.ownsRow (w0.heap.size + 1) 45 3 (.slice vo len vcap) len (bwcs X)) (hl : X.length = len) :
    TdS w0 ((((((w1.setCell ⟨w0.heap.size, 0, none⟩ x0).setCell ⟨w0.heap.size, 1, none⟩ x1).setCell ⟨w0.heap.size, 2, none⟩ x2).setCell ⟨w0.heap.size, 3, none⟩ x3).setCell ⟨w0.heap.size, 4, none⟩ x4).setCell ⟨w0.heap.size, 5, none⟩ (.slice vo len vcap)) w0.heap.size x0 x1 x2 x3 x4 vo len vcap X := by
  have hz := (g.block _ (row_lt (heap_alloc_new w0 _)) (by simp)).trans (heap_alloc_new w0 (.cells z6.toArray 33))
  refine ⟨row6 w1 hz x0 x1 x2 x3 x4 _, gr6 (grown_trans (grown_alloc w0 _) g) (Nat.le_refl _) _ _ _ _ _ _, Nat.le_refl _, ?_, fun a ha => by have := own_fr hv a ha; omega⟩
  refine BwA.own (b := w0.heap.size + 1) ?_
  rw [hl]
  have st : ∀ (W : World) (j : Nat) (u : Value), W.ownsRow (w0.heap.size + 1) 45 3 (.slice vo len vcap) len (bwcs X) → (W.setCell ⟨w0.heap.size, j, none⟩ u).ownsRow (w0.heap.size + 1) 45 3 (.slice vo len vcap) len (bwcs X) := by
    intro W j u h
    refine Ix.row_keep h (fun q hq => ?_)
    obtain ⟨hb, cur, hc⟩ := Ix.own_block h hq
    exact (grown_setCell W w0.heap.size j u).block q (row_lt hc) (fun e => by have := Option.some.inj e; omega)
  exact st _ _ _ (st _ _ _ (st _ _ _ (st _ _ _ (st _ _ _ (st _ _ _ hv)))))
def TdP (w : World) (a b c : Int) (n : Nat) (t : Int) (len : Nat) (X : List Bw) (e : Ending) (w' : World) : Prop :=
  ∃ vo vcap r, e = .returned (.tuple #[askV a b c n t vo len vcap, .bool r]) ∧ (r = true ↔ Right a b c n t X) ∧ BwA w' (.slice vo len vcap) X ∧ w.grownBy w' none
theorem load_33 {w : World} {g : Nat} {x0 x1 x2 x3 x4 x5 : Value} (hb : w.heap[g]? = some (.cells [x0, x1, x2, x3, x4, x5].toArray 33 (0, 0))) (_h1 : ∀ u ∈ [x0, x1, x2, x3, x4, x5], u.oneCell' = true) : (loadVar 33 ⟨g, 0, none⟩).run Tryz.prog w = .ok (.agg #[x0, x1, x2, x3, x4, x5]) w := by
  have h1 : w.rangeAt g 0 [x0, x1, x2, x3, x4, x5] := fun j v hv => by rw [Nat.zero_add, cell_row hb]; exact hv
  exact run_loadVar_mid w g 0 33 [x0, x1, x2, x3, x4, x5] _ h1 Tryz.underlying33 rfl (by kernel_rfl)
theorem results_33 {fn : Func} {p u : Tmp} (h : fn.results = #[.cell p 33, .tmp u]) (tmps : Array Value) (w : World) (g : Nat) (x0 x1 x2 x3 x4 x5 v : Value) (hp : tmps.getD p undef = .pointer (some ⟨g, 0, none⟩)) (hb : w.heap[g]? = some (.cells [x0, x1, x2, x3, x4, x5].toArray 33 (0, 0))) (h1 : ∀ u ∈ [x0, x1, x2, x3, x4, x5], u.oneCell' = true) (hv : tmps.getD u undef = v) :
    (results fn tmps).run Tryz.prog w = .ok (.tuple #[.agg #[x0, x1, x2, x3, x4, x5], v]) w := by
  rw [results_cell_tmp1 h, hp, hv]
  simp [asAddr, load_33 hb h1, Result.andThen]
set_option maxRecDepth 20000 in
set_option maxHeartbeats 16000000 in
theorem told_any {w : World} {a b c t : Int} {n : Nat} {ao : Option Addr} {len cap : Nat} {X : List Bw} (hl : X.length = len) (h : BwC w ao X) (hnil : ao = none → len = 0 ∧ cap = 0) (hb : len ≤ 5864062014800) : Calls Tryz.prog 29 #[askV a b c n t ao len cap] w (TdP w a b c n t len X) := by
  have HCp : Hid (∀ W, w.grownBy W none → Calls Tryz.prog 47 #[.slice ao len cap] W fun e w' => ∃ vo vcap, e = .returned (.slice vo len vcap) ∧ w'.ownsRow W.heap.size 45 3 (.slice vo len vcap) len (bwcs X) ∧ BwA w' (.slice vo len vcap) X ∧ W.grownBy w' none) := by
    intro W hW
    refine (copyBw_any hl (h.then hW) hnil hb).mono ?_
    rintro e w' ⟨v, rfl, h1, h2⟩
    have h3 : BwA w' v X := BwA.own (by rw [hl]; exact h1)
    obtain ⟨vo, vcap, rfl, _⟩ := h3.ex
    rw [hl] at h1 h3 ⊢
    exact ⟨vo, vcap, rfl, h1, h3, h2⟩
  have HL := hide hl
  have HRt : Hid (∀ W vo vcap, Gx.OkS a b c → BwA W (.slice vo len vcap) X → Calls Tryz.prog 27 #[.agg #[.int .i64 a, .int .i64 b, .int .i64 c, .int .u32 (n : Int), .int .i64 t, .slice vo len vcap]] W (RtP W (Right a b c n t X))) := fun W vo vcap hS hv => right_any hS hl hv
  have HCk : Hid (∀ W : World, Gx.OkS a b c → Calls Tryz.prog 25 #[.agg #[.int .i64 a, .int .i64 b, .int .i64 c]] W fun e w' => e = .returned (.int .i64 0) ∧ W.grownBy w' none) := fun W hS => Ge.rcheck_ok _ _ _ hS W
  have HCn : Hid (∀ W : World, ¬ Gx.OkS a b c → Calls Tryz.prog 25 #[.agg #[.int .i64 a, .int .i64 b, .int .i64 c]] W fun e w' => e = .returned (.int .i64 90) ∧ W.grownBy w' none) := fun W hS => Ge.rcheck_no _ _ _ hS W
  have k0 := ask6.new w 48 (.int .i64 a) (.int .i64 b) (.int .i64 c) (.int .u32 (n : Int)) (.int .i64 t) (.slice ao len cap)
  obtain ⟨w0, hw0⟩ : ∃ w0, (w.alloc (.cells [.int .i64 a, .int .i64 b, .int .i64 c, .int .u32 (n : Int), .int .i64 t, .slice ao len cap].toArray 48)).alloc (.cells z6.toArray 33) = w0 := ⟨_, rfl⟩
  have HG : Hid (w.grownBy w0 none) := by rw [← hw0]; exact gn_alloc (grown_alloc w _) _
  have HK : Hid (ask6 w0 w.heap.size (.int .i64 a) (.int .i64 b) (.int .i64 c) (.int .u32 (n : Int)) (.int .i64 t) (.slice ao len cap)) := by rw [← hw0]; exact k0.then (grown_alloc _ _)
  have HRs : Hid (w0.heap[w.heap.size + 1]? = some (.cells z6.toArray 33 (0, 0))) := by
    rw [← hw0]
    have := heap_alloc_new (w.alloc (.cells [.int .i64 a, .int .i64 b, .int .i64 c, .int .u32 (n : Int), .int .i64 t, .slice ao len cap].toArray 48)) (.cells z6.toArray 33)
    rw [Ge.alloc_size] at this
    exact this
  have HZ0 : Hid (w0.heap.size = w.heap.size + 2) := by rw [← hw0, Ge.alloc_size, Ge.alloc_size]; exact rfl
  have HS : Hid (∀ W, w0.grownBy W none → W.cell? ⟨w.heap.size, 0, none⟩ = some (.int .i64 a) ∧ W.cell? ⟨w.heap.size, 1, none⟩ = some (.int .i64 b) ∧ W.cell? ⟨w.heap.size, 2, none⟩ = some (.int .i64 c) ∧ W.cell? ⟨w.heap.size, 3, none⟩ = some (.int .u32 (n : Int)) ∧ W.cell? ⟨w.heap.size, 4, none⟩ = some (.int .i64 t) ∧ W.cell? ⟨w.heap.size, 5, none⟩ = some (.slice ao len cap)) := fun W g => HK.out.then g
  have HW0 := hide hw0
  clear h hl hnil hb k0 hw0
  unfold z6 at HW0
  unfold askV
  go_enter Tryz.func29, Tryz.ntmps29
  go_wp2
  rw [show (World.alloc w _).alloc _ = w0 from HW0.out]
  clear HW0
  go_cut [4] from 5 to 14 (fun v W => ∃ B vo vcap, v = .pointer (some ⟨B, 0, none⟩) ∧ Hid (TdS w0 W B (.int .i64 a) (.int .i64 b) (.int .i64 c) (.int .u32 (n : Int)) (.int .i64 t) vo len vcap X))
  case first =>
    refine wp_region_held_drew (S := (fun W => W.cell? ⟨w.heap.size, 0, none⟩ = some (.int .i64 a) ∧ W.cell? ⟨w.heap.size, 1, none⟩ = some (.int .i64 b) ∧ W.cell? ⟨w.heap.size, 2, none⟩ = some (.int .i64 c) ∧ W.cell? ⟨w.heap.size, 3, none⟩ = some (.int .u32 (n : Int)) ∧ W.cell? ⟨w.heap.size, 4, none⟩ = some (.int .i64 t) ∧ W.cell? ⟨w.heap.size, 5, none⟩ = some (.slice ao len cap))) (by kernel_rfl) ?_ (fun hHeld => ?_)
    · (exact HS.out _ (grown_drew w0 none))
    refine wpAnyH_take (i := 0) (oi := { dst := some 5, op := Go.Op.fieldAddr 48 (Go.Operand.tmp 1) 0, type := 0, pos := "law.go:23", after := #[], guard := none }) (v := ?_) rfl (by kernel_rfl) (by kernel_rfl) (by kernel_rfl) (fun _ _ _ h => h) (Or.inl ⟨by rfl, ?_⟩) (by assumption) ?_
    rotate_left
    · (intro w hSw; (try dsimp only at hSw); (go_simp <;> with_reducible rfl))
    try simp only [Act.put, List.setIfInBounds_toArray, List.set_cons_zero, List.set_cons_succ]
    refine wpAnyH_take (i := 1) (oi := { dst := some 6, op := Go.Op.load 23 (Go.Operand.tmp 5), type := 23, pos := "law.go:23", after := #[{ on := 0, ground := Go.Ground.data }], guard := none }) (v := ?_) rfl (by kernel_rfl) (by kernel_rfl) (by kernel_rfl) (fun _ _ _ h => h) (Or.inl ⟨by rfl, ?_⟩) (by assumption) ?_
    rotate_left
    · (intro w hSw; (try dsimp only at hSw); (go_simp <;> with_reducible rfl))
    try simp only [Act.put, List.setIfInBounds_toArray, List.set_cons_zero, List.set_cons_succ]
    refine wpAnyH_take (i := 2) (oi := { dst := some 7, op := Go.Op.fieldAddr 48 (Go.Operand.tmp 1) 1, type := 0, pos := "law.go:23", after := #[], guard := none }) (v := ?_) rfl (by kernel_rfl) (by kernel_rfl) (by kernel_rfl) (fun _ _ _ h => h) (Or.inl ⟨by rfl, ?_⟩) (by assumption) ?_
    rotate_left
    · (intro w hSw; (try dsimp only at hSw); (go_simp <;> with_reducible rfl))
    try simp only [Act.put, List.setIfInBounds_toArray, List.set_cons_zero, List.set_cons_succ]
    refine wpAnyH_take (i := 3) (oi := { dst := some 8, op := Go.Op.load 30 (Go.Operand.tmp 7), type := 30, pos := "law.go:23", after := #[{ on := 2, ground := Go.Ground.data }], guard := none }) (v := ?_) rfl (by kernel_rfl) (by kernel_rfl) (by kernel_rfl) (fun _ _ _ h => h) (Or.inl ⟨by rfl, ?_⟩) (by assumption) ?_
    rotate_left
    · (intro w hSw; (try dsimp only at hSw); (go_simp <;> with_reducible rfl))
    try simp only [Act.put, List.setIfInBounds_toArray, List.set_cons_zero, List.set_cons_succ]
    refine wpAnyH_take (i := 4) (oi := { dst := some 9, op := Go.Op.fieldAddr 48 (Go.Operand.tmp 1) 2, type := 0, pos := "law.go:23", after := #[], guard := none }) (v := ?_) rfl (by kernel_rfl) (by kernel_rfl) (by kernel_rfl) (fun _ _ _ h => h) (Or.inl ⟨by rfl, ?_⟩) (by assumption) ?_
    rotate_left
    · (intro w hSw; (try dsimp only at hSw); (go_simp <;> with_reducible rfl))
    try simp only [Act.put, List.setIfInBounds_toArray, List.set_cons_zero, List.set_cons_succ]
    refine wpAnyH_take (i := 5) (oi := { dst := some 10, op := Go.Op.load 2 (Go.Operand.tmp 9), type := 2, pos := "law.go:23", after := #[{ on := 4, ground := Go.Ground.data }], guard := none }) (v := ?_) rfl (by kernel_rfl) (by kernel_rfl) (by kernel_rfl) (fun _ _ _ h => h) (Or.inl ⟨by rfl, ?_⟩) (by assumption) ?_
    rotate_left
    · (intro w hSw; (try dsimp only at hSw); (go_simp <;> with_reducible rfl))
    try simp only [Act.put, List.setIfInBounds_toArray, List.set_cons_zero, List.set_cons_succ]
    refine wpAnyH_take (i := 6) (oi := { dst := some 11, op := Go.Op.fieldAddr 48 (Go.Operand.tmp 1) 3, type := 0, pos := "law.go:23", after := #[], guard := none }) (v := ?_) rfl (by kernel_rfl) (by kernel_rfl) (by kernel_rfl) (fun _ _ _ h => h) (Or.inl ⟨by rfl, ?_⟩) (by assumption) ?_
    rotate_left
    · (intro w hSw; (try dsimp only at hSw); (go_simp <;> with_reducible rfl))
    try simp only [Act.put, List.setIfInBounds_toArray, List.set_cons_zero, List.set_cons_succ]
    refine wpAnyH_take (i := 7) (oi := { dst := some 12, op := Go.Op.load 31 (Go.Operand.tmp 11), type := 31, pos := "law.go:23", after := #[{ on := 6, ground := Go.Ground.data }], guard := none }) (v := ?_) rfl (by kernel_rfl) (by kernel_rfl) (by kernel_rfl) (fun _ _ _ h => h) (Or.inl ⟨by rfl, ?_⟩) (by assumption) ?_
    rotate_left
    · (intro w hSw; (try dsimp only at hSw); (go_simp <;> with_reducible rfl))
    try simp only [Act.put, List.setIfInBounds_toArray, List.set_cons_zero, List.set_cons_succ]
    refine wpAnyH_ready (rs := [8, 10]) (by kernel_rfl) (by simp) ?_
    refine AllReadyH.cons (o := { dst := some 13, op := Go.Op.call { callee := Go.Callee.value (Go.Operand.func 47), args := #[Go.Operand.tmp 12], argTypes := #[31] }, type := 31, pos := "law.go:23", after := #[{ on := 7, ground := Go.Ground.data }], guard := none }) rfl (fun K hK => ?_) ?_
    · skip
      go_simp
      refine (HCp.out _ (gn_drew HG.out)).mono ?_
      rintro e w1 ⟨vo, vcap, rfl, k1, k2, k3⟩
      have G1 := hide (grown_trans (grown_drew w0 none) k3)
      have hK1 := HS.out w1 G1.out
      have HQ := hide (And.intro k2 (own_fr k1))
      clear k1 k2 k3
      go_wp2_with fail
      refine hK.out _ _ ?_ (fun hHeld => ?_)
      · ((try dsimp only); first | with_reducible assumption | with_reducible exact HS.out _ (gn_drew (grown_alloc w0 _)) | with_reducible exact HS.out _ (gn_alloc G1.out _) | with_reducible exact HS.out _ (gr6 (grown_trans (grown_alloc w0 _) G2.out) (Nat.le_refl _) _ _ _ _ _ _))
      clear hK K
      try simp only [Act.put, List.setIfInBounds_toArray, List.set_cons_zero, List.set_cons_succ]
      refine wpAnyH_take (i := 9) (oi := { dst := some 14, op := Go.Op.build 33 #[(0, Go.Operand.tmp 6), (1, Go.Operand.tmp 8), (2, Go.Operand.tmp 10), (3, Go.Operand.tmp 13)], type := 33, pos := "law.go:23", after := #[{ on := 1, ground := Go.Ground.data }, { on := 3, ground := Go.Ground.data }, { on := 5, ground := Go.Ground.data }, { on := 8, ground := Go.Ground.data }], guard := none }) (v := ?_) rfl (by kernel_rfl) (by kernel_rfl) (by kernel_rfl) (fun _ _ _ h => h) (Or.inl ⟨by rfl, ?_⟩) (by assumption) ?_
      rotate_left
      · (intro w hSw; (try dsimp only at hSw); (go_simp <;> with_reducible rfl))
      try simp only [Act.put, List.setIfInBounds_toArray, List.set_cons_zero, List.set_cons_succ]
      refine wpAnyH_ready (rs := [10]) (by kernel_rfl) (by simp) ?_
      refine AllReadyH.cons (o := { dst := some 4, op := Go.Op.alloc 33, type := 0, pos := "law.go:23", after := #[], guard := none }) rfl (fun K hK => ?_) ?_
      rotate_left
      · exact AllReadyH.nil
      go_simp
      refine hK.out _ _ ?_ (fun hHeld => ?_)
      · ((try dsimp only); first | with_reducible assumption | with_reducible exact HS.out _ (gn_drew (grown_alloc w0 _)) | with_reducible exact HS.out _ (gn_alloc G1.out _) | with_reducible exact HS.out _ (gr6 (grown_trans (grown_alloc w0 _) G2.out) (Nat.le_refl _) _ _ _ _ _ _))
      clear hK K
      try simp only [Act.put, List.setIfInBounds_toArray, List.set_cons_zero, List.set_cons_succ]
      refine wpAnyH_ready (rs := [11]) (by kernel_rfl) (by simp) ?_
      refine AllReadyH.cons (o := { dst := none, op := Go.Op.store 33 (Go.Operand.tmp 4) (Go.Operand.tmp 14), type := 0, pos := "law.go:23", after := #[{ on := 10, ground := Go.Ground.data }, { on := 9, ground := Go.Ground.data }, { on := 8, ground := Go.Ground.chain }, { on := 0, ground := Go.Ground.phase }, { on := 1, ground := Go.Ground.phase }, { on := 2, ground := Go.Ground.phase }, { on := 3, ground := Go.Ground.phase }, { on := 4, ground := Go.Ground.phase }, { on := 5, ground := Go.Ground.phase }, { on := 6, ground := Go.Ground.phase }, { on := 7, ground := Go.Ground.phase }, { on := 8, ground := Go.Ground.phase }, { on := 9, ground := Go.Ground.phase }, { on := 10, ground := Go.Ground.phase }], guard := none }) rfl (fun K hK => ?_) ?_
      rotate_left
      · exact AllReadyH.nil
      go_simp
      refine hK.out _ _ ?_ (fun hHeld => ?_)
      · ((try dsimp only); first | with_reducible assumption | with_reducible exact HS.out _ (gn_drew (grown_alloc w0 _)) | with_reducible exact HS.out _ (gn_alloc G1.out _) | with_reducible exact HS.out _ (gr6 (grown_trans (grown_alloc w0 _) G2.out) (Nat.le_refl _) _ _ _ _ _ _))
      clear hK K
      try simp only [Act.put, List.setIfInBounds_toArray, List.set_cons_zero, List.set_cons_succ]
      refine wpAnyH_done (by kernel_rfl) ?_ _
      go_wp2
      go_meet
      case rel => exact ⟨_, _, _, rfl, tds_a G1.out HQ.out.1 HQ.out.2⟩
    refine AllReadyH.cons (o := { dst := some 4, op := Go.Op.alloc 33, type := 0, pos := "law.go:23", after := #[], guard := none }) rfl (fun K hK => ?_) ?_
    · skip
      go_simp
      refine hK.out _ _ ?_ (fun hHeld => ?_)
      · ((try dsimp only); first | with_reducible assumption | with_reducible exact HS.out _ (gn_drew (grown_alloc w0 _)) | with_reducible exact HS.out _ (gn_alloc G1.out _) | with_reducible exact HS.out _ (gr6 (grown_trans (grown_alloc w0 _) G2.out) (Nat.le_refl _) _ _ _ _ _ _))
      clear hK K
      try simp only [Act.put, List.setIfInBounds_toArray, List.set_cons_zero, List.set_cons_succ]
      refine wpAnyH_ready (rs := [8]) (by kernel_rfl) (by simp) ?_
      refine AllReadyH.cons (o := { dst := some 13, op := Go.Op.call { callee := Go.Callee.value (Go.Operand.func 47), args := #[Go.Operand.tmp 12], argTypes := #[31] }, type := 31, pos := "law.go:23", after := #[{ on := 7, ground := Go.Ground.data }], guard := none }) rfl (fun K hK => ?_) ?_
      rotate_left
      · exact AllReadyH.nil
      go_simp
      refine (HCp.out _ (gn_drew (gn_alloc HG.out (.cells [.int .i64 0, .int .i64 0, .int .i64 0, .int .u32 0, .int .i64 0, .slice none 0 0].toArray 33)))).mono ?_
      rintro e w1 ⟨vo, vcap, rfl, k1, k2, k3⟩
      have G2 : Hid ((w0.alloc (.cells z6.toArray 33)).grownBy w1 none) := hide (grown_trans (grown_drew _ none) k3)
      have hK1 := HS.out w1 (grown_trans (grown_alloc w0 _) G2.out)
      have HQ2 : Hid (w1.ownsRow (w0.heap.size + 1) 45 3 (.slice vo len vcap) len (bwcs X)) := by rw [← Ge.alloc_size w0 (.cells z6.toArray 33)]; exact k1
      have hbx := (G2.out.block _ (row_lt (heap_alloc_new w0 (.cells z6.toArray 33))) (by simp)).trans (heap_alloc_new w0 (.cells z6.toArray 33))
      obtain ⟨f0, f1, f2, f3, f4, f5, f6⟩ := box6 hbx
      have m0 := f6 0
      have m1 := f6 1
      have m2 := f6 2
      have m3 := f6 3
      have m4 := f6 4
      have m5 := f6 5
      clear k1 k2 k3 hbx
      go_wp2_with fail
      refine hK.out _ _ ?_ (fun hHeld => ?_)
      · ((try dsimp only); first | with_reducible assumption | with_reducible exact HS.out _ (gn_drew (grown_alloc w0 _)) | with_reducible exact HS.out _ (gn_alloc G1.out _) | with_reducible exact HS.out _ (gr6 (grown_trans (grown_alloc w0 _) G2.out) (Nat.le_refl _) _ _ _ _ _ _))
      clear hK K
      try simp only [Act.put, List.setIfInBounds_toArray, List.set_cons_zero, List.set_cons_succ]
      refine wpAnyH_take (i := 9) (oi := { dst := some 14, op := Go.Op.build 33 #[(0, Go.Operand.tmp 6), (1, Go.Operand.tmp 8), (2, Go.Operand.tmp 10), (3, Go.Operand.tmp 13)], type := 33, pos := "law.go:23", after := #[{ on := 1, ground := Go.Ground.data }, { on := 3, ground := Go.Ground.data }, { on := 5, ground := Go.Ground.data }, { on := 8, ground := Go.Ground.data }], guard := none }) (v := ?_) rfl (by kernel_rfl) (by kernel_rfl) (by kernel_rfl) (fun _ _ _ h => h) (Or.inl ⟨by rfl, ?_⟩) (by assumption) ?_
      rotate_left
      · (intro w hSw; (try dsimp only at hSw); (go_simp <;> with_reducible rfl))
      try simp only [Act.put, List.setIfInBounds_toArray, List.set_cons_zero, List.set_cons_succ]
      refine wpAnyH_ready (rs := [11]) (by kernel_rfl) (by simp) ?_
      refine AllReadyH.cons (o := { dst := none, op := Go.Op.store 33 (Go.Operand.tmp 4) (Go.Operand.tmp 14), type := 0, pos := "law.go:23", after := #[{ on := 10, ground := Go.Ground.data }, { on := 9, ground := Go.Ground.data }, { on := 8, ground := Go.Ground.chain }, { on := 0, ground := Go.Ground.phase }, { on := 1, ground := Go.Ground.phase }, { on := 2, ground := Go.Ground.phase }, { on := 3, ground := Go.Ground.phase }, { on := 4, ground := Go.Ground.phase }, { on := 5, ground := Go.Ground.phase }, { on := 6, ground := Go.Ground.phase }, { on := 7, ground := Go.Ground.phase }, { on := 8, ground := Go.Ground.phase }, { on := 9, ground := Go.Ground.phase }, { on := 10, ground := Go.Ground.phase }], guard := none }) rfl (fun K hK => ?_) ?_
      rotate_left
      · exact AllReadyH.nil
      go_simp
      refine hK.out _ _ ?_ (fun hHeld => ?_)
      · ((try dsimp only); first | with_reducible assumption | with_reducible exact HS.out _ (gn_drew (grown_alloc w0 _)) | with_reducible exact HS.out _ (gn_alloc G1.out _) | with_reducible exact HS.out _ (gr6 (grown_trans (grown_alloc w0 _) G2.out) (Nat.le_refl _) _ _ _ _ _ _))
      clear hK K
      try simp only [Act.put, List.setIfInBounds_toArray, List.set_cons_zero, List.set_cons_succ]
      refine wpAnyH_done (by kernel_rfl) ?_ _
      go_wp2
      go_meet
      case rel => exact ⟨_, _, _, rfl, tds_b G2.out HQ2.out HL.out⟩
    exact AllReadyH.nil
  case rest =>
  obtain ⟨B, vo, vcap, rfl, HT⟩ := hcut
  have hB1 : B ≠ w.heap.size + 1 := by have := HT.out.lo; have := HZ0.out; omega
  have hB0 : w.heap.size ≠ w.heap.size + 1 := by omega
  have HS2 : Hid (∀ W, wc.grownBy W none → (W.cell? ⟨w.heap.size, 0, none⟩ = some (.int .i64 a) ∧ W.cell? ⟨w.heap.size, 1, none⟩ = some (.int .i64 b) ∧ W.cell? ⟨w.heap.size, 2, none⟩ = some (.int .i64 c)) ∧ W.cell? ⟨B, 0, none⟩ = some (.int .i64 a) ∧ W.cell? ⟨B, 1, none⟩ = some (.int .i64 b) ∧ W.cell? ⟨B, 2, none⟩ = some (.int .i64 c) ∧ W.cell? ⟨B, 3, none⟩ = some (.int .u32 (n : Int)) ∧ W.cell? ⟨B, 4, none⟩ = some (.int .i64 t) ∧ W.cell? ⟨B, 5, none⟩ = some (.slice vo len vcap)) := by
    intro W g
    have h1 := HS.out W (grown_trans HT.out.gr g)
    obtain ⟨q0, q1, q2, q3, q4, q5, -⟩ := box6 (HT.out.then g).bx
    exact ⟨⟨h1.1, h1.2.1, h1.2.2.1⟩, q0, q1, q2, q3, q4, q5⟩
  have HO2 : Hid (∀ W x0 x1 x2 x3 x4 x5, wc.grownBy W none → (((((((W.setCell ⟨w.heap.size + 1, 0, none⟩ x0).setCell ⟨w.heap.size + 1, 1, none⟩ x1).setCell ⟨w.heap.size + 1, 2, none⟩ x2).setCell ⟨w.heap.size + 1, 3, none⟩ x3).setCell ⟨w.heap.size + 1, 4, none⟩ x4).setCell ⟨w.heap.size + 1, 5, none⟩ x5).cell? ⟨w.heap.size, 0, none⟩ = some (.int .i64 a) ∧ ((((((W.setCell ⟨w.heap.size + 1, 0, none⟩ x0).setCell ⟨w.heap.size + 1, 1, none⟩ x1).setCell ⟨w.heap.size + 1, 2, none⟩ x2).setCell ⟨w.heap.size + 1, 3, none⟩ x3).setCell ⟨w.heap.size + 1, 4, none⟩ x4).setCell ⟨w.heap.size + 1, 5, none⟩ x5).cell? ⟨w.heap.size, 1, none⟩ = some (.int .i64 b) ∧ ((((((W.setCell ⟨w.heap.size + 1, 0, none⟩ x0).setCell ⟨w.heap.size + 1, 1, none⟩ x1).setCell ⟨w.heap.size + 1, 2, none⟩ x2).setCell ⟨w.heap.size + 1, 3, none⟩ x3).setCell ⟨w.heap.size + 1, 4, none⟩ x4).setCell ⟨w.heap.size + 1, 5, none⟩ x5).cell? ⟨w.heap.size, 2, none⟩ = some (.int .i64 c)) ∧ ((((((W.setCell ⟨w.heap.size + 1, 0, none⟩ x0).setCell ⟨w.heap.size + 1, 1, none⟩ x1).setCell ⟨w.heap.size + 1, 2, none⟩ x2).setCell ⟨w.heap.size + 1, 3, none⟩ x3).setCell ⟨w.heap.size + 1, 4, none⟩ x4).setCell ⟨w.heap.size + 1, 5, none⟩ x5).cell? ⟨B, 0, none⟩ = some (.int .i64 a) ∧ ((((((W.setCell ⟨w.heap.size + 1, 0, none⟩ x0).setCell ⟨w.heap.size + 1, 1, none⟩ x1).setCell ⟨w.heap.size + 1, 2, none⟩ x2).setCell ⟨w.heap.size + 1, 3, none⟩ x3).setCell ⟨w.heap.size + 1, 4, none⟩ x4).setCell ⟨w.heap.size + 1, 5, none⟩ x5).cell? ⟨B, 1, none⟩ = some (.int .i64 b) ∧ ((((((W.setCell ⟨w.heap.size + 1, 0, none⟩ x0).setCell ⟨w.heap.size + 1, 1, none⟩ x1).setCell ⟨w.heap.size + 1, 2, none⟩ x2).setCell ⟨w.heap.size + 1, 3, none⟩ x3).setCell ⟨w.heap.size + 1, 4, none⟩ x4).setCell ⟨w.heap.size + 1, 5, none⟩ x5).cell? ⟨B, 2, none⟩ = some (.int .i64 c) ∧ ((((((W.setCell ⟨w.heap.size + 1, 0, none⟩ x0).setCell ⟨w.heap.size + 1, 1, none⟩ x1).setCell ⟨w.heap.size + 1, 2, none⟩ x2).setCell ⟨w.heap.size + 1, 3, none⟩ x3).setCell ⟨w.heap.size + 1, 4, none⟩ x4).setCell ⟨w.heap.size + 1, 5, none⟩ x5).cell? ⟨B, 3, none⟩ = some (.int .u32 (n : Int)) ∧ ((((((W.setCell ⟨w.heap.size + 1, 0, none⟩ x0).setCell ⟨w.heap.size + 1, 1, none⟩ x1).setCell ⟨w.heap.size + 1, 2, none⟩ x2).setCell ⟨w.heap.size + 1, 3, none⟩ x3).setCell ⟨w.heap.size + 1, 4, none⟩ x4).setCell ⟨w.heap.size + 1, 5, none⟩ x5).cell? ⟨B, 4, none⟩ = some (.int .i64 t) ∧ ((((((W.setCell ⟨w.heap.size + 1, 0, none⟩ x0).setCell ⟨w.heap.size + 1, 1, none⟩ x1).setCell ⟨w.heap.size + 1, 2, none⟩ x2).setCell ⟨w.heap.size + 1, 3, none⟩ x3).setCell ⟨w.heap.size + 1, 4, none⟩ x4).setCell ⟨w.heap.size + 1, 5, none⟩ x5).cell? ⟨B, 5, none⟩ = some (.slice vo len vcap)) := by
    intro W x0 x1 x2 x3 x4 x5 g
    obtain ⟨⟨h0, h1, h2⟩, q0, q1, q2, q3, q4, q5⟩ := HS2.out W g
    exact ⟨⟨off6 W hB0 _ _ _ _ _ _ h0, off6 W hB0 _ _ _ _ _ _ h1, off6 W hB0 _ _ _ _ _ _ h2⟩, off6 W hB1 _ _ _ _ _ _ q0, off6 W hB1 _ _ _ _ _ _ q1, off6 W hB1 _ _ _ _ _ _ q2, off6 W hB1 _ _ _ _ _ _ q3, off6 W hB1 _ _ _ _ _ _ q4, off6 W hB1 _ _ _ _ _ _ q5⟩
  have HRw : Hid (∀ W, wc.grownBy W none → W.heap[w.heap.size + 1]? = some (.cells [.int .i64 0, .int .i64 0, .int .i64 0, .int .u32 0, .int .i64 0, .slice none 0 0].toArray 33 (0, 0))) := fun W g => ((grown_trans HT.out.gr g).block _ (row_lt HRs.out) (by simp)).trans HRs.out
  have HFin : Hid (∀ W r, wc.grownBy W none → (r = true ↔ Right a b c n t X) → TdP w a b c n t len X (.returned (.tuple #[.agg #[.int .i64 a, .int .i64 b, .int .i64 c, .int .u32 (n : Int), .int .i64 t, .slice vo len vcap], .bool r])) ((((((W.setCell ⟨w.heap.size + 1, 0, none⟩ (.int .i64 a)).setCell ⟨w.heap.size + 1, 1, none⟩ (.int .i64 b)).setCell ⟨w.heap.size + 1, 2, none⟩ (.int .i64 c)).setCell ⟨w.heap.size + 1, 3, none⟩ (.int .u32 (n : Int))).setCell ⟨w.heap.size + 1, 4, none⟩ (.int .i64 t)).setCell ⟨w.heap.size + 1, 5, none⟩ (.slice vo len vcap))) := by
    intro W r g hr
    refine ⟨vo, vcap, r, rfl, hr, ?_, gr6 (grown_trans (grown_trans HG.out HT.out.gr) g) (by omega) _ _ _ _ _ _⟩
    refine (HT.out.then g).ro.off (set6 W _ _ _ _ _ _ _) (fun a ha e => ?_)
    have h1 := HT.out.fr a ha
    have h2 := HZ0.out
    omega
  have hK0 := HS2.out wc.drew (grown_drew wc none)
  have HTro := hide HT.out.ro
  clear HS HK HCp HT HRs HL HG HZ0 hB1 hB0
  go_wp2
  by_cases hS : Gx.OkS a b c
  · have HC := hide (HCk.out wc.drew hS)
    have HRt' := hide (fun W vo vcap hv => HRt.out W vo vcap hS hv)
    clear HCk HCn HRt hS
    refine wp_region_held_drew (S := (fun W => (W.cell? ⟨w.heap.size, 0, none⟩ = some (.int .i64 a) ∧ W.cell? ⟨w.heap.size, 1, none⟩ = some (.int .i64 b) ∧ W.cell? ⟨w.heap.size, 2, none⟩ = some (.int .i64 c)) ∧ W.cell? ⟨B, 0, none⟩ = some (.int .i64 a) ∧ W.cell? ⟨B, 1, none⟩ = some (.int .i64 b) ∧ W.cell? ⟨B, 2, none⟩ = some (.int .i64 c) ∧ W.cell? ⟨B, 3, none⟩ = some (.int .u32 (n : Int)) ∧ W.cell? ⟨B, 4, none⟩ = some (.int .i64 t) ∧ W.cell? ⟨B, 5, none⟩ = some (.slice vo len vcap))) (by kernel_rfl) ?_ (fun hHeld => ?_)
    · (exact hK0)
    refine wpAnyH_take (i := 0) (oi := { dst := some 15, op := Go.Op.load 33 (Go.Operand.tmp 4), type := 33, pos := "law.go:24", after := #[], guard := none }) (v := ?_) rfl (by kernel_rfl) (by kernel_rfl) (by kernel_rfl) (fun _ _ _ h => h) (Or.inl ⟨by rfl, ?_⟩) (by assumption) ?_
    rotate_left
    · (intro w hSw; (try dsimp only at hSw); (go_simp <;> with_reducible rfl))
    try simp only [Act.put, List.setIfInBounds_toArray, List.set_cons_zero, List.set_cons_succ]
    refine wpAnyH_take (i := 1) (oi := { dst := some 16, op := Go.Op.fieldAddr 48 (Go.Operand.tmp 1) 0, type := 0, pos := "law.go:24", after := #[], guard := none }) (v := ?_) rfl (by kernel_rfl) (by kernel_rfl) (by kernel_rfl) (fun _ _ _ h => h) (Or.inl ⟨by rfl, ?_⟩) (by assumption) ?_
    rotate_left
    · (intro w hSw; (try dsimp only at hSw); (go_simp <;> with_reducible rfl))
    try simp only [Act.put, List.setIfInBounds_toArray, List.set_cons_zero, List.set_cons_succ]
    refine wpAnyH_take (i := 2) (oi := { dst := some 17, op := Go.Op.load 23 (Go.Operand.tmp 16), type := 23, pos := "law.go:24", after := #[{ on := 1, ground := Go.Ground.data }], guard := none }) (v := ?_) rfl (by kernel_rfl) (by kernel_rfl) (by kernel_rfl) (fun _ _ _ h => h) (Or.inl ⟨by rfl, ?_⟩) (by assumption) ?_
    rotate_left
    · (intro w hSw; (try dsimp only at hSw); (go_simp <;> with_reducible rfl))
    try simp only [Act.put, List.setIfInBounds_toArray, List.set_cons_zero, List.set_cons_succ]
    refine wpAnyH_ready (rs := [3]) (by kernel_rfl) (by simp) ?_
    refine AllReadyH.cons (o := { dst := some 18, op := Go.Op.call { callee := Go.Callee.value (Go.Operand.func 25), args := #[Go.Operand.tmp 17], argTypes := #[23] }, type := 27, pos := "law.go:24", after := #[{ on := 2, ground := Go.Ground.data }], guard := none }) rfl (fun K hK => ?_) ?_
    rotate_left
    · exact AllReadyH.nil
    go_simp
    refine HC.out.mono ?_
    rintro e w2 ⟨rfl, hg2⟩
    have HG2 := hide (grown_trans (grown_drew wc none) hg2)
    have hK2 := HS2.out w2 HG2.out
    clear hg2
    go_wp2_with fail
    refine hK.out _ _ ?_ (fun hHeld => ?_)
    · ((try dsimp only); first | with_reducible assumption | with_reducible exact HO2.out w3 _ _ _ _ _ _ HG3.out)
    clear hK K
    try simp only [Act.put, List.setIfInBounds_toArray, List.set_cons_zero, List.set_cons_succ]
    refine wpAnyH_take (i := 4) (oi := { dst := some 19, op := Go.Op.binOp Go.BinOp.eql 27 (Go.Operand.tmp 18) (Go.Operand.const (Go.Value.int Go.IntKind.i64 0)) 27, type := 4, pos := "law.go:24", after := #[{ on := 3, ground := Go.Ground.data }], guard := none }) (v := ?_) rfl (by kernel_rfl) (by kernel_rfl) (by kernel_rfl) (fun _ _ _ h => h) (Or.inl ⟨by rfl, ?_⟩) (by assumption) ?_
    rotate_left
    · (intro w hSw; (try dsimp only at hSw); (go_simp <;> with_reducible rfl))
    try simp only [Act.put, List.setIfInBounds_toArray, List.set_cons_zero, List.set_cons_succ]
    refine wpAnyH_take (i := 5) (oi := { dst := some 20, op := Go.Op.move (Go.Operand.tmp 19), type := 4, pos := "law.go:24", after := #[{ on := 4, ground := Go.Ground.data }, { on := 3, ground := Go.Ground.chain }], guard := none }) (v := ?_) rfl (by kernel_rfl) (by kernel_rfl) (by kernel_rfl) (fun _ _ _ h => h) (Or.inl ⟨by rfl, ?_⟩) (by assumption) ?_
    rotate_left
    · (intro w hSw; (try dsimp only at hSw); (go_simp <;> with_reducible rfl))
    try simp only [Act.put, List.setIfInBounds_toArray, List.set_cons_zero, List.set_cons_succ]
    refine wpAnyH_take (i := 6) (oi := { dst := some 21, op := Go.Op.load 33 (Go.Operand.tmp 4), type := 33, pos := "law.go:24", after := #[{ on := 5, ground := Go.Ground.guard }], guard := some (5, true) }) (v := ?_) rfl (by kernel_rfl) (by kernel_rfl) (by kernel_rfl) (fun _ _ _ h => h) (Or.inl ⟨by rfl, ?_⟩) (by assumption) ?_
    rotate_left
    · (intro w hSw; (try dsimp only at hSw); (go_simp <;> with_reducible rfl))
    try simp only [Act.put, List.setIfInBounds_toArray, List.set_cons_zero, List.set_cons_succ]
    refine wpAnyH_ready (rs := [7]) (by kernel_rfl) (by simp) ?_
    refine AllReadyH.cons (o := { dst := some 22, op := Go.Op.call { callee := Go.Callee.value (Go.Operand.func 27), args := #[Go.Operand.tmp 21], argTypes := #[33] }, type := 4, pos := "law.go:24", after := #[{ on := 6, ground := Go.Ground.data }, { on := 5, ground := Go.Ground.chain }, { on := 5, ground := Go.Ground.guard }], guard := some (5, true) }) rfl (fun K hK => ?_) ?_
    rotate_left
    · exact AllReadyH.nil
    go_simp
    refine (HRt'.out _ _ _ (HTro.out.then HG2.out)).mono ?_
    rintro e w3 ⟨r, rfl, hr, hg3⟩
    have HRr := hide hr
    have HG3 := hide (grown_trans HG2.out hg3)
    have hK3 := HS2.out w3 HG3.out
    clear hg3 hr
    obtain ⟨f0, f1, f2, f3, f4, f5, f6⟩ := box6 (HRw.out w3 HG3.out)
    have m0 := f6 0
    have m1 := f6 1
    have m2 := f6 2
    have m3 := f6 3
    have m4 := f6 4
    have m5 := f6 5
    go_wp2_with fail
    refine hK.out _ _ ?_ (fun hHeld => ?_)
    · ((try dsimp only); first | with_reducible assumption | with_reducible exact HO2.out w3 _ _ _ _ _ _ HG3.out)
    clear hK K
    try simp only [Act.put, List.setIfInBounds_toArray, List.set_cons_zero, List.set_cons_succ]
    refine wpAnyH_take (i := 8) (oi := { dst := some 23, op := Go.Op.pick (Go.Operand.tmp 20) (Go.Operand.tmp 22) (Go.Operand.const (Go.Value.bool false)), type := 4, pos := "law.go:24", after := #[{ on := 5, ground := Go.Ground.data }, { on := 7, ground := Go.Ground.data }, { on := 9, ground := Go.Ground.gcOnly Go.Departure.lateStores }], guard := none }) (v := ?_) rfl (by kernel_rfl) (by kernel_rfl) (by kernel_rfl) (fun _ _ _ h => h) (Or.inl ⟨by rfl, ?_⟩) (by assumption) ?_
    rotate_left
    · (intro w hSw; (try dsimp only at hSw); (go_simp <;> with_reducible rfl))
    try simp only [Act.put, List.setIfInBounds_toArray, List.set_cons_zero, List.set_cons_succ]
    refine wpAnyH_ready (rs := [9]) (by kernel_rfl) (by simp) ?_
    refine AllReadyH.cons (o := { dst := none, op := Go.Op.store 33 (Go.Operand.tmp 2) (Go.Operand.tmp 15), type := 0, pos := "law.go:24", after := #[{ on := 0, ground := Go.Ground.data }, { on := 7, ground := Go.Ground.chain }, { on := 0, ground := Go.Ground.phase }, { on := 1, ground := Go.Ground.textOnly Go.Departure.lateStores }, { on := 2, ground := Go.Ground.textOnly Go.Departure.lateStores }, { on := 3, ground := Go.Ground.textOnly Go.Departure.lateStoresUnsure }, { on := 4, ground := Go.Ground.textOnly Go.Departure.lateStores }, { on := 5, ground := Go.Ground.textOnly Go.Departure.lateStores }, { on := 6, ground := Go.Ground.textOnly Go.Departure.lateStores }, { on := 7, ground := Go.Ground.textOnly Go.Departure.lateStoresUnsure }, { on := 8, ground := Go.Ground.textOnly Go.Departure.lateStores }], guard := none }) rfl (fun K hK => ?_) ?_
    rotate_left
    · exact AllReadyH.nil
    go_simp
    refine hK.out _ _ ?_ (fun hHeld => ?_)
    · ((try dsimp only); first | with_reducible assumption | with_reducible exact HO2.out w3 _ _ _ _ _ _ HG3.out)
    clear hK K
    try simp only [Act.put, List.setIfInBounds_toArray, List.set_cons_zero, List.set_cons_succ]
    refine wpAnyH_take (i := 10) (oi := { dst := some 3, op := Go.Op.assign (Go.Operand.tmp 23), type := 4, pos := "law.go:24", after := #[{ on := 8, ground := Go.Ground.data }, { on := 9, ground := Go.Ground.chain }, { on := 0, ground := Go.Ground.phase }, { on := 1, ground := Go.Ground.phase }, { on := 2, ground := Go.Ground.phase }, { on := 3, ground := Go.Ground.phase }, { on := 4, ground := Go.Ground.phase }, { on := 5, ground := Go.Ground.phase }, { on := 6, ground := Go.Ground.phase }, { on := 7, ground := Go.Ground.phase }, { on := 8, ground := Go.Ground.phase }, { on := 9, ground := Go.Ground.phase }], guard := none }) (v := ?_) rfl (by kernel_rfl) (by kernel_rfl) (by kernel_rfl) (fun _ _ _ h => h) (Or.inl ⟨by rfl, ?_⟩) (by assumption) ?_
    rotate_left
    · (intro w hSw; (try dsimp only at hSw); (go_simp <;> with_reducible rfl))
    try simp only [Act.put, List.setIfInBounds_toArray, List.set_cons_zero, List.set_cons_succ]
    refine wpAnyH_done (by kernel_rfl) ?_ _
    go_wp2
    exact bodyPost_ret (results_33 (p := 2) (u := 3) rfl _ _ (w.heap.size + 1) _ _ _ _ _ _ (.bool r) rfl (row6 w3 (HRw.out w3 HG3.out) _ _ _ _ _ _) (by simp [Value.oneCell']) rfl) rfl (HFin.out w3 r HG3.out HRr.out)
  · have HC := hide (HCn.out wc.drew hS)
    have HNo : Hid ((false = true) ↔ Right a b c n t X) := hide (Iff.intro (fun h => by cases h) (fun h => absurd h.1 hS))
    clear HCk HCn HRt hS
    refine wp_region_held_drew (S := (fun W => (W.cell? ⟨w.heap.size, 0, none⟩ = some (.int .i64 a) ∧ W.cell? ⟨w.heap.size, 1, none⟩ = some (.int .i64 b) ∧ W.cell? ⟨w.heap.size, 2, none⟩ = some (.int .i64 c)) ∧ W.cell? ⟨B, 0, none⟩ = some (.int .i64 a) ∧ W.cell? ⟨B, 1, none⟩ = some (.int .i64 b) ∧ W.cell? ⟨B, 2, none⟩ = some (.int .i64 c) ∧ W.cell? ⟨B, 3, none⟩ = some (.int .u32 (n : Int)) ∧ W.cell? ⟨B, 4, none⟩ = some (.int .i64 t) ∧ W.cell? ⟨B, 5, none⟩ = some (.slice vo len vcap))) (by kernel_rfl) ?_ (fun hHeld => ?_)
    · (exact hK0)
    refine wpAnyH_take (i := 0) (oi := { dst := some 15, op := Go.Op.load 33 (Go.Operand.tmp 4), type := 33, pos := "law.go:24", after := #[], guard := none }) (v := ?_) rfl (by kernel_rfl) (by kernel_rfl) (by kernel_rfl) (fun _ _ _ h => h) (Or.inl ⟨by rfl, ?_⟩) (by assumption) ?_
    rotate_left
    · (intro w hSw; (try dsimp only at hSw); (go_simp <;> with_reducible rfl))
    try simp only [Act.put, List.setIfInBounds_toArray, List.set_cons_zero, List.set_cons_succ]
    refine wpAnyH_take (i := 1) (oi := { dst := some 16, op := Go.Op.fieldAddr 48 (Go.Operand.tmp 1) 0, type := 0, pos := "law.go:24", after := #[], guard := none }) (v := ?_) rfl (by kernel_rfl) (by kernel_rfl) (by kernel_rfl) (fun _ _ _ h => h) (Or.inl ⟨by rfl, ?_⟩) (by assumption) ?_
    rotate_left
    · (intro w hSw; (try dsimp only at hSw); (go_simp <;> with_reducible rfl))
    try simp only [Act.put, List.setIfInBounds_toArray, List.set_cons_zero, List.set_cons_succ]
    refine wpAnyH_take (i := 2) (oi := { dst := some 17, op := Go.Op.load 23 (Go.Operand.tmp 16), type := 23, pos := "law.go:24", after := #[{ on := 1, ground := Go.Ground.data }], guard := none }) (v := ?_) rfl (by kernel_rfl) (by kernel_rfl) (by kernel_rfl) (fun _ _ _ h => h) (Or.inl ⟨by rfl, ?_⟩) (by assumption) ?_
    rotate_left
    · (intro w hSw; (try dsimp only at hSw); (go_simp <;> with_reducible rfl))
    try simp only [Act.put, List.setIfInBounds_toArray, List.set_cons_zero, List.set_cons_succ]
    refine wpAnyH_ready (rs := [3]) (by kernel_rfl) (by simp) ?_
    refine AllReadyH.cons (o := { dst := some 18, op := Go.Op.call { callee := Go.Callee.value (Go.Operand.func 25), args := #[Go.Operand.tmp 17], argTypes := #[23] }, type := 27, pos := "law.go:24", after := #[{ on := 2, ground := Go.Ground.data }], guard := none }) rfl (fun K hK => ?_) ?_
    rotate_left
    · exact AllReadyH.nil
    go_simp
    refine HC.out.mono ?_
    rintro e w2 ⟨rfl, hg2⟩
    have HG2 := hide (grown_trans (grown_drew wc none) hg2)
    have hK2 := HS2.out w2 HG2.out
    clear hg2
    obtain ⟨f0, f1, f2, f3, f4, f5, f6⟩ := box6 (HRw.out w2 HG2.out)
    have m0 := f6 0
    have m1 := f6 1
    have m2 := f6 2
    have m3 := f6 3
    have m4 := f6 4
    have m5 := f6 5
    go_wp2_with fail
    refine hK.out _ _ ?_ (fun hHeld => ?_)
    · ((try dsimp only); first | with_reducible assumption | with_reducible exact HO2.out w2 _ _ _ _ _ _ HG2.out)
    clear hK K
    try simp only [Act.put, List.setIfInBounds_toArray, List.set_cons_zero, List.set_cons_succ]
    refine wpAnyH_take (i := 4) (oi := { dst := some 19, op := Go.Op.binOp Go.BinOp.eql 27 (Go.Operand.tmp 18) (Go.Operand.const (Go.Value.int Go.IntKind.i64 0)) 27, type := 4, pos := "law.go:24", after := #[{ on := 3, ground := Go.Ground.data }], guard := none }) (v := ?_) rfl (by kernel_rfl) (by kernel_rfl) (by kernel_rfl) (fun _ _ _ h => h) (Or.inl ⟨by rfl, ?_⟩) (by assumption) ?_
    rotate_left
    · (intro w hSw; (try dsimp only at hSw); (go_simp <;> with_reducible rfl))
    try simp only [Act.put, List.setIfInBounds_toArray, List.set_cons_zero, List.set_cons_succ]
    refine wpAnyH_take (i := 5) (oi := { dst := some 20, op := Go.Op.move (Go.Operand.tmp 19), type := 4, pos := "law.go:24", after := #[{ on := 4, ground := Go.Ground.data }, { on := 3, ground := Go.Ground.chain }], guard := none }) (v := ?_) rfl (by kernel_rfl) (by kernel_rfl) (by kernel_rfl) (fun _ _ _ h => h) (Or.inl ⟨by rfl, ?_⟩) (by assumption) ?_
    rotate_left
    · (intro w hSw; (try dsimp only at hSw); (go_simp <;> with_reducible rfl))
    try simp only [Act.put, List.setIfInBounds_toArray, List.set_cons_zero, List.set_cons_succ]
    refine wpAnyH_take (i := 6) (oi := { dst := some 21, op := Go.Op.load 33 (Go.Operand.tmp 4), type := 33, pos := "law.go:24", after := #[{ on := 5, ground := Go.Ground.guard }], guard := some (5, true) }) (v := undef) rfl (by kernel_rfl) (by kernel_rfl) (by kernel_rfl) (fun _ _ _ h => h) (Or.inr ⟨by rfl, rfl⟩) (by assumption) ?_
    try simp only [Act.put, List.setIfInBounds_toArray, List.set_cons_zero, List.set_cons_succ]
    refine wpAnyH_take (i := 7) (oi := { dst := some 22, op := Go.Op.call { callee := Go.Callee.value (Go.Operand.func 27), args := #[Go.Operand.tmp 21], argTypes := #[33] }, type := 4, pos := "law.go:24", after := #[{ on := 6, ground := Go.Ground.data }, { on := 5, ground := Go.Ground.chain }, { on := 5, ground := Go.Ground.guard }], guard := some (5, true) }) (v := undef) rfl (by kernel_rfl) (by kernel_rfl) (by kernel_rfl) (fun _ _ _ h => h) (Or.inr ⟨by rfl, rfl⟩) (by assumption) ?_
    try simp only [Act.put, List.setIfInBounds_toArray, List.set_cons_zero, List.set_cons_succ]
    refine wpAnyH_take (i := 8) (oi := { dst := some 23, op := Go.Op.pick (Go.Operand.tmp 20) (Go.Operand.tmp 22) (Go.Operand.const (Go.Value.bool false)), type := 4, pos := "law.go:24", after := #[{ on := 5, ground := Go.Ground.data }, { on := 7, ground := Go.Ground.data }, { on := 9, ground := Go.Ground.gcOnly Go.Departure.lateStores }], guard := none }) (v := ?_) rfl (by kernel_rfl) (by kernel_rfl) (by kernel_rfl) (fun _ _ _ h => h) (Or.inl ⟨by rfl, ?_⟩) (by assumption) ?_
    rotate_left
    · (intro w hSw; (try dsimp only at hSw); (go_simp <;> with_reducible rfl))
    try simp only [Act.put, List.setIfInBounds_toArray, List.set_cons_zero, List.set_cons_succ]
    refine wpAnyH_ready (rs := [9]) (by kernel_rfl) (by simp) ?_
    refine AllReadyH.cons (o := { dst := none, op := Go.Op.store 33 (Go.Operand.tmp 2) (Go.Operand.tmp 15), type := 0, pos := "law.go:24", after := #[{ on := 0, ground := Go.Ground.data }, { on := 7, ground := Go.Ground.chain }, { on := 0, ground := Go.Ground.phase }, { on := 1, ground := Go.Ground.textOnly Go.Departure.lateStores }, { on := 2, ground := Go.Ground.textOnly Go.Departure.lateStores }, { on := 3, ground := Go.Ground.textOnly Go.Departure.lateStoresUnsure }, { on := 4, ground := Go.Ground.textOnly Go.Departure.lateStores }, { on := 5, ground := Go.Ground.textOnly Go.Departure.lateStores }, { on := 6, ground := Go.Ground.textOnly Go.Departure.lateStores }, { on := 7, ground := Go.Ground.textOnly Go.Departure.lateStoresUnsure }, { on := 8, ground := Go.Ground.textOnly Go.Departure.lateStores }], guard := none }) rfl (fun K hK => ?_) ?_
    rotate_left
    · exact AllReadyH.nil
    go_simp
    refine hK.out _ _ ?_ (fun hHeld => ?_)
    · ((try dsimp only); first | with_reducible assumption | with_reducible exact HO2.out w2 _ _ _ _ _ _ HG2.out)
    clear hK K
    try simp only [Act.put, List.setIfInBounds_toArray, List.set_cons_zero, List.set_cons_succ]
    refine wpAnyH_take (i := 10) (oi := { dst := some 3, op := Go.Op.assign (Go.Operand.tmp 23), type := 4, pos := "law.go:24", after := #[{ on := 8, ground := Go.Ground.data }, { on := 9, ground := Go.Ground.chain }, { on := 0, ground := Go.Ground.phase }, { on := 1, ground := Go.Ground.phase }, { on := 2, ground := Go.Ground.phase }, { on := 3, ground := Go.Ground.phase }, { on := 4, ground := Go.Ground.phase }, { on := 5, ground := Go.Ground.phase }, { on := 6, ground := Go.Ground.phase }, { on := 7, ground := Go.Ground.phase }, { on := 8, ground := Go.Ground.phase }, { on := 9, ground := Go.Ground.phase }], guard := none }) (v := ?_) rfl (by kernel_rfl) (by kernel_rfl) (by kernel_rfl) (fun _ _ _ h => h) (Or.inl ⟨by rfl, ?_⟩) (by assumption) ?_
    rotate_left
    · (intro w hSw; (try dsimp only at hSw); (go_simp <;> with_reducible rfl))
    try simp only [Act.put, List.setIfInBounds_toArray, List.set_cons_zero, List.set_cons_succ]
    refine wpAnyH_done (by kernel_rfl) ?_ _
    go_wp2
    exact bodyPost_ret (results_33 (p := 2) (u := 3) rfl _ _ (w.heap.size + 1) _ _ _ _ _ _ (.bool false) rfl (row6 w2 (HRw.out w2 HG2.out) _ _ _ _ _ _) (by simp [Value.oneCell']) rfl) rfl (HFin.out w2 false HG2.out HNo.out)
end Go.Proofs.YtahjckcfcdnlmaaGreatDoor
