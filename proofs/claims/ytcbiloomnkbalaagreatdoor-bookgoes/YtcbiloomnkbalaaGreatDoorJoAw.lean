/- Texts joined: La, BkP. -/
import Derived.Test.YtcbiloomnkbalaaGreatDoorJoAv
import Derived.Test.YtcbiloomnkbalaaGreatDoorCards
import Derived.Test.YtcbiloomnkbalaaGreatDoorTie
import Derived.ProofKit
import Derived.OpenShut
import Derived.Deep.DeepHandedRow
import Derived.Lib.LaidTab
import Derived.ChangeOld
import Derived.SizedLaws
/- What the rows' listed table gives; a world for the witnesses; arguments that are rows of bytes, records: shared by the rows' proofs. -/
namespace Go.Proofs.YtcbiloomnkbalaaGreatDoor
open Go.ChangeShapes Go.WideShapes Go.ChangeAt Go.RowKit Go.Deep

theorem seat_own : ownKnob Tryz.prog.godebug = none := by kernel_rfl
theorem seat_laid : laidOutB Tryz.prog = true := by kernel_rfl
theorem gTab : Tryz.prog.globalNamed "gangway/records.fieldsOf" = some 0 := by kernel_rfl
theorem gTabType : (Tryz.prog.globals[0]?).map (·.type) = some 160 := by kernel_rfl
theorem cells160 : Tryz.prog.cellsOf 160 = 24 := by kernel_rfl
theorem cells159 : Tryz.prog.cellsOf 159 = 4 := by kernel_rfl
theorem cells4 : Tryz.prog.cellsOf 4 = 1 := by kernel_rfl
theorem cellsOf46 : Tryz.prog.cellsOf 46 = 5 := by kernel_rfl
theorem cellsOf44 : Tryz.prog.cellsOf 44 = 1 := by kernel_rfl
theorem cellsOf24 : Tryz.prog.cellsOf 24 = 1 := by kernel_rfl
theorem cellsOf3 : Tryz.prog.cellsOf 3 = 1 := by kernel_rfl
theorem cellsOf2 : Tryz.prog.cellsOf 2 = 1 := by kernel_rfl
theorem listOf4 {α : Type} {l : List α} (h : l.length = 4) : ∃ a b c d, l = [a, b, c, d] := by
  match l, h with
  | [a, b, c, d], _ => exact ⟨a, b, c, d, rfl⟩
theorem listOf5 {α : Type} {l : List α} (h : l.length = 5) : ∃ a b c d e, l = [a, b, c, d, e] := by
  match l, h with
  | [a, b, c, d, e], _ => exact ⟨a, b, c, d, e, rfl⟩
variable {H : Type} {enc : TypeId × Value → H}
/-- Four bools that read as such lie so. -/
theorem cells_fields {w : World} {base : Nat} {sp : Nat → Bool} {held : Bool} {fuel : Nat} {cs : List Value} {a b c d : Bool} {p : List MemPlace}
    (h : DataW.trod enc Tryz.prog w base sp held fuel 159 cs = some (.agg [.lit (.bool a), .lit (.bool b), .lit (.bool c), .lit (.bool d)], p)) : cs = [.bool a, .bool b, .bool c, .bool d] := by
  obtain ⟨xs, n, _, hx, hl, hsz, hf⟩ := DataW.trod_struct Tryz.underlying159 h
  rw [cells159] at hl
  obtain ⟨v0, v1, v2, v3, rfl⟩ := listOf4 hl
  obtain ⟨y0, y1, y2, y3, rfl⟩ := listOf4 (show xs.length = 4 from hsz)
  have f0 : DataW.trod enc Tryz.prog w base sp held n 4 [v0] = some y0 := by simpa [cells4] using hf 0 _ rfl
  have f1 : DataW.trod enc Tryz.prog w base sp held n 4 [v1] = some y1 := by simpa [cells4] using hf 1 _ rfl
  have f2 : DataW.trod enc Tryz.prog w base sp held n 4 [v2] = some y2 := by simpa [cells4] using hf 2 _ rfl
  have f3 : DataW.trod enc Tryz.prog w base sp held n 4 [v3] = some y3 := by simpa [cells4] using hf 3 _ rfl
  obtain ⟨b0, e0, rfl⟩ := DataW.trod_bool Tryz.underlying4 f0
  obtain ⟨b1, e1, rfl⟩ := DataW.trod_bool Tryz.underlying4 f1
  obtain ⟨b2, e2, rfl⟩ := DataW.trod_bool Tryz.underlying4 f2
  obtain ⟨b3, e3, rfl⟩ := DataW.trod_bool Tryz.underlying4 f3
  have hd := congrArg Prod.fst hx
  simp at hd e0 e1 e2 e3
  obtain ⟨rfl, rfl, rfl, rfl⟩ := hd
  rw [e0, e1, e2, e3]
theorem table {W : World} (h : laidMetH Tryz.prog [("gangway/records.fieldsOf", Rows.laid_gangway_records_fieldsOf)] W) : Rk.Tab W := by
  have h' : laidMet Tryz.prog [("gangway/records.fieldsOf", Rows.laid_gangway_records_fieldsOf)] W := h
  obtain ⟨ps, ⟨g', t', cs, fuel, p, q, hg', ht', hvar, hd, _, _⟩, _⟩ := h'
  obtain rfl := Option.some.inj (gTab.symm.trans hg')
  obtain rfl := Option.some.inj (gTabType.symm.trans ht')
  cases fuel with
  | zero => simp [DataW.trod] at hd
  | succ fuel =>
    simp only [DataW.trod, Tryz.underlying160, cells160, cells159] at hd
    split at hd
    · rename_i hl
      obtain ⟨xs, hm, hx⟩ := Option.map_eq_some_iff.1 hd
      have hxs := congrArg Prod.fst hx
      simp only [Rows.laid_gangway_records_fieldsOf, DataW.agg.injEq] at hxs
      have key : ∀ i (a b c d : Bool), i < 6 → (xs.map (·.1))[i]? = some (.agg [.lit (.bool a), .lit (.bool b), .lit (.bool c), .lit (.bool d)]) → (cs.toList.drop (i * 4)).take 4 = [.bool a, .bool b, .bool c, .bool d] := by
        intro i a b c d hi he
        obtain ⟨y, hy, hf⟩ := Lib.mapM_at hm i i (by simp [hi])
        rw [List.getElem?_map, hy] at he
        obtain ⟨y1, y2⟩ := y
        simp at he
        subst he
        exact cells_fields hf
      rw [hxs] at key
      have k0 := key 0 _ _ _ _ (by decide) rfl
      have k1 := key 1 _ _ _ _ (by decide) rfl
      have k2 := key 2 _ _ _ _ (by decide) rfl
      have k3 := key 3 _ _ _ _ (by decide) rfl
      have k4 := key 4 _ _ _ _ (by decide) rfl
      have k5 := key 5 _ _ _ _ (by decide) rfl
      have hall : cs.toList = Rk.tabB.map Value.bool := by
        have e : cs.toList = (cs.toList.drop (0 * 4)).take 4 ++ ((cs.toList.drop (1 * 4)).take 4 ++ ((cs.toList.drop (2 * 4)).take 4 ++ ((cs.toList.drop (3 * 4)).take 4 ++ ((cs.toList.drop (4 * 4)).take 4 ++ (cs.toList.drop (5 * 4)).take 4)))) := by
          have s : ∀ n, cs.toList.drop n = (cs.toList.drop n).take 4 ++ cs.toList.drop (n + 4) := by
            intro n
            conv => lhs; rw [← List.take_append_drop 4 (cs.toList.drop n), List.drop_drop]
          have z : (cs.toList.drop (5 * 4)).take 4 = cs.toList.drop (5 * 4) := List.take_of_length_le (by rw [List.length_drop, hl]; decide)
          rw [z, ← s (4 * 4), ← s (3 * 4), ← s (2 * 4), ← s (1 * 4), ← s (0 * 4)]
          simp
        rw [e, k0, k1, k2, k3, k4, k5]
        rfl
      intro j hj
      have := World.var?_cell gTab hvar j
      rw [this, show cs[j]? = cs.toList[j]? by simp, hall, List.getElem?_map, List.getD_eq_getElem?_getD]
      have hjl : j < Rk.tabB.length := hj
      rw [List.getElem?_eq_getElem hjl]
      rfl
    · cases hd
/-- A world for the witness: the table (block 0) holding what its initialiser lays. -/
noncomputable def laidWorld (os : Os) : World :=
  { World.holding Tryz.prog os ⟨#[], #[], []⟩ with heap := (World.holding Tryz.prog os ⟨#[], #[], []⟩).heap.modify 0 fun
      | .cells _ t frozen => .cells (Rk.tabB.map Value.bool).toArray t frozen
      | o => o }
set_option maxRecDepth 20000 in
/-- An argument that is a record. -/
theorem open_recordArg {w : World} {base : Nat} {spare : Nat → Bool} {held : Bool} {r : Reach} {b0 : Nat} {v : Value} {d : DataW H} {ps : List MemPlace} (hval : Value.okWide Tryz.prog w r b0 46 v) (hd : DataW.Trod enc Tryz.prog w base spare held 46 v d ps) :
    ∃ r : Rc, v = Rk.rcV r ∧ r.Ok := by
  obtain ⟨cs, rfl, _⟩ := okWide_struct Tryz.underlying46 hval
  obtain ⟨fuel, h⟩ := hd
  have h : DataW.trod enc Tryz.prog w base spare held fuel 46 cs.toList = some (d, ps) := h
  obtain ⟨xs, n, _, hx, hl, hsz, hf⟩ := DataW.trod_struct Tryz.underlying46 h
  rw [cellsOf46] at hl
  obtain ⟨v0, v1, v2, v3, v4, hc⟩ := listOf5 hl
  obtain ⟨y0, y1, y2, y3, y4, rfl⟩ := listOf5 (show xs.length = 5 from hsz)
  rw [hc] at hf
  have f0 : DataW.trod enc Tryz.prog w base spare held n 44 [v0] = some y0 := by simpa [cellsOf44] using hf 0 _ rfl
  have f1 : DataW.trod enc Tryz.prog w base spare held n 24 [v1] = some y1 := by simpa [cellsOf24] using hf 1 _ rfl
  have f2 : DataW.trod enc Tryz.prog w base spare held n 3 [v2] = some y2 := by simpa [cellsOf3] using hf 2 _ rfl
  have f3 : DataW.trod enc Tryz.prog w base spare held n 2 [v3] = some y3 := by simpa [cellsOf2] using hf 3 _ rfl
  have f4 : DataW.trod enc Tryz.prog w base spare held n 2 [v4] = some y4 := by simpa [cellsOf2] using hf 4 _ rfl
  obtain ⟨a, e0, rfl, wa⟩ := DataW.trod_int Tryz.underlying44 f0
  obtain ⟨b, e1, rfl, wb⟩ := DataW.trod_int Tryz.underlying24 f1
  obtain ⟨c, e2, rfl, wc⟩ := DataW.trod_int Tryz.underlying3 f2
  obtain ⟨e, e3, rfl, we⟩ := DataW.trod_int Tryz.underlying2 f3
  obtain ⟨f, e4, rfl, wf⟩ := DataW.trod_int Tryz.underlying2 f4
  simp only [List.cons.injEq, and_true] at e0 e1 e2 e3 e4
  have ba := bounds_i64 wa
  have bb := bounds_u32 wb
  have bc := bounds_i64 wc
  have be := bounds_i64 we
  have bf := bounds_i64 wf
  refine ⟨⟨a, b, c, e, f⟩, ?_, ⟨by simp only; omega, by simp only; omega, by simp only; omega, by simp only; omega, by simp only; omega, by simp only; omega, by simp only; omega, by simp only; omega, by simp only; omega, by simp only; omega⟩⟩
  rw [e0, e1, e2, e3, e4] at hc
  unfold Rk.rcV
  congr 1
  cases cs
  simpa using hc
theorem cellsOf46' : Tryz.prog.cellsOf 46 = 5 := by kernel_rfl
theorem open_rec {w : World} {base n : Nat} {spare : Nat → Bool} {held : Bool} {a : Addr} {cs : List Value} {x : DataW H × List MemPlace} (hc : w.cells? base a 5 = some cs) (h : DataW.trod enc Tryz.prog w base spare held n 46 cs = some x) :
    ∃ r : Rc, r.Ok ∧ a = ⟨a.block, a.off, none⟩ ∧ w.cell? ⟨a.block, a.off, none⟩ = some (.int .i64 r.k) ∧ w.cell? ⟨a.block, a.off + 1, none⟩ = some (.int .u32 r.i) ∧ w.cell? ⟨a.block, a.off + 2, none⟩ = some (.int .i64 r.s) ∧ w.cell? ⟨a.block, a.off + 3, none⟩ = some (.int .i64 r.u) ∧ w.cell? ⟨a.block, a.off + 4, none⟩ = some (.int .i64 r.c) := by
  obtain ⟨_, hlen, hcell⟩ := World.cells?_some hc
  obtain ⟨xs, n, _, rfl, hl, hsz, hf⟩ := DataW.trod_struct Tryz.underlying46 h
  obtain ⟨v0, v1, v2, v3, v4, rfl⟩ := listOf5 hlen
  obtain ⟨y0, y1, y2, y3, y4, rfl⟩ := listOf5 (show xs.length = 5 from hsz)
  clear hl hsz
  have f0 : DataW.trod enc Tryz.prog w base spare held n 44 [v0] = some y0 := by simpa [cellsOf44] using hf 0 _ rfl
  have f1 : DataW.trod enc Tryz.prog w base spare held n 24 [v1] = some y1 := by simpa [cellsOf24] using hf 1 _ rfl
  have f2 : DataW.trod enc Tryz.prog w base spare held n 3 [v2] = some y2 := by simpa [cellsOf3] using hf 2 _ rfl
  have f3 : DataW.trod enc Tryz.prog w base spare held n 2 [v3] = some y3 := by simpa [cellsOf2] using hf 3 _ rfl
  have f4 : DataW.trod enc Tryz.prog w base spare held n 2 [v4] = some y4 := by simpa [cellsOf2] using hf 4 _ rfl
  obtain ⟨b0, e0, rfl, wa⟩ := DataW.trod_int Tryz.underlying44 f0
  obtain ⟨b1, e1, rfl, wb⟩ := DataW.trod_int Tryz.underlying24 f1
  obtain ⟨b2, e2, rfl, wc⟩ := DataW.trod_int Tryz.underlying3 f2
  obtain ⟨b3, e3, rfl, wd⟩ := DataW.trod_int Tryz.underlying2 f3
  obtain ⟨b4, e4, rfl, we⟩ := DataW.trod_int Tryz.underlying2 f4
  simp only [List.cons.injEq, and_true] at e0 e1 e2 e3 e4
  subst e0 e1 e2 e3 e4
  have ba := bounds_i64 wa
  have bb := bounds_u32 wb
  have bc := bounds_i64 wc
  have bd := bounds_i64 wd
  have be := bounds_i64 we
  have g0 := hcell 0 (by omega)
  have ha : a = ⟨a.block, a.off, none⟩ := by
    have h1 : w.cell? a = some (.int .i64 b0) := by simpa [Addr.add] using g0
    have h2 : a.spot = none := by
      unfold World.cell? at h1
      split at h1
      · split at h1
        · cases h1
        · rename_i hs; simpa using hs
      · cases h1
    cases a; simp_all
  rw [ha] at hcell
  refine ⟨⟨b0, b1, b2, b3, b4⟩, ⟨by simp only; omega, by simp only; omega, by simp only; omega, by simp only; omega, by simp only; omega, by simp only; omega, by simp only; omega, by simp only; omega, by simp only; omega, by simp only; omega⟩, ha, ?_, ?_, ?_, ?_, ?_⟩
  · simpa [Addr.add_lit] using hcell 0 (by omega)
  · simpa [Addr.add_lit] using hcell 1 (by omega)
  · simpa [Addr.add_lit] using hcell 2 (by omega)
  · simpa [Addr.add_lit] using hcell 3 (by omega)
  · simpa [Addr.add_lit] using hcell 4 (by omega)
theorem open_recsB {w : World} {base len n : Nat} {spare : Nat → Bool} {held : Bool} {a : Addr} {D : Nat → DataW H} {Pl : Nat → List MemPlace}
    (h : ∀ i, i < len → ∃ cs', w.cells? base (a.add (i * 5)) 5 = some cs' ∧ DataW.trod enc Tryz.prog w base spare held n 46 cs' = some (D i, Pl i)) :
    ∃ os : List Rc, os.length = len ∧ RecsAt w (some a) os ∧ (∀ o ∈ os, o.Ok) := by
  have hex : ∀ i, i < len → ∃ r : Rc, r.Ok ∧ ∃ blk off, some a = some (⟨blk, off, none⟩ : Addr) ∧ w.cell? ⟨blk, off + i * 5, none⟩ = some (.int .i64 r.k) ∧ w.cell? ⟨blk, off + i * 5 + 1, none⟩ = some (.int .u32 r.i) ∧ w.cell? ⟨blk, off + i * 5 + 2, none⟩ = some (.int .i64 r.s) ∧ w.cell? ⟨blk, off + i * 5 + 3, none⟩ = some (.int .i64 r.u) ∧ w.cell? ⟨blk, off + i * 5 + 4, none⟩ = some (.int .i64 r.c) := by
    intro i hi
    obtain ⟨cs', hc, ht⟩ := h i hi
    obtain ⟨o, hok, _, h1, h2, h3, h4, h5⟩ := open_rec hc ht
    have ha : a = ⟨a.block, a.off, none⟩ := by
      obtain ⟨cs0, hc0, ht0⟩ := h 0 (by omega)
      obtain ⟨_, _, he, _⟩ := open_rec hc0 ht0
      simpa [Addr.add] using he
    have e1 : (a.add (i * 5)).block = a.block := by unfold Addr.add; split <;> rfl
    have e2 : (a.add (i * 5)).off = a.off + i * 5 := by rw [ha, Addr.add_lit]
    rw [e1, e2] at h1 h2 h3 h4 h5
    exact ⟨o, hok, a.block, a.off, by rw [← ha], h1, h2, h3, h4, h5⟩
  clear h
  induction len with
  | zero => exact ⟨[], rfl, (fun j o h => by simp at h), fun o ho => by simp at ho⟩
  | succ k ih =>
    obtain ⟨os, h1, h2, h3⟩ := ih (fun i hi => hex i (by omega))
    obtain ⟨o, hok, g1⟩ := hex k (by omega)
    refine ⟨os ++ [o], by simp [h1], ?_, ?_⟩
    · intro j o' hj
      by_cases hjk : j < os.length
      · rw [List.getElem?_append_left hjk] at hj; exact h2 j o' hj
      · have hlt := (List.getElem?_eq_some_iff.1 hj).1
        have hjk2 : j = k := by simp at hlt; omega
        subst hjk2
        rw [List.getElem?_append_right (by omega), h1, Nat.sub_self] at hj
        simp at hj
        subst hj
        exact g1
    · intro o' ho'
      rcases List.mem_append.1 ho' with h | h
      · exact h3 o' h
      · simp at h; rw [h]; exact hok
set_option maxRecDepth 20000 in
/-- An argument that is a slice of records. -/
theorem open_recsArg {w : World} {r : Reach} {b0 : Nat} {v : Value} {d : DataW H} {p0 : List MemPlace} (hval : Value.okWide Tryz.prog w r b0 68 v) (h0 : DataW.Trod enc Tryz.prog w 0 (fun _ => true) true 68 v d p0) :
    ∃ (ao : Option Addr) (len cap : Nat) (os : List Rc), v = .slice ao len cap ∧ os.length = len ∧ RecsAt w ao os ∧ (∀ o ∈ os, o.Ok) ∧ len ≤ 9223372036854775807 := by
  obtain ⟨ao, len0, cap0, rfl⟩ := okWide_slice Tryz.underlying68 hval
  obtain ⟨fuel, hf⟩ := h0
  rcases open_slice Tryz.underlying68 hf with ⟨hcs, _⟩ | ⟨a, len, cap, m, n, D, Pl, hcs, _, hl, hm, hmm, hx, hel⟩
  · simp [Value.cells] at hcs
    obtain ⟨rfl, rfl, rfl⟩ := hcs
    exact ⟨none, 0, 0, [], rfl, rfl, (fun j o h => by simp at h), (fun o ho => by simp at ho), by omega⟩
  · simp [Value.cells] at hcs
    obtain ⟨rfl, rfl, rfl⟩ := hcs
    have hlm : len0 ≤ m := by rw [hmm]; split <;> omega
    rw [cellsOf46] at hel
    obtain ⟨os, h1, h2, h3⟩ := open_recsB (len := len0) (fun i hi => hel i (by omega))
    exact ⟨_, len0, cap0, os, rfl, h1, h2, h3, by unfold maxLen at hm; omega⟩
end Go.Proofs.YtcbiloomnkbalaaGreatDoor
/- A book behind some records. -/
namespace Go.Proofs.YtcbiloomnkbalaaGreatDoor
open Go.RowKit
attribute [local go_sem ↓] Go.wp_at_zero Go.wp_at_succ
attribute [local go_sem] Oper.semAt_some
def Sb.Mk (S : Sb) : Prop := S.Ok ∧ S.a = 12 ∧ S.b = 8 ∧ S.c = 4
theorem app_shape (S : Sb) (r : Rc) : (app S r).a = S.a ∧ (app S r).b = S.b ∧ (app S r).c = S.c := by
  unfold app appS
  repeat' split
  all_goals exact ⟨rfl, rfl, rfl⟩
theorem Sb.Mk.app {S : Sb} (h : S.Mk) (r : Rc) : (app S r).Mk := by
  obtain ⟨h1, h2, h3⟩ := app_shape S r
  exact ⟨h.1.app r, h1.trans h.2.1, h2.trans h.2.2.1, h3.trans h.2.2.2⟩
set_option maxRecDepth 20000 in
set_option maxHeartbeats 16000000 in
theorem made_any {w : World} {ao : Option Addr} {len cap : Nat} {rs : List Rc} (hl : rs.length = len) (hR : RecsAt w ao rs) (hO : ∀ r ∈ rs, r.Ok) (hT : Rk.Tab w) : Calls Tryz.prog 25 #[.slice ao len cap] w fun e w' => ∃ b S p, e = .returned (.tuple #[.pointer (some ⟨b, 0, none⟩), .bool true]) ∧ S.Mk ∧ Lk w w' b S 300 p [] := by
  have HN := hide (new_lk 12 8 4 (by decide) w hT.lt)
  unfold limV at HN
  have HD := hide (And.intro hl (And.intro hR hO))
  have HCo : Hid (∀ W b S K p, Lk w W b S K p [] → S.Mk → Calls Tryz.prog 22 #[.pointer (some ⟨b, 0, none⟩)] W fun e w' => ∃ q : Bp, e = .returned (.pointer (some ⟨q.b, 0, none⟩)) ∧ BkAt w' q S 4096 ∧ Lk w w' b S K p [] ∧ (∀ i, q.own i → W.heap.size ≤ i) ∧ (∀ i, p.own i → ¬ q.own i)) := fun W b S K p h hm => h.copy hm.1.wk
  have HX : Hid (∀ W b S K p Bs, Lk w W b S K p Bs → Calls Tryz.prog 31 #[.pointer (some ⟨b, 0, none⟩)] W fun e w' => e = .returned (.int .u32 (S.n : Int)) ∧ w' = W) := fun W b S K p Bs h => h.next
  have HA0 : Hid (∀ W b S K p Bs, S.Mk → K ≤ 300 → Lk w W b S K p Bs → ∀ r : Rc, r.Ok → Calls Tryz.prog 36 #[.pointer (some ⟨b, 0, none⟩), .agg #[.int .i64 r.k, .int .u32 r.i, .int .i64 r.s, .int .i64 r.u, .int .i64 r.c]] W fun e w' => e = .returned (.int .i64 (appE S r)) ∧ ∃ q, Lk w w' b (app S r) (K + 1) q Bs ∧ Bst W w' p q) := fun W b S K p Bs hm hk h r hr => h.apply hm.1 (by omega) hT r hr
  have H40 : Hid (∀ W W' b S K p Bs r q0 q, S.Mk → Lk w W b S K p Bs → (BkAt W q0 S 4096 ∧ ∀ i, p.own i → ¬ q0.own i) → Lk w W' b (app S r) (K + 1) q Bs → Bst W W' p q → ∃ S' q', S'.Mk ∧ Lk w W' b S' (K + 1) q' [] ∧ (appE S r = 0 ∨ (appE S r ≠ 0 ∧ Calls Tryz.prog 20 #[.pointer (some ⟨q0.b, 0, none⟩), .pointer (some ⟨b, 0, none⟩)] W' fun e w' => e = .returned (.bool true) ∧ W'.grownBy w' none))) := by
    intro W W' b S K p Bs r q0 q hm h hq h' hs
    refine ⟨app S r, q, hm.app r, h'.bare, ?_⟩
    by_cases he : appE S r = 0
    · exact .inl he
    · refine .inr ⟨he, ?_⟩
      have h1 := h'.bk
      rw [app_no he] at h1
      have := same_eq (hq.1.far hs.kept (fun i h1 h2 => hq.2 i h2 h1)) h1 hm.1.wk
      rw [h'.eb] at this
      exact this
  clear hR hO hT hl
  go_enter Tryz.func25, Tryz.ntmps25
  go_wp2_with fail
  refine HN.out.mono ?_
  rintro e w1 ⟨b, p, rfl, hh⟩
  have H1 := hide hh
  clear hh HN
  go_wp2
  obtain ⟨m, hm1, hm2, hm3⟩ : ∃ m, m ≤ len ∧ m ≤ 300 ∧ (m = len ∨ m = 300) := ⟨min len 300, by omega, by omega, by omega⟩
  go_loopg [6] m (fun k i wr => ∃ j : Nat, k + j = m ∧ i = .int .i64 j ∧ ∃ S q, Sb.Mk S ∧ Lk w wr b S j q [])
  case atStart => exact ⟨0, by omega, rfl, _, _, ⟨Sb.Ok.new (by decide), rfl, rfl, rfl⟩, H1.out⟩
  case round =>
    clear H1
    obtain ⟨j, hkj, rfl, S, q, hMk, hL⟩ := hrel
    have HL := hide (And.intro hMk hL)
    clear hMk hL
    by_cases hk : 0 < gk
    · have h1 : (0 : Int) ≤ (j : Int) := by omega
      have h2 : (j : Int) < (len : Int) := by omega
      have h3 : (j : Int) < 300 := by omega
      obtain ⟨r, hr⟩ : ∃ r, rs[j]? = some r := ⟨rs[j]'(by have := HD.out.1; omega), List.getElem?_eq_getElem _⟩
      obtain ⟨rb, off, rfl, c0, c1, c2, c3, c4⟩ := HD.out.2.1 j r hr
      have HR := hide (HD.out.2.2 r (List.mem_of_getElem? hr))
      have HRc := hide (And.intro c0 (And.intro c1 (And.intro c2 (And.intro c3 c4))))
      clear hr c0 c1 c2 c3 c4
      obtain ⟨k, i, s, u, c⟩ := r
      simp only at HRc
      have HA : Hid (∀ W p Bs, Lk w W b S j p Bs → ∀ r : Rc, r.Ok → Calls Tryz.prog 36 #[.pointer (some ⟨b, 0, none⟩), .agg #[.int .i64 r.k, .int .u32 r.i, .int .i64 r.s, .int .i64 r.u, .int .i64 r.c]] W fun e w' => e = .returned (.int .i64 (appE S r)) ∧ ∃ q, Lk w w' b (app S r) (j + 1) q Bs ∧ Bst W w' p q) := fun W p Bs h r hr => HA0.out W b S j p Bs HL.out.1 (by omega) h r hr
      have H4 : Hid (∀ W W' p Bs r q0 q, Lk w W b S j p Bs → (BkAt W q0 S 4096 ∧ ∀ i, p.own i → ¬ q0.own i) → Lk w W' b (app S r) (j + 1) q Bs → Bst W W' p q → ∃ S' q', S'.Mk ∧ Lk w W' b S' (j + 1) q' [] ∧ (appE S r = 0 ∨ (appE S r ≠ 0 ∧ Calls Tryz.prog 20 #[.pointer (some ⟨q0.b, 0, none⟩), .pointer (some ⟨b, 0, none⟩)] W' fun e w' => e = .returned (.bool true) ∧ W'.grownBy w' none))) := fun W W' p Bs r q0 q => H40.out W W' b S j p Bs r q0 q HL.out.1
      clear HD
      go_wp2_with fail
      refine (HCo.out _ _ _ _ _ HL.out.2 HL.out.1).mono ?_
      rintro e w2 ⟨q0, rfl, hq1, hh, hq2, hq3⟩
      have g2 := hh.gr
      have c0 := g2.cell HRc.out.1 (by simp)
      have c1 := g2.cell HRc.out.2.1 (by simp)
      have c2 := g2.cell HRc.out.2.2.1 (by simp)
      have c3 := g2.cell HRc.out.2.2.2.1 (by simp)
      have c4 := g2.cell HRc.out.2.2.2.2 (by simp)
      have HB := hide (hh.box [.int .i64 k, .int .u32 i, .int .i64 s, .int .i64 u, .int .i64 c] 46)
      have HQ := hide (And.intro (hq1.then (grown_alloc w2 (.cells [.int .i64 k, .int .u32 i, .int .i64 s, .int .i64 u, .int .i64 c].toArray 46))) hq3)
      have HH := hide (And.intro hh (And.intro hq1 hq3))
      clear hh hq1 hq2 hq3 g2 HRc HCo
      by_cases hk1 : k = 1
      · subst hk1
        by_cases hi1 : i = 0
        · subst hi1
          go_wp2_with fail
          refine (HX.out _ _ _ _ _ _ HB.out).mono ?_
          rintro e w3 ⟨rfl, rfl⟩
          clear HB HQ
          have HB := hide (HH.out.1.box [.int .i64 1, .int .u32 (S.n : Int), .int .i64 s, .int .i64 u, .int .i64 c] 46)
          have HQ := hide (And.intro (HH.out.2.1.then (grown_alloc w2 (.cells [.int .i64 1, .int .u32 (S.n : Int), .int .i64 s, .int .i64 u, .int .i64 c].toArray 46))) HH.out.2.2)
          have HNo := hide (And.intro HL.out.1.1.n0 HL.out.1.1.n1)
          go_wp2_with fail
          refine (HA.out _ _ _ HB.out ⟨1, (S.n : Int), s, u, c⟩ (by have hr := HR.out; have hn := HNo.out; exact ⟨hr.k0, hr.k1, by simp only; omega, by simp only; omega, hr.s0, hr.s1, hr.u0, hr.u1, hr.c0, hr.c1⟩)).mono ?_
          rintro e w4 ⟨rfl, q4, hh4, hs4⟩
          have HS4 := hide (H4.out _ _ _ _ _ _ _ HB.out HQ.out hh4 hs4)
          clear hh4 hs4
          obtain ⟨S', q4', hS', hL', he'⟩ := HS4.out
          have HS' := hide (And.intro hS' hL')
          clear hS' hL' HS4
          rcases he' with he' | ⟨he', hC⟩
          · rw [he']
            clear he'
            go_wp2
            go_roundg (gk - 1)
            case measure => omega
            case rel => exact ⟨j + 1, by omega, by go_num, S', q4', HS'.out.1, HS'.out.2⟩
          · generalize appE _ _ = er at *
            have HC := hide hC
            clear hC
            go_wp2_with fail
            refine HC.out.mono ?_
            rintro e w5 ⟨rfl, hg5⟩
            have HS5 := hide (HS'.out.2.then hg5)
            clear hg5
            go_wp2
            go_roundg (gk - 1)
            case measure => omega
            case rel => exact ⟨j + 1, by omega, by go_num, S', q4', HS'.out.1, HS5.out⟩
        · have f1 : (i == 0) = false := by simpa using hi1
          have f2 : decide (i = 0) = false := by simpa using hi1
          go_wp2_with fail
          refine (HA.out _ _ _ HB.out ⟨1, i, s, u, c⟩ HR.out).mono ?_
          rintro e w4 ⟨rfl, q4, hh4, hs4⟩
          have HS4 := hide (H4.out _ _ _ _ _ _ _ HB.out HQ.out hh4 hs4)
          clear hh4 hs4
          obtain ⟨S', q4', hS', hL', he'⟩ := HS4.out
          have HS' := hide (And.intro hS' hL')
          clear hS' hL' HS4
          rcases he' with he' | ⟨he', hC⟩
          · rw [he']
            clear he'
            go_wp2
            go_roundg (gk - 1)
            case measure => omega
            case rel => exact ⟨j + 1, by omega, by go_num, S', q4', HS'.out.1, HS'.out.2⟩
          · generalize appE _ _ = er at *
            have HC := hide hC
            clear hC
            go_wp2_with fail
            refine HC.out.mono ?_
            rintro e w5 ⟨rfl, hg5⟩
            have HS5 := hide (HS'.out.2.then hg5)
            clear hg5
            go_wp2
            go_roundg (gk - 1)
            case measure => omega
            case rel => exact ⟨j + 1, by omega, by go_num, S', q4', HS'.out.1, HS5.out⟩
      · go_wp2_with fail
        refine (HA.out _ _ _ HB.out ⟨k, i, s, u, c⟩ HR.out).mono ?_
        rintro e w4 ⟨rfl, q4, hh4, hs4⟩
        have HS4 := hide (H4.out _ _ _ _ _ _ _ HB.out HQ.out hh4 hs4)
        clear hh4 hs4
        obtain ⟨S', q4', hS', hL', he'⟩ := HS4.out
        have HS' := hide (And.intro hS' hL')
        clear hS' hL' HS4
        rcases he' with he' | ⟨he', hC⟩
        · rw [he']
          clear he'
          go_wp2
          go_roundg (gk - 1)
          case measure => omega
          case rel => exact ⟨j + 1, by omega, by go_num, S', q4', HS'.out.1, HS'.out.2⟩
        · generalize appE _ _ = er at *
          have HC := hide hC
          clear hC
          go_wp2_with fail
          refine HC.out.mono ?_
          rintro e w5 ⟨rfl, hg5⟩
          have HS5 := hide (HS'.out.2.then hg5)
          clear hg5
          go_wp2
          go_roundg (gk - 1)
          case measure => omega
          case rel => exact ⟨j + 1, by omega, by go_num, S', q4', HS'.out.1, HS5.out⟩
    · have hj : j = m := by omega
      subst hj
      have HF := hide (HL.out.2.more (show j ≤ 300 by omega))
      by_cases h1 : j < len
      · have h2 : (j : Int) < (len : Int) := by omega
        have h3 : j = 300 := by omega
        subst h3
        go_wp2
        go_ret2
        exact ⟨_, rfl, _, HL.out.1, _, HF.out⟩
      · have h2 : ¬ (j : Int) < (len : Int) := by omega
        go_wp2
        go_ret2
        exact ⟨_, rfl, _, HL.out.1, _, HF.out⟩
end Go.Proofs.YtcbiloomnkbalaaGreatDoor
