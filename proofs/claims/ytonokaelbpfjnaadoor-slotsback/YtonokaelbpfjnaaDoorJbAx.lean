/- Texts joined: SlLa, SlLb, SlT, SlK. -/
import Derived.Test.YtonokaelbpfjnaaDoorJbAw
import Derived.Test.YtonokaelbpfjnaaDoorCards
import Derived.Test.YtonokaelbpfjnaaDoorTie
import Derived.ProofKit
import Derived.OpenShut
import Derived.Deep.DeepHandedRow
import Derived.Lib.LaidTab
import Derived.ChangeOld
import Derived.SizedLaws
import Derived.Test.YtonokaelbpfjnaaDoorJbAq
import Derived.Deep.CutRange
import Derived.Deep.DeepCutAuto
/- What the rows' listed table gives; a world for the witnesses; arguments that are rows of bytes: shared by the rows' proofs. -/
namespace Go.Proofs.YtonokaelbpfjnaaDoor
open Go.ChangeShapes Go.WideShapes Go.ChangeAt Go.RowKit Go.Deep Ap

theorem seat_own : ownKnob Tryd.prog.godebug = none := by kernel_rfl
theorem seat_laid : laidOutB Tryd.prog = true := by kernel_rfl
theorem gTab : Tryd.prog.globalNamed "gangway/crc.four" = some 0 := by kernel_rfl
theorem gTabType : (Tryd.prog.globals[0]?).map (·.type) = some 149 := by kernel_rfl
theorem cells149 : Tryd.prog.cellsOf 149 = 16 := by kernel_rfl
theorem cells33 : Tryd.prog.cellsOf 33 = 1 := by kernel_rfl
theorem cellsOf5 : Tryd.prog.cellsOf 5 = 1 := by kernel_rfl
theorem bytes5 : Tryd.prog.bytesOf 5 = 1 := by kernel_rfl
def tabL : List Int := [0, 498536548, 997073096, 651767980, 1994146192, 1802195444, 1303535960, 1342533948, 3988292384, 4027552580, 3604390888, 3412177804, 2607071920, 2262029012, 2685067896, 3183342108]
theorem tabL_at : ∀ j, j < 16 → tabL.getD j 0 = ((Fm.Cr.Poly.steps 4 j : Nat) : Int) := by decide
theorem table {W : World} (h : laidMetH Tryd.prog [("gangway/crc.four", Rows.laid_gangway_crc_four)] W) : Fm.Cr.Tab W := by
  have ht : Lib.TabIs Tryd.prog W "gangway/crc.four" .u32 tabL := Lib.tabIs_of_head (rest := []) gTab gTabType Tryd.underlying149 Tryd.underlying33 cells33 cells149 h
  intro j hj
  rw [← tabL_at j hj]
  exact ht.cell gTab j hj
theorem grown_below {a b : World} (h : a.grownBy b none) : Below a.heap.size a b := ⟨h.os, h.tape, h.output, h.size, fun k hk => h.block k hk (fun e => by cases e)⟩

/-- A world for the witness: the table (block 0) holding what its initialiser lays. -/
noncomputable def laidWorld (os : Os) : World :=
  { World.holding Tryd.prog os ⟨#[], #[], []⟩ with heap := (World.holding Tryd.prog os ⟨#[], #[], []⟩).heap.modify 0 fun
      | .cells _ t frozen => .cells (tabL.map (Value.int .u32)).toArray t frozen
      | o => o }

variable {H : Type} {enc : TypeId × Value → H}
set_option maxRecDepth 20000 in
/-- An argument that is a slice of bytes. -/
theorem open_bytesArg {w : World} {base : Nat} {spare : Nat → Bool} {held : Bool} {r : Reach} {b0 : Nat} {v : Value} {d : DataW H} {ps : List MemPlace} (hval : Value.okWide Tryd.prog w r b0 22 v) (hd : DataW.Trod enc Tryd.prog w base spare held 22 v d ps) (hz : ∀ n ∈ d.weights Tryd.prog 22, n ≤ reachBytes) :
    ∃ (ao : Option Addr) (n cap : Nat) (xs : List Nat), v = .slice ao n cap ∧ xs.length = n ∧ At w ao xs ∧ Bytes xs ∧ n ≤ 140737488351232 ∧ (ao = none → n = 0 ∧ cap = 0) ∧ n ≤ cap ∧ cap ≤ maxLen := by
  obtain ⟨ao, len0, cap0, rfl⟩ := okWide_slice Tryd.underlying22 hval
  obtain ⟨fuel, hf⟩ := hd
  refine ⟨ao, len0, cap0, ?_⟩
  rcases open_ints Tryd.underlying22 Tryd.underlying5 cellsOf5 hf with ⟨hcs, _⟩ | ⟨a, len, cap, zs, hcs, _, hl, hm, hzz, hx, hcell, hwf⟩
  · simp [Value.cells] at hcs
    obtain ⟨rfl, rfl, rfl⟩ := hcs
    exact ⟨[], rfl, rfl, At.nil _ _, (fun x hx => by cases hx), by omega, fun _ => ⟨rfl, rfl⟩, by omega, by unfold maxLen; omega⟩
  · simp [Value.cells] at hcs
    obtain ⟨rfl, rfl, rfl⟩ := hcs
    have hd : d = .slice (lits .u8 (zs.take len0)) (lits .u8 (zs.drop len0)) := congrArg Prod.fst hx
    have h1 := hz ((lits .u8 (zs.take len0) : List (DataW H)).length * 1 + (lits .u8 (zs.drop len0) : List (DataW H)).length * 1) (by
      rw [hd]; simp [DataW.weights, Tryd.underlying22, bytes5])
    simp only [lits, List.length_map, List.length_take, List.length_drop, reachBytes] at h1
    have hzl : len0 ≤ zs.length := by rw [hzz]; split <;> omega
    refine ⟨(zs.take len0).map Int.toNat, rfl, by simp; omega, ?_, ?_, by omega, (fun e => by cases e), hl, hm⟩
    · intro j u hu
      rw [List.getElem?_map, List.getElem?_take] at hu
      split at hu
      · rename_i hj
        have hj2 : j < zs.length := by omega
        rw [List.getElem?_eq_getElem hj2] at hu
        have hc := hcell j hj2
        have hb := bounds_u8 (hwf zs[j] (List.getElem_mem hj2))
        refine ⟨a, rfl, ?_⟩
        rw [hc]
        simp [List.getD_eq_getElem?_getD, hj2] at hu ⊢
        omega
      · cases hu
    · intro x hx
      rw [List.mem_map] at hx
      obtain ⟨y, hy, rfl⟩ := hx
      have := bounds_u8 (hwf y (List.mem_of_mem_take hy))
      omega
end Go.Proofs.YtonokaelbpfjnaaDoor
/- An argument that is a header: opened. -/
namespace Go.Proofs.YtonokaelbpfjnaaDoor
open Go.ChangeShapes Go.WideShapes Go.ChangeAt Go.RowKit Go.Deep Ap

theorem listOf4 {α : Type} {l : List α} (h : l.length = 4) : ∃ a b c d, l = [a, b, c, d] := by
  match l, h with
  | [a, b, c, d], _ => exact ⟨a, b, c, d, rfl⟩
theorem cellsOf35 : Tryd.prog.cellsOf 35 = 4 := by kernel_rfl
theorem cellsOf23 : Tryd.prog.cellsOf 23 = 1 := by kernel_rfl
theorem cellsOf3 : Tryd.prog.cellsOf 3 = 1 := by kernel_rfl
variable {H : Type} {enc : TypeId × Value → H}
set_option maxRecDepth 20000 in
/-- An argument that is a header. -/
theorem open_headerArg {w : World} {base : Nat} {spare : Nat → Bool} {held : Bool} {r : Reach} {b0 : Nat} {v : Value} {d : DataW H} {ps : List MemPlace} (hval : Value.okWide Tryd.prog w r b0 35 v) (hd : DataW.Trod enc Tryd.prog w base spare held 35 v d ps) :
    ∃ h : Fm.Hd, v = Fm.hdV h ∧ h.Ok := by
  obtain ⟨cs, rfl, _⟩ := okWide_struct Tryd.underlying35 hval
  obtain ⟨fuel, h⟩ := hd
  have h : DataW.trod enc Tryd.prog w base spare held fuel 35 cs.toList = some (d, ps) := h
  obtain ⟨xs, n, _, hx, hl, hsz, hf⟩ := DataW.trod_struct Tryd.underlying35 h
  rw [cellsOf35] at hl
  obtain ⟨v0, v1, v2, v3, hc⟩ := listOf4 hl
  obtain ⟨y0, y1, y2, y3, rfl⟩ := listOf4 (show xs.length = 4 from hsz)
  rw [hc] at hf
  have f0 : DataW.trod enc Tryd.prog w base spare held n 23 [v0] = some y0 := by simpa [cellsOf23] using hf 0 _ rfl
  have f1 : DataW.trod enc Tryd.prog w base spare held n 23 [v1] = some y1 := by simpa [cellsOf23] using hf 1 _ rfl
  have f2 : DataW.trod enc Tryd.prog w base spare held n 3 [v2] = some y2 := by simpa [cellsOf3] using hf 2 _ rfl
  have f3 : DataW.trod enc Tryd.prog w base spare held n 33 [v3] = some y3 := by simpa [cells33] using hf 3 _ rfl
  obtain ⟨a, e0, rfl, wa⟩ := DataW.trod_int Tryd.underlying23 f0
  obtain ⟨b, e1, rfl, wb⟩ := DataW.trod_int Tryd.underlying23 f1
  obtain ⟨c, e2, rfl, wc⟩ := DataW.trod_int Tryd.underlying3 f2
  obtain ⟨e, e3, rfl, we⟩ := DataW.trod_int Tryd.underlying33 f3
  simp only [List.cons.injEq, and_true] at e0 e1 e2 e3
  have ba := bounds_u64 wa
  have bb := bounds_u64 wb
  have bc := bounds_i64 wc
  have be := bounds_u32 we
  refine ⟨⟨a, b, c, e⟩, ?_, ⟨by simp only; omega, by simp only; omega, by simp only; omega, by simp only; omega, by simp only; omega, by simp only; omega, by simp only; omega, by simp only; omega⟩⟩
  rw [e0, e1, e2, e3] at hc
  unfold Fm.hdV
  congr 1
  cases cs
  simpa using hc
end Go.Proofs.YtonokaelbpfjnaaDoor
/- A header of which one byte is turned has another sum: plain lists. -/
namespace Go.Proofs.YtonokaelbpfjnaaDoor.Fm

/-- Two bytes, bit by bit. -/
def xorI (a b : Int) : Int := ((a.toNat ^^^ b.toNat : Nat) : Int)
theorem xorI_byte {a b : Int} (ha : 0 ≤ a ∧ a < 256) (hb : 0 ≤ b ∧ b < 256) : 0 ≤ xorI a b ∧ xorI a b < 256 := by
  have := Cr.Poly.xor_lt_byte (a := a.toNat) (b := b.toNat) (by omega) (by omega)
  unfold xorI
  omega
theorem bits_xorI {a b : Int} (ha : 0 ≤ a ∧ a < 256) (hb : 0 ≤ b ∧ b < 256) : bits .xor .u8 a b = xorI a b := by
  have := Cr.bits_xor_u8 a.toNat b.toNat (by omega) (by omega)
  unfold xorI
  rw [← this, show ((a.toNat : Nat) : Int) = a by omega, show ((b.toNat : Nat) : Int) = b by omega]
theorem xorI_ne {a b : Int} (ha : 0 ≤ a ∧ a < 256) (hb : 0 < b ∧ b < 256) : xorI a b ≠ a := by
  intro h
  have h1 : a.toNat ^^^ b.toNat = a.toNat := by unfold xorI at h; omega
  have h2 : b.toNat = 0 := by
    have := congrArg (a.toNat ^^^ ·) h1
    simp only [← Nat.xor_assoc, Nat.xor_self, Nat.zero_xor] at this
    exact this
  omega
theorem byt_set {xs : List Int} (h : Byt xs) (k : Nat) {y : Int} (hy : 0 ≤ y ∧ y < 256) : Byt (xs.set k y) := by
  intro x hx
  rcases List.mem_or_eq_of_mem_set hx with h1 | h1
  · exact h x h1
  · rw [h1]; exact hy
theorem nats_set (xs : List Int) (k : Nat) (b : Int) (hk : k < xs.length) : nats (xs.set k (xorI xs[k] b)) = (nats xs).set k ((nats xs).getD k 0 ^^^ b.toNat) := by
  unfold nats
  rw [List.map_set]
  congr 1
  unfold xorI
  simp [hk]
theorem sumI_turned {xs : List Int} (k : Nat) (b : Int) (hk : k < xs.length) (hb : 0 < b ∧ b < 256) : sumI (xs.set k (xorI xs[k] b)) ≠ sumI xs := by
  unfold sumI
  rw [nats_set xs k b hk]
  have hl : k < (nats xs).length := by rw [nats_length]; exact hk
  have := Cr.Poly.more_tells 0 (nats xs) ((nats xs).set k ((nats xs).getD k 0 ^^^ b.toNat)) b.toNat (8 * k) (by simp) (by omega) (Cr.Poly.LE_set _ k _ hl) (by omega) (by omega)
  intro h
  exact this (by omega)
theorem leV_leB' {N : Int} {k : Nat} (h0 : 0 ≤ N) (h1 : N < 2 ^ (8 * k)) : leV (leB N k) = N := by
  rw [leV_leB N h0 k]; exact Int.emod_eq_of_lt h0 h1
/-- Unlike in one byte: unlike as numbers. -/
theorem leV_set {xs : List Int} (hB : Byt xs) (k : Nat) (hk : k < xs.length) {y : Int} (_hy : 0 ≤ y ∧ y < 256) (hne : y ≠ xs[k]) : leV (xs.set k y) ≠ leV xs := by
  induction xs generalizing k with
  | nil => simp at hk
  | cons x r ih =>
    have hx := hB x (List.mem_cons_self ..)
    have hr : Byt r := fun z hz => hB z (List.mem_cons_of_mem _ hz)
    cases k with
    | zero =>
      simp only [List.set_cons_zero, leV, List.getElem_cons_zero] at hne ⊢
      omega
    | succ k =>
      have := ih hr k (by simpa using hk) (by simpa using hne)
      simp only [List.set_cons_succ, leV]
      omega
theorem readH_turned (h : Hd) (k : Nat) (b : Int) (hk : k < h.out.length) (hb : 0 < b ∧ b < 256) : readH (h.out.set k (xorI h.out[k] b)) = (zHd, 81) := by
  have hol := h.out_length
  have hhl := h.head_length
  have hB := h.out_byt
  have hbk := hB h.out[k] (List.getElem_mem hk)
  obtain ⟨y, hy⟩ : ∃ y, y = xorI h.out[k] b := ⟨_, rfl⟩
  have hyb : 0 ≤ y ∧ y < 256 := by rw [hy]; exact xorI_byte hbk ⟨by omega, hb.2⟩
  have hl2 : (h.out.set k y).length = 32 := by simp [hol]
  have hs := sumI_lt h.head_byt
  rw [← hy]
  unfold readH
  rw [if_neg (by omega), List.take_of_length_le (by omega), if_neg ?_]
  rintro ⟨_, hg⟩
  simp only [List.drop_drop] at hg
  have th : h.out.take 28 = h.head := List.take_left' hhl
  have dh : h.out.drop 28 = leB (sumI h.head) 4 := List.drop_left' hhl
  by_cases hc : k < 28
  · have e1 : (h.out.set k y).drop 28 = h.out.drop 28 := List.drop_set_of_lt hc
    have e2 : (h.out.set k y).take 28 = h.head.set k y := by rw [List.take_set, th]
    rw [e1, e2, dh, List.take_of_length_le (by rw [leB_length]; omega), leV_leB' hs.1 (by omega)] at hg
    have hk' : k < h.head.length := by omega
    have e3 : h.out[k] = h.head[k] := by
      unfold Hd.out
      exact List.getElem_append_left hk'
    rw [hy, e3] at hg
    exact sumI_turned k b hk' hb hg.symm
  · have e2 : (h.out.set k y).take 28 = h.head := by rw [List.take_set_of_le (by omega), th]
    have e1 : (h.out.set k y).drop 28 = (leB (sumI h.head) 4).set (k - 28) y := by
      rw [List.drop_set, if_neg hc, dh]
    have hi : k - 28 < (leB (sumI h.head) 4).length := by rw [leB_length]; omega
    have e5 : (leB (sumI h.head) 4)[k - 28] = h.out[k] := by
      have : h.out[k] = (h.head ++ leB (sumI h.head) 4)[k]'(by rw [List.length_append, leB_length]; omega) := rfl
      rw [this, List.getElem_append_right (by omega)]
      congr 1
    rw [e1, e2, List.take_of_length_le (by rw [List.length_set, leB_length]; omega)] at hg
    refine leV_set (leB_byt _ _) (k - 28) hi hyb ?_ (hg.trans (leV_leB' hs.1 (by omega)).symm)
    rw [e5, hy]
    exact xorI_ne hbk hb
end Go.Proofs.YtonokaelbpfjnaaDoor.Fm
/- SlotsBack: the walk. -/
namespace Go.Proofs.YtonokaelbpfjnaaDoor
open Go.RowKit Ap
attribute [local go_sem ↓] Go.wp_at_zero Go.wp_at_succ
theorem tab_lt {w : World} (h : Fm.Cr.Tab w) : 0 < w.heap.size := cell_lt (h 0 (by decide))
theorem intz_nats {ys : List Int} (h : Fm.Byt ys) : intz (Fm.nats ys) = ys := by
  unfold intz Fm.nats
  rw [List.map_map]
  conv => rhs; rw [← List.map_id ys]
  apply List.map_congr_left
  intro x hx
  have := h x hx
  simp only [Function.comp, id]
  omega
theorem u8_of (t : Nat) (h : t < 255) : IntKind.u8.wrap (IntKind.i64.wrap (1 + (t : Int))) = 1 + (t : Int) := by
  have a : IntKind.i64.wrap (1 + (t : Int)) = 1 + (t : Int) := by rw [IntKind.wrap_i64]; omega
  rw [a, IntKind.wrap_u8]
  omega
theorem conv_gang {w : World} {G : Nat} {h : Fm.Hd} (hb : w.heap[G]? = some (.cells (h.out.map (Value.int .u8)).toArray 5 (0, 0))) : (convert 22 9 (.slice (some ⟨G, 0, none⟩) 4 32)).run Tryd.prog w = .ok (.string ⟨#[71, 65, 78, 71]⟩) w := by
  refine run_convert_bytes_back (P := Tryd.prog) w 22 9 5 ⟨G, 0, none⟩ 32 [71, 65, 78, 71] Tryd.underlying22 Tryd.underlying5 Tryd.underlying9 ?_
  intro j hj
  have hj4 : j < 4 := hj
  rw [Addr.add_lit, Nat.zero_add, cell_of_row w G j _ _ _ hb]
  unfold Fm.Hd.out Fm.Hd.head
  have : j = 0 ∨ j = 1 ∨ j = 2 ∨ j = 3 := by omega
  rcases this with rfl | rfl | rfl | rfl <;> simp
set_option maxRecDepth 20000 in
set_option maxHeartbeats 8000000 in
theorem slotsBack_any (h : Fm.Hd) (hok : h.Ok) (ao : Option Addr) (m cap : Nat) (xs : List Nat) (hm : xs.length = m) (hnil : ao = none → m = 0 ∧ cap = 0) (hbig : m ≤ 140737488351232) (hB : Bytes xs) (p : Int) (w : World) (hat : At w ao xs) (hT : Fm.Cr.Tab w) :
    Calls Tryd.prog 4 #[Fm.hdV h, .slice ao m cap, .int .i64 p] w fun e w' => e = .returned (.bool true) ∧ w.grownBy w' none := by
  have HA := hide (And.intro hat (And.intro hT (And.intro hm (And.intro hB hok))))
  have b1 : (w.alloc (.cells #[.int .u64 h.g, .int .u64 h.c, .int .i64 h.n, .int .u32 h.s] 35)).heap[w.heap.size]? = some (.cells (Fm.hdC h).toArray 35 (0, 0)) := heap_alloc_new w _
  have g1 := World.grownBy_alloc w (.cells #[.int .u64 h.g, .int .u64 h.c, .int .i64 h.n, .int .u32 h.s] 35) none
  have H1 := hide (And.intro b1 g1)
  clear hat hT hB b1 g1
  unfold Fm.hdV
  go_enter Tryd.func4, Tryd.ntmps4
  go_wp2_with fail
  generalize w.heap.size = X at *
  generalize (w.alloc (.cells #[.int .u64 h.g, .int .u64 h.c, .int .i64 h.n, .int .u32 h.s] 35)) = w1 at *
  refine (awake_any w1 (HA.out.2.1.grown H1.out.2)).mono ?_
  rintro e w2 ⟨rfl, g2⟩
  have H2 := hide (And.intro ((g2.block _ (row_lt H1.out.1) (by simp)).trans H1.out.1) (grown_trans H1.out.2 g2))
  clear g2 H1
  obtain ⟨c0, c1, c2, c3⟩ := Fm.box4 H2.out.1
  by_cases hmay : h.May
  · have HHd := hide (Fm.header_any h hok hmay w2 (HA.out.2.1.grown H2.out.2) (tab_lt (HA.out.2.1.grown H2.out.2)))
    unfold Fm.hdV at HHd
    go_wp2_with fail
    refine HHd.out.mono ?_
    rintro e w3 ⟨G, rfl, hG, hbG, g3⟩
    have H3 := hide (And.intro ((g3.block _ (row_lt H2.out.1) (by simp)).trans H2.out.1) (And.intro hbG (grown_trans H2.out.2 g3)))
    have HG0 : Hid (w.heap.size ≤ G) := by have := H2.out.2.size; show _ ≤ _; omega
    clear g3 hG hbG HHd c0 c1 c2 c3 H2
    obtain ⟨c0, c1, c2, c3⟩ := Fm.box4 H3.out.1
    obtain ⟨hg1, hn0, hn1⟩ := hmay
    have hgz : (h.g == 0) = false := by simp; omega
    have hgz2 : h.g ≠ 0 := by omega
    have hn0' : ¬ h.n < 0 := by omega
    have hn1' : ¬ 67108864 < h.n := by omega
    have hcv := conv_gang H3.out.2.1
    have HCp : Hid (∀ w', w3.grownBy w' none → Calls Tryd.prog 8 #[.slice (some ⟨G, 0, none⟩) 32 32] w' fun e w'' => ∃ v, e = .returned v ∧ w''.ownsRow w'.heap.size 5 1 v 32 (bv (Fm.nats h.out)) ∧ w'.grownBy w'' none) := fun w' g' =>
      copyBytes_any (some ⟨G, 0, none⟩) 32 32 (Fm.nats h.out) w' (by rw [Fm.nats_length, h.out_length]) ((at_row (by rw [← bv_nats h.out_byt]; exact H3.out.2.1)).grown g') (fun e => by cases e) (by omega)
    go_wp2_with fail
    refine (HCp.out _ (grown_refl _ none)).mono ?_
    rintro e w4 ⟨v4, rfl, hown, g4⟩
    have H4 := hide (And.intro g4 hown)
    obtain ⟨vo, vc, rfl, hvo, _⟩ := own_form hown
    obtain ⟨g, rfl⟩ := hvo (by decide)
    have HL : Hid (w3.heap.size ≤ g) := by
      obtain ⟨ao', cap', e, _, _, _, _, _, hr⟩ := own_at hown
      cases e
      exact (hr _ rfl).2.1
    have hat4 := HA.out.1.grown (grown_trans H3.out.2.2 g4)
    clear hown g4 HCp hcv c0 c1 c2 c3 hvo
    have hmm := HA.out.2.2.1
    go_wp2_with (at_builtin; refine wpList_append_at rfl (.tmp 58) (.tmp 59) rfl w3.heap.size _ 32 (Fm.nats h.out) rfl H4.out.2 ao m cap xs rfl hmm hat4 hnil (by omega) H4.out.1.size ?_)
    intro v5 w5 ho hg
    have g5 : w3.grownBy w5 none := grown_then H4.out.1 hg (fun j e => by cases e; exact Or.inl HL.out)
    have ho' : w5.ownsRow w3.heap.size 5 1 v5 (32 + m) ((h.out ++ intz xs).map (Value.int .u8)) := by
      have e : h.out ++ intz xs = intz (Fm.nats h.out ++ xs) := by
        rw [show intz (Fm.nats h.out ++ xs) = intz (Fm.nats h.out) ++ intz xs by simp [intz], intz_nats h.out_byt]
      rw [e, bv_intz]; exact ho
    obtain ⟨vo, vc, rfl, q1, q2, q3, q4, q5, q6⟩ := Fm.own_at ho'
    have HRd := hide (Fm.read_any (h.out ++ intz xs) (Fm.byt_append h.out_byt (intz_byt HA.out.2.2.2.1)) vo (32 + m) vc w5 q1 q4 q5 q2 (by omega) (HA.out.2.1.grown (grown_trans H3.out.2.2 g5)))
    rw [Fm.readH_out h hok ⟨hg1, hn0, hn1⟩] at HRd
    unfold Fm.hdV at HRd
    have H5 := hide g5
    clear ho ho' hg q1 q2 q3 q4 q5 q6 hat4 hmm g5 H4 HL
    go_wp2_with fail
    refine HRd.out.mono ?_
    rintro e w6 ⟨rfl, g6⟩
    have b7 : (w6.alloc (.cells #[.int .u64 h.g, .int .u64 h.c, .int .i64 h.n, .int .u32 h.s] 35)).heap[w6.heap.size]? = some (.cells (Fm.hdC h).toArray 35 (0, 0)) := heap_alloc_new w6 _
    have g7 := grown_trans (grown_trans H5.out g6) (World.grownBy_alloc w6 (.cells #[.int .u64 h.g, .int .u64 h.c, .int .i64 h.n, .int .u32 h.s] 35) none)
    obtain ⟨Y, hY⟩ : ∃ Y, w6.heap.size = Y := ⟨_, rfl⟩
    rw [hY] at b7
    have H7 := hide (And.intro ((g7.block _ (row_lt H3.out.1) (by simp)).trans H3.out.1) (And.intro ((g7.block _ (row_lt H3.out.2.1) (by simp)).trans H3.out.2.1) (And.intro b7 (grown_trans H3.out.2.2 g7))))
    clear b7 g7 g6 HRd H5 H3
    go_wp2_with fail
    clear hY
    generalize (w6.alloc (.cells #[.int .u64 h.g, .int .u64 h.c, .int .i64 h.n, .int .u32 h.s] 35)) = w7 at *
    have hat7 : Fm.At w7 (some ⟨G, 0, none⟩) (h.out.take 31) := fun j u hu => Fm.at_row H7.out.2.1 j u (by
      rw [List.getElem?_take] at hu
      split at hu
      · exact hu
      · cases hu)
    have HRs := hide (Fm.read_any (h.out.take 31) (fun x hx => h.out_byt x (List.mem_of_mem_take hx)) (some ⟨G, 0, none⟩) 31 32 w7 (by rw [List.length_take, h.out_length]; rfl) hat7 (fun e => by cases e) (by decide) (by decide) (HA.out.2.1.grown H7.out.2.2.2))
    rw [Fm.readH_short _ (by rw [List.length_take, h.out_length]; decide)] at HRs
    unfold Fm.hdV Fm.zHd at HRs
    refine HRs.out.mono ?_
    rintro e w8 ⟨rfl, g8⟩
    have g9 := grown_trans g8 (World.grownBy_alloc w8 (.cells #[.int .u64 0, .int .u64 0, .int .i64 0, .int .u32 0] 35) none)
    have H9 := hide (And.intro ((g9.block _ (row_lt H7.out.1) (by simp)).trans H7.out.1) (And.intro ((g9.block _ (row_lt H7.out.2.1) (by simp)).trans H7.out.2.1) (And.intro ((g9.block _ (row_lt H7.out.2.2.1) (by simp)).trans H7.out.2.2.1) (grown_trans H7.out.2.2.2 g9))))
    clear g8 g9 H7 hat7 HRs
    go_wp2_with fail
    generalize w8.heap.size = Z at *
    generalize (w8.alloc (.cells #[.int .u64 0, .int .u64 0, .int .i64 0, .int .u32 0] 35)) = w9 at *
    have hk0 := Int.emod_nonneg p (show (32 : Int) ≠ 0 by omega)
    have hk1 := Int.emod_lt_of_pos p (show (0 : Int) < 32 by omega)
    have ht0 := Int.emod_nonneg p (show (255 : Int) ≠ 0 by omega)
    have ht1 := Int.emod_lt_of_pos p (show (0 : Int) < 255 by omega)
    have HP1 : Hid (∀ w, Calls Tryd.prog 16 #[.int .i64 p, .int .i64 32] w fun e w' => e = .returned (.int .i64 ((p % 32).toNat : Int)) ∧ w' = w) := fun w => pick_nat p 32 (by decide) (by decide) w
    have HP2 : Hid (∀ w, Calls Tryd.prog 16 #[.int .i64 p, .int .i64 255] w fun e w' => e = .returned (.int .i64 ((p % 255).toNat : Int)) ∧ w' = w) := fun w => pick_nat p 255 (by decide) (by decide) w
    obtain ⟨K, hK⟩ : ∃ K, (p % 32).toNat = K := ⟨_, rfl⟩
    obtain ⟨t, ht⟩ : ∃ t, (p % 255).toNat = t := ⟨_, rfl⟩
    have hK32 : K < 32 := by omega
    have ht255 : t < 255 := by omega
    rw [hK] at HP1
    rw [ht] at HP2
    clear hk0 hk1 ht0 ht1 hK ht
    refine (HP1.out w9).mono ?_
    rintro e wq ⟨rfl, hwq⟩
    obtain rfl := hwq.symm
    have hKl : K < h.out.length := by rw [h.out_length]; exact hK32
    have hcell : w9.cell? ⟨G, K, none⟩ = some (.int .u8 h.out[K]) := by rw [cell_of_row w9 G K _ _ _ H9.out.2.1]; simp [hKl]
    have hfz := free_row H9.out.2.1 K
    have hby := h.out_byt h.out[K] (List.getElem_mem hKl)
    have hx := Fm.bits_xorI (b := 1 + (t : Int)) hby ⟨by omega, by omega⟩
    have hxb := Fm.xorI_byte (b := 1 + (t : Int)) hby ⟨by omega, by omega⟩
    have HTu := hide (Fm.readH_turned h K (1 + (t : Int)) hKl ⟨by omega, by omega⟩)
    obtain ⟨U, hU⟩ : ∃ U, U = Fm.xorI h.out[K] (1 + (t : Int)) := ⟨_, rfl⟩
    rw [← hU] at hx hxb HTu
    clear hU
    generalize h.out[K] = V at *
    have hKi : (K : Int) < 32 := by omega
    have htw := u8_of t ht255
    clear HP1
    go_wp2_with fail
    have hcell2 := (grown_drew w9 none).cell hcell (by simp)
    go_cut [] from 72 to 81 (fun wx => wx = (w9.setCell ⟨G, K, none⟩ (.int .u8 U)).drew)
    case first =>
      go_region_law (go_simp; go_wp2_with (go_at_call 16; refine (HP2.out _).mono ?_; rintro e10 w10 ⟨rfl, hw10⟩; obtain rfl := hw10.symm))
      all_goals
        go_wp2
        go_meet
        case rel => rfl
    case rest =>
    obtain rfl := hcut
    have b10 : (w9.setCell ⟨G, K, none⟩ (.int .u8 U)).drew.heap[G]? = some (.cells ((h.out.set K U).map (Value.int .u8)).toArray 5 (0, 0)) := by
      have := row_setCell (l := h.out.map (Value.int .u8)) H9.out.2.1 K (.int .u8 U)
      rw [← List.map_set] at this
      exact this
    have gs := grown_setCell w9 G K (.int .u8 U)
    have ne35 : ∀ {i : Nat} {cc : Array Value}, w9.heap[i]? = some (.cells cc 35 (0, 0)) → (w9.setCell ⟨G, K, none⟩ (.int .u8 U)).drew.heap[i]? = some (.cells cc 35 (0, 0)) := fun {i cc} hi => by
      refine (gs.block i (row_lt hi) (fun e => ?_)).trans hi
      cases e
      have := H9.out.2.1
      rw [hi] at this
      simp at this
    have H10 := hide (And.intro (ne35 H9.out.1) (And.intro b10 (And.intro (ne35 H9.out.2.2.1) (grown_trans (grown_then H9.out.2.2.2 gs (fun j e => by cases e; exact Or.inl HG0.out)) (grown_drew _ none)))))
    generalize (w9.setCell ⟨G, K, none⟩ (.int .u8 U)).drew = w10 at *
    clear b10 gs ne35 H9 HP2 hcell hcell2 hfz hx
    have HRt := hide (Fm.read_any (h.out.set K U) (Fm.byt_set h.out_byt K hxb) (some ⟨G, 0, none⟩) 32 32 w10 (by rw [List.length_set, h.out_length]) (Fm.at_row H10.out.2.1) (fun e => by cases e) (Nat.le_refl _) (by decide) (HA.out.2.1.grown H10.out.2.2.2))
    rw [HTu.out] at HRt
    unfold Fm.hdV Fm.zHd at HRt
    go_wp2_with fail
    refine HRt.out.mono ?_
    rintro e w11 ⟨rfl, g11⟩
    have b12 : (w11.alloc (.cells #[.int .u64 0, .int .u64 0, .int .i64 0, .int .u32 0] 35)).heap[w11.heap.size]? = some (.cells [Value.int .u64 0, .int .u64 0, .int .i64 0, .int .u32 0].toArray 35 (0, 0)) := heap_alloc_new w11 _
    have g12 := grown_trans g11 (World.grownBy_alloc w11 (.cells #[.int .u64 0, .int .u64 0, .int .i64 0, .int .u32 0] 35) none)
    obtain ⟨a0, a1, a2, a3⟩ := Fm.box4 ((g12.block _ (row_lt H10.out.1) (by simp)).trans H10.out.1)
    obtain ⟨d0, d1, d2, d3⟩ := Fm.box4 ((g12.block _ (row_lt H10.out.2.2.1) (by simp)).trans H10.out.2.2.1)
    obtain ⟨z0, z1, z2, z3⟩ := Fm.box4 b12
    have H12 := hide (grown_trans H10.out.2.2.2 g12)
    clear g11 b12 g12 H10 HRt HTu
    go_wp2
    go_ret
    exact ⟨rfl, H12.out⟩
  · have HHd := hide (Fm.header_bad h hmay w2)
    unfold Fm.hdV at HHd
    go_wp2_with fail
    refine HHd.out.mono ?_
    rintro e w3 ⟨rfl, g3⟩
    have H3 := hide (And.intro ((g3.block _ (row_lt H2.out.1) (by simp)).trans H2.out.1) (grown_trans H2.out.2 g3))
    clear g3 HHd c0 c1 c2 c3 H2
    obtain ⟨c0, c1, c2, c3⟩ := Fm.box4 H3.out.1
    by_cases hz : h.g = 0
    · rw [hz] at c0
      go_wp2
      go_ret
      exact ⟨rfl, H3.out.2⟩
    · have hgz : (h.g == 0) = false := by simp; omega
      by_cases hn : h.n < 0
      · go_wp2
        go_ret
        exact ⟨rfl, H3.out.2⟩
      · have hn1 : 67108864 < h.n := by
          rcases Int.lt_or_le 67108864 h.n with e | e
          · exact e
          · exact absurd ⟨by have := hok.g0; omega, by omega, e⟩ hmay
        go_wp2
        go_ret
        exact ⟨rfl, H3.out.2⟩
end Go.Proofs.YtonokaelbpfjnaaDoor
