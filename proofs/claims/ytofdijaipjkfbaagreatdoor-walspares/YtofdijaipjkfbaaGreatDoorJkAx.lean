/- Texts joined: RDev2, Qg1, Px, Lg8. -/
import Derived.Test.YtofdijaipjkfbaaGreatDoorJkAw
import Derived.Test.YtofdijaipjkfbaaGreatDoorJkAu
import Derived.Test.YtofdijaipjkfbaaGreatDoorJkAq
/- The document's device: its calls that reach its disk. -/
namespace Go.Proofs.YtofdijaipjkfbaaGreatDoor
open Go.RowKit Ap
attribute [local go_sem ↓] Go.wp_at_zero Go.wp_at_succ

section
variable {w w' : World} {lo n size c r : Nat} {s : Dv} {q q' : Rk}
theorem wr_ref2 (h : RefAt w lo n size q) (hlo : lo ≤ w.heap.size) (hV : q.V.length ≤ 900000) (a : Int) (ao : Option Addr) (L cap : Nat) (xs : List Nat) (hat : At w ao xs) (hx : xs.length = L) (hnil : ao = none → L = 0 ∧ cap = 0) :
    Calls Tryz.prog 182 #[.pointer (some ⟨q.r, 0, none⟩), .int .i64 a, .slice ao L cap] w fun e w' => ∃ q' : Rk, e = .returned (.int .i64 (wcode n size a L)) ∧ q'.r = q.r ∧ RefAt w' lo n size q' ∧ q'.S = q.S ∧ absV q'.V = wabs n size a xs (absV q.V) ∧ Kept w w' (rfoot q) ∧ ∀ i, rfoot q' i → rfoot q i ∨ w.heap.size ≤ i := by
  cases ao with
  | some ad => exact wr_ref rfl h hlo hV a (some ad) L cap xs hat hx (by simp)
  | none =>
    obtain ⟨rfl, rfl⟩ := hnil rfl
    have s0 := h.shape.s0
    by_cases ha : 0 ≤ a ∧ a < (n : Int)
    · obtain ⟨i, rfl⟩ := Int.eq_ofNat_of_zero_le ha.1
      refine (rwrite_long rfl h i (by omega) none 0 0 (by omega)).mono ?_
      rintro e w' ⟨rfl, rfl⟩
      exact ⟨q, by rw [wcode, if_pos ha, if_neg (by omega)], rfl, h, rfl, by rw [wabs, if_pos ha, if_neg (by omega)], Kept.refl _ _, fun i e => .inl e⟩
    · refine (rwrite_bad rfl h a (by omega) _).mono ?_
      rintro e w' ⟨rfl, rfl⟩
      exact ⟨q, by rw [wcode, if_neg ha], rfl, h, rfl, by rw [wabs, if_neg ha], Kept.refl _ _, fun i e => .inl e⟩
set_option maxHeartbeats 1000000 in
theorem rdwrite_any (h : RDev w lo n size c s q) (hlo : lo ≤ w.heap.size) (hV : q.V.length ≤ 900000) (hc : s.cnt < 100000) (a : Int) (ao : Option Addr) (L cap : Nat) (xs : List Nat) (hat : At w ao xs) (hx : xs.length = L) (hnil : ao = none → L = 0 ∧ cap = 0) :
    Calls Tryz.prog 143 #[.pointer (some ⟨c, 0, none⟩), .int .i64 a, .slice ao L cap] w fun e w' => e = .returned (.int .i64 (s.code (wcode n size a L))) ∧ ∃ q', RDev w' lo n size c s.next q' ∧ RM w w' c q q' ∧ rst q' = (if s.goes then ((rst q).1, wabs n size a xs (rst q).2) else rst q) := by
  have H := hide (rmade_any h.dev hc)
  have HH := hide (And.intro h (And.intro hlo (And.intro hV (And.intro hat (And.intro hx hnil)))))
  unfold Dv.code
  clear h hlo hV hc hat hx hnil
  obtain ⟨g, hgo⟩ : ∃ g, g = s.goes := ⟨_, rfl⟩
  rw [← hgo] at H ⊢
  clear hgo
  generalize s.next = t at *
  cases g with
  | false =>
    go_enter Tryz.func143, Tryz.ntmps143
    go_wp2_with fail
    refine H.out.mono ?_
    rintro e w' ⟨rfl, h1, h2⟩
    have H2 := hide (And.intro h1 h2)
    clear h1 h2
    go_wp2
    go_ret
    exact ⟨rfl, q, HH.out.1.rset H2.out.2 H2.out.1, RM.row H2.out.2, rfl⟩
  | true =>
    simp only [if_true]
    go_enter Tryz.func143, Tryz.ntmps143
    go_wp2_with fail
    refine H.out.mono ?_
    rintro e w' ⟨rfl, h1, h2⟩
    have H2 := hide (And.intro h1 h2)
    have c0 := h1.c0
    clear h1 h2
    go_wp2_with fail
    have hd2 := HH.out.1.rset H2.out.2 H2.out.1
    refine (wr_ref2 hd2.ref (Nat.le_trans HH.out.2.1 H2.out.2.size) HH.out.2.2.1 a ao L cap xs (at_rdev HH.out.2.2.2.1 HH.out.1.dev H2.out.2) HH.out.2.2.2.2.1 HH.out.2.2.2.2.2).mono ?_
    rintro e w2 ⟨q2, rfl, g1, g2, g3, g4, g5, g6⟩
    have H3 := hide (And.intro (hd2.rsk g1 g2 g5) (And.intro ((RM.row (q := q) H2.out.2).trans (RM.of g1 g5 g6)) (And.intro g3 g4)))
    clear g1 g2 g3 g4 g5 g6 hd2
    go_wp2
    go_ret
    exact ⟨rfl, q2, H3.out.1, H3.out.2.1, by unfold rst; rw [H3.out.2.2.1, H3.out.2.2.2]⟩
set_option maxHeartbeats 1000000 in
theorem rdsync_any (h : RDev w lo n size c s q) (hV : q.V.length ≤ 900000) (hc : s.cnt < 100000) :
    Calls Tryz.prog 145 #[.pointer (some ⟨c, 0, none⟩)] w fun e w' => e = .returned (.int .i64 (s.code 0)) ∧ ∃ q', RDev w' lo n size c s.next q' ∧ RM w w' c q q' ∧ rst q' = (if s.goes then rsyncA size (rst q) else rst q) := by
  have H := hide (rmade_any h.dev hc)
  have HH := hide (And.intro h hV)
  unfold Dv.code
  clear h hV hc
  obtain ⟨g, hgo⟩ : ∃ g, g = s.goes := ⟨_, rfl⟩
  rw [← hgo] at H ⊢
  clear hgo
  generalize s.next = t at *
  cases g with
  | false =>
    go_enter Tryz.func145, Tryz.ntmps145
    go_wp2_with fail
    refine H.out.mono ?_
    rintro e w' ⟨rfl, h1, h2⟩
    have H2 := hide (And.intro h1 h2)
    clear h1 h2
    go_wp2
    go_ret
    exact ⟨rfl, q, HH.out.1.rset H2.out.2 H2.out.1, RM.row H2.out.2, rfl⟩
  | true =>
    simp only [if_true]
    go_enter Tryz.func145, Tryz.ntmps145
    go_wp2_with fail
    refine H.out.mono ?_
    rintro e w' ⟨rfl, h1, h2⟩
    have H2 := hide (And.intro h1 h2)
    have c0 := h1.c0
    clear h1 h2
    go_wp2_with fail
    have hd2 := HH.out.1.rset H2.out.2 H2.out.1
    refine (rsync_any rfl hd2.ref (by have := HH.out.2; omega)).mono ?_
    rintro e w2 ⟨q2, rfl, g1, g2, g3, g4, g5, g6⟩
    have H3 := hide (And.intro (hd2.rsk g1 g2 g5) (And.intro ((RM.row (q := q) H2.out.2).trans (RM.of g1 g5 (fun i hi => .inl (g6 i hi)))) (And.intro g3 g4)))
    clear g1 g2 g3 g4 g5 g6 hd2
    go_wp2
    go_ret
    exact ⟨rfl, q2, H3.out.1, H3.out.2.1, by unfold rst rsyncA; rw [H3.out.2.2.1, H3.out.2.2.2, absV_length]; rfl⟩
/-- Bytes that the document's device has told. -/
def RGives (w' : World) (size : Nat) (v : Value) (xs : List Nat) : Prop := (v = .slice none 0 0 ∧ xs = []) ∨ ∃ g cc, v = .slice (some ⟨g, 0, none⟩) size cc ∧ At w' (some ⟨g, 0, none⟩) xs ∧ xs.length = size
def rrbytes (n : Nat) (st : List (List Nat) × List Pr) (a : Int) : List Nat := if 0 ≤ a ∧ a < (n : Int) then finds st.2 st.1 a.toNat else []
theorem fold_mem (P : List Pr) (i : Nat) (r0 : Option (List Nat)) (y : List Nat) (h : P.foldl (fun r x => if i = x.1 then some x.2 else r) r0 = some y) : r0 = some y ∨ ∃ x ∈ P, x.2 = y := by
  induction P generalizing r0 with
  | nil => exact Or.inl h
  | cons x l ih =>
    rw [List.foldl_cons] at h
    rcases ih _ h with e | ⟨z, hz, e⟩
    · split at e
      · exact Or.inr ⟨x, by simp, Option.some.inj e⟩
      · exact Or.inl e
    · exact Or.inr ⟨z, by simp [hz], e⟩
theorem finds_len (h : RefAt w lo n size q) (i : Nat) (hi : i < n) : (finds (absV q.V) (q.S.map Bx.xs) i).length = size := by
  unfold finds
  cases hl : lastP (absV q.V) i with
  | some y =>
    rcases fold_mem _ _ _ _ hl with e | ⟨x, hx, e⟩
    · cases e
    · simp only [Option.getD_some]
      rw [absV, List.mem_map] at hx
      obtain ⟨z, hz, rfl⟩ := hx
      rw [← e]
      exact (h.wsz z hz).2
  | none =>
    have hl2 : i < q.S.length := by rw [h.len]; exact hi
    simp only [Option.getD_none, List.getElem?_map, List.getElem?_eq_getElem hl2, Option.map_some, Option.getD_some]
    exact h.sz _ (List.getElem_mem hl2)
theorem rrd_disk (h : RefAt w lo n size q) (hV : q.V.length ≤ 900000) (a : Int) : Calls Tryz.prog 181 #[.pointer (some ⟨q.r, 0, none⟩), .int .i64 a] w fun e w' =>
    ∃ v, e = .returned (.tuple #[v, .int .i64 (rcode n a)]) ∧ RGives w' size v (rrbytes n (rst q) a) ∧ w.grownBy w' none := by
  by_cases ha : 0 ≤ a ∧ a < (n : Int)
  · obtain ⟨i, rfl⟩ := Int.eq_ofNat_of_zero_le ha.1
    have hi : i < n := by omega
    refine (rread_any rfl h (by omega) i hi).mono ?_
    rintro e w' ⟨g, cc, rfl, h1, h2⟩
    refine ⟨_, by rw [rcode, if_pos ha], ?_, h2⟩
    rw [rrbytes, if_pos ha, Int.toNat_natCast]
    exact Or.inr ⟨g, cc, rfl, h1.at_, finds_len h i hi⟩
  · refine (rread_bad rfl h a (by omega)).mono ?_
    rintro e w' ⟨rfl, rfl⟩
    refine ⟨_, by rw [rcode, if_neg ha], ?_, grown_refl _ _⟩
    rw [rrbytes, if_neg ha]
    exact Or.inl ⟨rfl, rfl⟩
set_option maxHeartbeats 1000000 in
theorem rdread_any (h : RDev w lo n size c s q) (hV : q.V.length ≤ 900000) (hc : s.cnt < 100000) (a : Int) :
    Calls Tryz.prog 142 #[.pointer (some ⟨c, 0, none⟩), .int .i64 a] w fun e w' => ∃ v, e = .returned (.tuple #[v, .int .i64 (s.code (rcode n a))]) ∧ RGives w' size v (if s.goes then rrbytes n (rst q) a else []) ∧ RDev w' lo n size c s.next q ∧ RM w w' c q q := by
  have H := hide (rmade_any h.dev hc)
  have HH := hide (And.intro h hV)
  unfold Dv.code
  clear h hV hc
  obtain ⟨g, hgo⟩ : ∃ g, g = s.goes := ⟨_, rfl⟩
  rw [← hgo] at H ⊢
  clear hgo
  generalize s.next = t at *
  cases g with
  | false =>
    go_enter Tryz.func142, Tryz.ntmps142
    go_wp2_with fail
    refine H.out.mono ?_
    rintro e w' ⟨rfl, h1, h2⟩
    have H2 := hide (And.intro h1 h2)
    clear h1 h2
    go_wp2
    go_ret2
    exact ⟨_, rfl, Or.inl ⟨rfl, rfl⟩, HH.out.1.rset H2.out.2 H2.out.1, RM.row H2.out.2⟩
  | true =>
    simp only [if_true]
    go_enter Tryz.func142, Tryz.ntmps142
    go_wp2_with fail
    refine H.out.mono ?_
    rintro e w' ⟨rfl, h1, h2⟩
    have H2 := hide (And.intro h1 h2)
    have c0 := h1.c0
    clear h1 h2
    go_wp2_with fail
    have hd2 := HH.out.1.rset H2.out.2 H2.out.1
    refine (rrd_disk hd2.ref HH.out.2 a).mono ?_
    rintro e w2 ⟨v, rfl, g1, g2⟩
    have H3 := hide (And.intro g1 (And.intro (hd2.then g2) ((RM.row (q := q) H2.out.2).new g2)))
    clear g1 g2 hd2
    go_wp2
    go_ret2
    exact ⟨v, rfl, H3.out.1, H3.out.2.1, H3.out.2.2⟩
set_option maxHeartbeats 1000000 in
theorem rdrestart_any (h : RDev w lo n size c s q) (hV : q.V.length ≤ 900000) (fo : Option Addr) (m cap : Nat) (F : List (Int × Int)) (hm : F.length = m) (hm2 : m ≤ 140737488355328) (hF : FatesAt w fo F) (hfo : ∀ a, fo = some a → 0 < F.length → ¬ rfoot q a.block) :
    Calls Tryz.prog 12 #[.pointer (some ⟨c, 0, none⟩), .slice fo m cap] w fun e w' => e = .returned (.int .i64 0) ∧ ∃ q', RDev w' lo n size c Dv.anew q' ∧ RM w w' c q q' ∧ rst q' = rcrashA size F (rst q) := by
  have c0 := h.dev.c0
  have HH := hide (And.intro h (And.intro hV (And.intro hm (And.intro hm2 (And.intro hF hfo)))))
  clear h hV hm hm2 hF hfo
  go_enter Tryz.func12, Tryz.ntmps12
  go_wp2_with fail
  refine (rcrash_any rfl HH.out.1.ref (by have := HH.out.2.1; omega) fo m cap F HH.out.2.2.1 HH.out.2.2.2.1 HH.out.2.2.2.2.1 HH.out.2.2.2.2.2).mono ?_
  rintro e w2 ⟨q2, rfl, g1, g2, g3, g4, g5, g6⟩
  have H2 := hide (And.intro (HH.out.1.rsk g1 g2 g5) (And.intro (RM.of (c := c) g1 g5 (fun i hi => .inl (g6 i hi))) (And.intro g3 g4)))
  clear g1 g2 g3 g4 g5 g6
  have f1 := H2.out.1.dev.free 1
  have f2 := H2.out.1.dev.free 2
  have f3 := H2.out.1.dev.free 3
  have c1 := H2.out.1.dev.c1
  have c2 := H2.out.1.dev.c2
  have c3 := H2.out.1.dev.c3
  go_wp2
  go_ret
  have r1 := row_setCell H2.out.1.dev.head 1 (.bool false)
  have r2 := row_setCell r1 2 (.int .i64 (-1))
  have r3 := row_setCell r2 3 (.int .i64 0)
  have gg := grown_then (grown_then (grown_setCell w2 c 1 (.bool false)) (grown_setCell _ c 2 (.int .i64 (-1))) (fun j e => Or.inr e)) (grown_setCell _ c 3 (.int .i64 0)) (fun j e => Or.inr e)
  refine ⟨rfl, q2, H2.out.1.rset gg ⟨r3, ⟨by show (-1 : Int) ≤ -1; omega, by show (-1 : Int) ≤ _; omega, by show 0 ≤ _; omega⟩⟩, H2.out.2.1.trans (RM.row gg), ?_⟩
  unfold rst rcrashA
  rw [H2.out.2.2.1, H2.out.2.2.2, absV_length]
  rfl
set_option maxHeartbeats 1000000 in
theorem rdimage_any (h : RDev w lo n size c s q) : Calls Tryz.prog 15 #[.pointer (some ⟨c, 0, none⟩)] w fun e w' => ∃ ao cap, e = .returned (.slice ao n cap) ∧ ∃ S', RowAt w' w.heap.size (.slice ao n cap) S' ∧ S'.map Bx.xs = (rst q).1 ∧ w.grownBy w' none := by
  have c0 := h.dev.c0
  have HH := hide h.ref
  clear h
  go_enter Tryz.func15, Tryz.ntmps15
  go_wp2_with fail
  refine (rimage_row HH.out.rows HH.out.len.symm HH.out.c0 HH.out.shape.n1 (fun b hb => by rw [HH.out.sz b hb]; have := HH.out.shape.s0; have := HH.out.shape.s1; omega)).mono ?_
  rintro e w2 ⟨ao, cap, S', rfl, i1, i2, i3⟩
  have H2 := hide (And.intro i1 (And.intro i2 i3))
  clear i1 i2 i3
  go_wp2
  go_ret
  exact ⟨ao, cap, rfl, S', H2.out.1, H2.out.2.1, H2.out.2.2⟩
set_option maxHeartbeats 1000000 in
theorem rdnew_any (h : RefAt w lo n size q) (hlo : lo ≤ w.heap.size) : Calls Tryz.prog 39 #[.pointer (some ⟨q.r, 0, none⟩)] w fun e w' => ∃ c, e = .returned (.pointer (some ⟨c, 0, none⟩)) ∧ RDev w' lo n size c Dv.anew q ∧ w.heap.size ≤ c ∧ w.grownBy w' none := by
  have HH := hide (And.intro h hlo)
  clear h hlo
  go_enter Tryz.func39, Tryz.ntmps39
  go_wp2
  go_ret
  have g1 := World.grownBy_alloc w (.cells (rvcells q.r Dv.anew).toArray 101) none
  exact ⟨w.heap.size, rfl, ⟨HH.out.1.grown g1, ⟨heap_alloc_new w _, ⟨by show (-1 : Int) ≤ -1; omega, by show (-1 : Int) ≤ _; omega, by show 0 ≤ _; omega⟩⟩, HH.out.2⟩, Nat.le_refl _, g1⟩
theorem RefAt.mono {lo' : Nat} (h : RefAt w lo n size q) (hl : lo' ≤ lo) : RefAt w lo' n size q :=
  ⟨h.head, Nat.le_trans hl h.low, h.rows.mono hl, owns_mono h.wrow hl, fun x hx => (h.wat x hx).mono hl, h.nv, h.shape, h.len, h.sz, h.wsz⟩
end
end Go.Proofs.YtofdijaipjkfbaaGreatDoor
/- The document's region in memory; its small calls. -/
namespace Go.Proofs.YtofdijaipjkfbaaGreatDoor
open Go.RowKit Ap
attribute [local go_sem ↓] Go.wp_at_zero Go.wp_at_succ

/-- The document's region lies at r: sectors of its device c. -/
structure QgAt (w : World) (r c F C : Nat) : Prop where
  head : w.heap[r]? = some (.cells (rgcells c F C).toArray 49 (0, 0))
section
variable {w w' : World} {r c F C lo n size : Nat} {s : Dv} {q : Rk}
theorem QgAt.lt (h : QgAt w r c F C) : r < w.heap.size := row_lt h.head
theorem QgAt.same (h : QgAt w r c F C) (hb : w'.heap[r]? = w.heap[r]?) : QgAt w' r c F C := ⟨hb.trans h.head⟩
theorem QgAt.grown (h : QgAt w r c F C) (hg : w.grownBy w' none) : QgAt w' r c F C := h.same (hg.block r h.lt (by simp))
theorem QgAt.kept {S : Nat → Prop} (h : QgAt w r c F C) (hk : Kept w w' S) (hS : ¬ S r) : QgAt w' r c F C := h.same (hk.block r h.lt hS)
theorem QgAt.c0 (h : QgAt w r c F C) : w.cell? ⟨r, 0, none⟩ = some (.pointer (some ⟨c, 0, none⟩)) := cell_row h.head 0
theorem QgAt.c1 (h : QgAt w r c F C) : w.cell? ⟨r, 1, none⟩ = some (.int .i64 (F : Int)) := cell_row h.head 1
theorem QgAt.c2 (h : QgAt w r c F C) : w.cell? ⟨r, 2, none⟩ = some (.int .i64 (C : Int)) := cell_row h.head 2
theorem RDev.drew (h : RDev w lo n size c s q) (p : Nat) : RDev (w.drewN p) lo n size c s q := h.then (grown_drewN w p none)
set_option maxRecDepth 20000 in
set_option maxHeartbeats 1000000 in
theorem qbytes_at (h : RDev w lo n size c s q) (hr : QgAt w r c F C) (hC : C ≤ 65536) : Calls Tryz.prog 92 #[.pointer (some ⟨r, 0, none⟩)] w fun e w' => e = .returned (.int .i64 ((C * size : Nat) : Int)) ∧ ∃ p, w' = w.drewN p := by
  have c0 := hr.c0
  have c2 := hr.c2
  have s1 := h.ref.shape.s1
  have hm : C * size ≤ 65536 * 4096 := Nat.mul_le_mul hC s1
  have hm2 : (C : Int) * (size : Int) = ((C * size : Nat) : Int) := by simp
  have hm3 : (0 : Int) ≤ (C : Int) * (size : Int) ∧ (C : Int) * (size : Int) ≤ 268435456 := by rw [hm2]; omega
  have hm4 := hm3.1
  have hm5 := hm3.2
  have H := hide (fun p => rdsize_any (h.drew p))
  clear h hr hm2 hm hm3
  go_enter Tryz.func92, Tryz.ntmps92
  go_wp2_with fail
  go_quiet ((go_at_call 141; exact Calls.quiet_of_same (H.out _)))
  go_wp2
  go_ret
  exact ⟨rfl, _, rfl⟩
set_option maxRecDepth 20000 in
set_option maxHeartbeats 2000000 in
theorem qwrong_at (h : RDev w lo n size c s q) (hr : QgAt w r c F C) (hC : C ≤ 65536) (at_ m : Int) (hat : at_ ≤ 9223372036854775807) : Calls Tryz.prog 140 #[.pointer (some ⟨r, 0, none⟩), .int .i64 at_, .int .i64 m] w fun e w' => e = .returned (.bool (decide (mcode (C * size) at_ m ≠ 0))) ∧ ∃ p, w' = w.drewN p := by
  have hm : C * size ≤ 65536 * 4096 := Nat.mul_le_mul hC h.ref.shape.s1
  have H := hide (fun p => qbytes_at (h.drew p) (hr.grown (grown_drewN w p none)) hC)
  clear h hr
  unfold mcode
  generalize C * size = B at *
  by_cases h1 : 0 ≤ at_
  · by_cases h2 : 0 ≤ m
    · by_cases h3 : at_ ≤ (B : Int)
      · by_cases h4 : m ≤ (B : Int) - at_
        · rw [if_pos ⟨h1, h2, h4⟩]
          go_enter Tryz.func140, Tryz.ntmps140
          go_wp2_with fail
          refine (H.out 0).mono ?_
          rintro e w' ⟨rfl, p, rfl⟩
          go_wp2_with fail
          refine (show Calls Tryz.prog 92 #[.pointer (some ⟨r, 0, none⟩)] ((w.drewN 0).drewN p) _ from by rw [World.drewN_drewN]; exact H.out _).mono ?_
          rintro e w' ⟨rfl, p2, rfl⟩
          go_wp2
          go_ret
          refine ⟨?_, _, rfl⟩
          show Ending.returned (.bool (decide (at_ < 0) || decide (m < 0) || decide ((B : Int) < at_) || decide ((B : Int) - at_ < m))) = _
          rw [decide_eq_false (show ¬ at_ < 0 by omega), decide_eq_false (show ¬ m < 0 by omega), decide_eq_false (show ¬ (B : Int) < at_ by omega), decide_eq_false (show ¬ (B : Int) - at_ < m by omega)]
          rfl
        · rw [if_neg (by omega)]
          go_enter Tryz.func140, Tryz.ntmps140
          go_wp2_with fail
          refine (H.out 0).mono ?_
          rintro e w' ⟨rfl, p, rfl⟩
          go_wp2_with fail
          refine (show Calls Tryz.prog 92 #[.pointer (some ⟨r, 0, none⟩)] ((w.drewN 0).drewN p) _ from by rw [World.drewN_drewN]; exact H.out _).mono ?_
          rintro e w' ⟨rfl, p2, rfl⟩
          go_wp2
          go_ret
          exact ⟨rfl, _, rfl⟩
      · rw [if_neg (by omega)]
        go_enter Tryz.func140, Tryz.ntmps140
        go_wp2_with fail
        refine (H.out 0).mono ?_
        rintro e w' ⟨rfl, p, rfl⟩
        go_wp2
        go_ret
        exact ⟨rfl, p, rfl⟩
    · rw [if_neg (by omega)]
      go_enter Tryz.func140, Tryz.ntmps140
      go_wp2
      go_ret
      exact ⟨rfl, 0, rfl⟩
  · rw [if_neg (by omega)]
    go_enter Tryz.func140, Tryz.ntmps140
    go_wp2
    go_ret
    exact ⟨rfl, 0, rfl⟩
set_option maxHeartbeats 400000 in
theorem qsync_at (h : RDev w lo n size c s q) (hr : QgAt w r c F C) (hV : q.V.length ≤ 900000) (hc : s.cnt < 100000) :
    Calls Tryz.prog 89 #[.pointer (some ⟨r, 0, none⟩)] w fun e w' => e = .returned (.int .i64 (s.code 0)) ∧ ∃ q', RDev w' lo n size c s.next q' ∧ RM w w' c q q' ∧ rst q' = (if s.goes then rsyncA size (rst q) else rst q) := by
  have H : Hid (Calls Tryz.prog 145 #[.pointer (some ⟨c, 0, none⟩)] w fun e w' => e = .returned (.int .i64 (s.code 0)) ∧ (fun w' => ∃ q', RDev w' lo n size c s.next q' ∧ RM w w' c q q' ∧ rst q' = (if s.goes then rsyncA size (rst q) else rst q)) w') := rdsync_any h hV hc
  have c0 := hr.c0
  clear h hr
  show Calls Tryz.prog 89 #[.pointer (some ⟨r, 0, none⟩)] w fun e w' => e = .returned (.int .i64 (s.code 0)) ∧ (fun w' => ∃ q', RDev w' lo n size c s.next q' ∧ RM w w' c q q' ∧ rst q' = (if s.goes then rsyncA size (rst q) else rst q)) w'
  generalize (fun w' => ∃ q', RDev w' lo n size c s.next q' ∧ RM w w' c q q' ∧ rst q' = (if s.goes then rsyncA size (rst q) else rst q)) = Z at *
  generalize s.code 0 = x at *
  go_enter Tryz.func89, Tryz.ntmps89
  go_wp2_with fail
  refine H.out.mono ?_
  rintro e w' ⟨rfl, h2⟩
  have H3 := hide h2
  clear h2
  go_wp2
  go_ret
  exact ⟨rfl, H3.out⟩
set_option maxRecDepth 20000 in
set_option maxHeartbeats 2000000 in
theorem qnew_at (h : RDev w lo n size c s q) (F C : Nat) (hok : spanOk n F C) : Calls Tryz.prog 38 #[.pointer (some ⟨c, 0, none⟩), .agg #[.int .i64 (F : Int), .int .i64 (C : Int)]] w fun e w' => ∃ r, e = .returned (.tuple #[.pointer (some ⟨r, 0, none⟩), .int .i64 0]) ∧ QgAt w' r c F C ∧ w.heap.size ≤ r ∧ w.grownBy w' none := by
  obtain ⟨h1, h2, h3⟩ := hok
  have n1 := h.ref.shape.n1
  have H : Hid (∀ w1 : World, w.grownBy w1 none → Calls Tryz.prog 84 #[.pointer (some ⟨c, 0, none⟩)] w1 fun e w' => e = .returned (.int .i64 (n : Int)) ∧ w' = w1) := fun w1 g1 => rdsectors_any (h.then g1)
  have G1 := hide (World.grownBy_alloc w (.cells #[.int .i64 (F : Int), .int .i64 (C : Int)] 47) none)
  have E := hide (span_new w F C)
  have hz := hide G1.out.size
  have h4 : (F : Int) ≤ (n : Int) := by omega
  clear h
  go_enter Tryz.func38, Tryz.ntmps38
  go_wp2_with fail
  generalize w.alloc (.cells #[.int .i64 (F : Int), .int .i64 (C : Int)] 47) = w1 at *
  have e0 := E.out.1
  have e1 := E.out.2
  generalize w.heap.size = z at *
  have HD : Hid (∀ p, Calls Tryz.prog 84 #[.pointer (some ⟨c, 0, none⟩)] (w1.drewN p) fun e w' => e = .returned (.int .i64 (n : Int)) ∧ w' = w1.drewN p) := fun p => H.out _ (grown_trans G1.out (grown_drewN w1 p none))
  have d1 : decide ((F : Int) < 0) = false := decide_eq_false (by omega)
  have d2 : decide ((C : Int) < 1) = false := decide_eq_false (by omega)
  have d3 : decide (n < F) = false := decide_eq_false (by omega)
  have d4 : decide ((n : Int) - (F : Int) < (C : Int)) = false := decide_eq_false (by omega)
  go_quiet ((go_at_call 84; exact Calls.quiet_of_same (HD.out _)))
  have e2 : (w1.drewN nq).cell? ⟨z, 0, none⟩ = some (.int .i64 (F : Int)) := e0
  have e3 : (w1.drewN nq).cell? ⟨z, 1, none⟩ = some (.int .i64 (C : Int)) := e1
  have G2 := hide (grown_trans G1.out (grown_drewN w1 nq none))
  generalize w1.drewN nq = w2 at *
  clear d1 d2 d3 d4
  go_wp2
  go_ret2
  have g3 := World.grownBy_alloc w2 (.cells (rgcells c F C).toArray 49) none
  exact ⟨w2.heap.size, rfl, ⟨heap_alloc_new w2 _⟩, by have := G2.out.size; have := hz.out; omega, grown_trans G2.out g3⟩
set_option maxRecDepth 20000 in
set_option maxHeartbeats 4000000 in
theorem qnew_bad (h : RDev w lo n size c s q) (F C : Int) (hF : F ≤ 9223372036854775807) (hok : ¬ spanOk n F C) : Calls Tryz.prog 38 #[.pointer (some ⟨c, 0, none⟩), .agg #[.int .i64 F, .int .i64 C]] w fun e w' => e = .returned (.tuple #[.pointer none, .int .i64 2]) ∧ w.grownBy w' none := by
  unfold spanOk at hok
  have n1 := h.ref.shape.n1
  have H : Hid (∀ w1 : World, w.grownBy w1 none → Calls Tryz.prog 84 #[.pointer (some ⟨c, 0, none⟩)] w1 fun e w' => e = .returned (.int .i64 (n : Int)) ∧ w' = w1) := fun w1 g1 => rdsectors_any (h.then g1)
  have G1 := hide (World.grownBy_alloc w (.cells #[.int .i64 F, .int .i64 C] 47) none)
  have E := hide (span_new w F C)
  clear h
  have hcase : F < 0 ∨ (0 ≤ F ∧ C < 1) ∨ (0 ≤ F ∧ 1 ≤ C ∧ (n : Int) < F) ∨ (0 ≤ F ∧ 1 ≤ C ∧ F ≤ (n : Int) ∧ (n : Int) - F < C) := by omega
  go_enter Tryz.func38, Tryz.ntmps38
  go_wp2_with fail
  generalize w.alloc (.cells #[.int .i64 F, .int .i64 C] 47) = w1 at *
  have e0 := E.out.1
  have e1 := E.out.2
  generalize w.heap.size = z at *
  have HD : Hid (∀ p, Calls Tryz.prog 84 #[.pointer (some ⟨c, 0, none⟩)] (w1.drewN p) fun e w' => e = .returned (.int .i64 (n : Int)) ∧ w' = w1.drewN p) := fun p => H.out _ (grown_trans G1.out (grown_drewN w1 p none))
  rcases hcase with k1 | ⟨k1, k2⟩ | ⟨k1, k2, k3⟩ | ⟨k1, k2, k3, k4⟩
  all_goals
    try (have d1 : decide (F < 0) = true := decide_eq_true (by omega))
    try (have d1 : decide (F < 0) = false := decide_eq_false (by omega))
    try (have d2 : decide (C < 1) = true := decide_eq_true (by omega))
    try (have d2 : decide (C < 1) = false := decide_eq_false (by omega))
    try (have d3 : decide ((n : Int) < F) = true := decide_eq_true (by omega))
    try (have d3 : decide ((n : Int) < F) = false := decide_eq_false (by omega))
    try (have d4 : decide ((n : Int) - F < C) = true := decide_eq_true (by omega))
    go_quiet ((go_at_call 84; exact Calls.quiet_of_same (HD.out _)))
    have G2 := hide (grown_trans G1.out (grown_drewN w1 nq none))
    generalize w1.drewN nq = w2 at *
    go_wp2
    go_ret2
    exact ⟨rfl, G2.out⟩
end
end Go.Proofs.YtofdijaipjkfbaaGreatDoor
/- A device beside the document's. -/
namespace Go.Proofs.YtofdijaipjkfbaaGreatDoor
open Go.RowKit Ap

structure Px where
  b : Nat
  s : Dv
  k : Dk
  D : List Nat
  W : List Wt
  c : Nat
  t : Dv
  q : Rk
structure PxAt (w0 w : World) (n size : Nat) (p : Px) : Prop where
  dev : Dev w0 w n size p.b p.s p.k p.D p.W
  rd : RDev w w0.heap.size n size p.c p.t p.q
  ap : ∀ i, foot p.k p.W i → ¬ rfoot p.q i
/-- The blocks that it may write. -/
def Px.own (p : Px) (i : Nat) : Prop := p.k.own i ∨ rfoot p.q i ∨ i = p.b ∨ i = p.c
/-- The blocks that it looks at. -/
def Px.all (p : Px) (i : Nat) : Prop := foot p.k p.W i ∨ rfoot p.q i ∨ i = p.b ∨ i = p.c
structure PxM (w w' : World) (p p' : Px) : Prop where
  eb : p'.b = p.b
  ec : p'.c = p.c
  kd : p'.k.d = p.k.d
  own : ∀ i, p'.own i → p.own i ∨ w.heap.size ≤ i
  all : ∀ i, p'.all i → p.all i ∨ w.heap.size ≤ i
  kept : Kept w w' p.own
structure PxW (w0 w w' : World) (n size : Nat) (p p' : Px) : Prop where
  z : PxAt w0 w' n size p'
  mv : PxM w w' p p'
  low : w0.heap.size ≤ w.heap.size
/-- They hold the same. -/
structure PxSame (n size : Nat) (p : Px) : Prop where
  st : p.s = p.t
  rows : secs n size p.D = (rst p.q).1
  waits : abs p.W = (rst p.q).2
section
variable {w0 w w' w'' : World} {n size : Nat} {p p' : Px}
theorem PxAt.bq (h : PxAt w0 w n size p) : ¬ rfoot p.q p.b := h.rd.ref.other_off h.dev.dev.head (by decide) (by decide) (by decide) (by decide)
theorem PxAt.cf (h : PxAt w0 w n size p) : ¬ foot p.k p.W p.c := by
  rintro (e | ⟨x, hx, e⟩)
  · exact h.dev.disk.disk.other_off h.rd.dev.head (by decide) (by decide) (by decide) e
  · have h1 := (h.dev.disk.disk.waits x hx).2.2.2
    have h2 := h.rd.dev.head
    rw [← e, h1] at h2
    simp at h2
theorem PxAt.bc (h : PxAt w0 w n size p) : p.b ≠ p.c := by
  intro e
  have h1 := h.dev.dev.head
  rw [e, h.rd.dev.head] at h1
  simp at h1
theorem PxAt.lt (h : PxAt w0 w n size p) : ∀ i, p.all i → i < w.heap.size := by
  rintro i (e | e | rfl | rfl)
  · exact h.dev.disk.disk.lt i e
  · exact (h.rd.ref.lt i e).2
  · exact h.dev.dev.lt
  · exact h.rd.dev.lt
theorem PxAt.low (h : PxAt w0 w n size p) : ∀ i, p.own i → w0.heap.size ≤ i := by
  rintro i (e | e | rfl | rfl)
  · exact h.dev.disk.own i e
  · exact (h.rd.ref.lt i e).1
  · exact h.dev.low
  · exact h.rd.low
theorem Px.own_all {i : Nat} (h : p.own i) : p.all i := by
  rcases h with e | e | e | e
  · exact .inl (.inl e)
  · exact .inr (.inl e)
  · exact .inr (.inr (.inl e))
  · exact .inr (.inr (.inr e))
theorem PxAt.then (h : PxAt w0 w n size p) (hg : w.grownBy w' none) : PxAt w0 w' n size p := ⟨h.dev.then hg, h.rd.then hg, h.ap⟩
theorem PxAt.other (h : PxAt w0 w n size p) {S : Nat → Prop} (hk : Kept w w' S) (hS : ∀ i, p.all i → ¬ S i) (hl : ∀ i, S i → w0.heap.size ≤ i) : PxAt w0 w' n size p :=
  ⟨⟨⟨h.dev.disk.disk.kept hk (fun i hi => hS i (.inl hi)), h.dev.disk.own, kept_new h.dev.disk.grown hk hl⟩, h.dev.dev.kept hk (hS _ (.inr (.inr (.inl rfl)))), h.dev.low⟩, ⟨h.rd.ref.kept hk (fun i hi => hS i (.inr (.inl hi))), h.rd.dev.kept hk (hS _ (.inr (.inr (.inr rfl)))), h.rd.low⟩, h.ap⟩
theorem PxW.refl (h : PxAt w0 w n size p) : PxW w0 w w n size p p := ⟨h, ⟨rfl, rfl, rfl, fun _ e => .inl e, fun _ e => .inl e, Kept.refl _ _⟩, h.dev.disk.grown.size⟩
theorem PxW.new (h : PxW w0 w w' n size p p') (hg : w'.grownBy w'' none) : PxW w0 w w'' n size p p' :=
  ⟨h.z.then hg, ⟨h.mv.eb, h.mv.ec, h.mv.kd, h.mv.own, h.mv.all, h.mv.kept.trans (Kept.new hg _) (fun _ _ e => e)⟩, h.low⟩
/-- A block that came later is written. -/
theorem PxW.row {g : Nat} (h : PxW w0 w w' n size p p') (hg : w'.grownBy w'' (some g)) (hn : w.heap.size ≤ g) (h1 : ¬ p'.all g) : PxW w0 w w'' n size p p' := by
  have hk : Kept w' w'' (fun i => i = g) := Kept.of hg (fun _ e _ => (Option.some.inj e).symm)
  exact ⟨h.z.other hk (fun i hi e => by have e : i = g := e; exact h1 (e ▸ hi)) (fun i e => by have e : i = g := e; have := h.low; omega), ⟨h.mv.eb, h.mv.ec, h.mv.kd, h.mv.own, h.mv.all, h.mv.kept.trans hk (fun i hi e => by have e : i = g := e; omega)⟩, h.low⟩
/-- The device goes on. -/
theorem PxW.dev {s' : Dv} {k' : Dk} {D' : List Nat} {W' : List Wt} (h : PxW w0 w w' n size p p') (hd : Dev w0 w'' n size p'.b s' k' D' W') (hm : DvM w' w'' p'.b p'.k k' p'.W W') : PxW w0 w w'' n size p ⟨p'.b, s', k', D', W', p'.c, p'.t, p'.q⟩ := by
  have hz := h.mv.kept.size
  have hft : ∀ i, foot k' W' i → foot p'.k p'.W i ∨ w'.heap.size ≤ i := by
    rintro i (e | ⟨x, hx, rfl⟩)
    · exact (hm.own i e).imp .inl id
    · rcases hm.blk x hx with ⟨y, hy, e⟩ | e
      · exact Or.inl (.inr ⟨y, hy, e⟩)
      · exact Or.inr e
  have hnb : ¬ rfoot p'.q p'.b := h.z.bq
  have hcf : ¬ foot p'.k p'.W p'.c := h.z.cf
  have hbc : p'.b ≠ p'.c := h.z.bc
  refine ⟨⟨hd, ⟨h.z.rd.ref.kept hm.kept ?_, h.z.rd.dev.kept hm.kept ?_, h.z.rd.low⟩, ?_⟩, ⟨h.mv.eb, h.mv.ec, hm.d.trans h.mv.kd, ?_, ?_, h.mv.kept.trans hm.kept ?_⟩, h.low⟩
  · rintro i hi (e | e)
    · exact h.z.ap i (.inl e) hi
    · have e : i = p'.b := e
      exact hnb (e ▸ hi)
  · rintro (e | e)
    · exact hcf (.inl e)
    · exact hbc e.symm
  · intro i hi hr
    rcases hft i hi with e | e
    · exact h.z.ap i e hr
    · have := (h.z.rd.ref.lt i hr).2; omega
  · rintro i (e | e | e | e)
    · rcases hm.own i e with e | e
      · exact h.mv.own i (.inl e)
      · exact Or.inr (by omega)
    · exact h.mv.own i (.inr (.inl e))
    · exact h.mv.own i (.inr (.inr (.inl e)))
    · exact h.mv.own i (.inr (.inr (.inr e)))
  · rintro i (e | e | e | e)
    · rcases hft i e with e | e
      · exact h.mv.all i (.inl e)
      · exact Or.inr (by omega)
    · exact h.mv.all i (.inr (.inl e))
    · exact h.mv.all i (.inr (.inr (.inl e)))
    · exact h.mv.all i (.inr (.inr (.inr e)))
  · rintro i hi (e | e)
    · rcases h.mv.own i (.inl e) with e | e
      · exact e
      · omega
    · rcases h.mv.own i (.inr (.inr (.inl e))) with e | e
      · exact e
      · omega
/-- The document's device goes on. -/
theorem PxW.ref {t' : Dv} {q' : Rk} (h : PxW w0 w w' n size p p') (hq : RDev w'' w0.heap.size n size p'.c t' q') (hm : RM w' w'' p'.c p'.q q') : PxW w0 w w'' n size p ⟨p'.b, p'.s, p'.k, p'.D, p'.W, p'.c, t', q'⟩ := by
  have hz := h.mv.kept.size
  have hnb : ¬ rfoot p'.q p'.b := h.z.bq
  have hcf : ¬ foot p'.k p'.W p'.c := h.z.cf
  have hbc : p'.b ≠ p'.c := h.z.bc
  have hl : ∀ i, rfoot p'.q i ∨ i = p'.c → w0.heap.size ≤ i := by
    rintro i (e | rfl)
    · exact (h.z.rd.ref.lt i e).1
    · exact h.z.rd.low
  have hno : ∀ i, foot p'.k p'.W i → ¬ (rfoot p'.q i ∨ i = p'.c) := by
    rintro i hi (e | e)
    · exact h.z.ap i hi e
    · exact hcf (e ▸ hi)
  refine ⟨⟨⟨⟨h.z.dev.disk.disk.kept hm.kept hno, h.z.dev.disk.own, kept_new h.z.dev.disk.grown hm.kept hl⟩, h.z.dev.dev.kept hm.kept ?_, h.z.dev.low⟩, hq, ?_⟩, ⟨h.mv.eb, h.mv.ec, h.mv.kd, ?_, ?_, h.mv.kept.trans hm.kept ?_⟩, h.low⟩
  · rintro (e | e)
    · exact hnb e
    · exact hbc e
  · intro i hi e
    rcases hm.rf i e with e | e
    · exact h.z.ap i hi e
    · have := h.z.dev.disk.disk.lt i hi; omega
  · rintro i (e | e | e | e)
    · exact h.mv.own i (.inl e)
    · rcases hm.rf i e with e | e
      · exact h.mv.own i (.inr (.inl e))
      · exact Or.inr (by omega)
    · exact h.mv.own i (.inr (.inr (.inl e)))
    · exact h.mv.own i (.inr (.inr (.inr e)))
  · rintro i (e | e | e | e)
    · exact h.mv.all i (.inl e)
    · rcases hm.rf i e with e | e
      · exact h.mv.all i (.inr (.inl e))
      · exact Or.inr (by omega)
    · exact h.mv.all i (.inr (.inr (.inl e)))
    · exact h.mv.all i (.inr (.inr (.inr e)))
  · rintro i hi (e | e)
    · rcases h.mv.own i (.inr (.inl e)) with e | e
      · exact e
      · omega
    · rcases h.mv.own i (.inr (.inr (.inr e))) with e | e
      · exact e
      · omega
theorem PxSame.len (h : PxSame n size p) : p.q.V.length = p.W.length := by
  have := congrArg List.length h.waits
  simpa [abs, rst, absV] using this.symm
end
end Go.Proofs.YtofdijaipjkfbaaGreatDoor
/- place: a region of a few sectors of 64 bytes behind a first one, both ways. -/
namespace Go.Proofs.YtofdijaipjkfbaaGreatDoor
open Go.RowKit Ap
attribute [local go_sem ↓] Go.wp_at_zero Go.wp_at_succ
def pN (x : Int) : Nat := (1 + x % 8).toNat
theorem pN_pos (x : Int) : 1 ≤ pN x ∧ pN x ≤ 8 := by unfold pN; omega
theorem pN_cast (x : Int) : 1 + x % 8 = (pN x : Int) := by unfold pN; omega
theorem may64 (N : Nat) (h1 : 1 ≤ N) (h2 : N ≤ 9) : mayB (N : Int) 64 = true := by
  rw [mayB_iff]
  exact ⟨by omega, by omega, by omega, by omega, by decide, by omega⟩
theorem secs_zs (n size : Nat) : secs n size (zs (n * size)) = List.replicate n (zs size) := by
  apply List.ext_getElem?
  intro i
  by_cases hi : i < n
  · rw [secs_get _ _ _ _ hi, zs_sec n size i hi, List.getElem?_replicate, if_pos hi]
  · rw [List.getElem?_eq_none (by rw [secs_length]; omega), List.getElem?_eq_none (by simp; omega)]
/-- What place leaves: a device and the document's, a region of each. -/
structure Plc (w0 w w' : World) (N r qr : Nat) (p : Px) : Prop where
  px : PxAt w0 w' (N + 1) 64 p
  same : PxSame (N + 1) 64 p
  new : p.W = [] ∧ p.q.V = [] ∧ p.s = Dv.anew ∧ p.t = Dv.anew ∧ p.D = zs ((N + 1) * 64)
  all : ∀ i, p.all i → w.heap.size ≤ i
  rg : RgAt w' r p.b 1 N
  rl : w.heap.size ≤ r
  qg : QgAt w' qr p.c 1 N
  ql : w.heap.size ≤ qr
  grown : w.grownBy w' none
set_option maxRecDepth 20000 in
set_option maxHeartbeats 8000000 in
theorem place_any (w0 w : World) (x : Int) (hg : w0.grownBy w none) : Calls Tryz.prog 6 #[.int .i64 x] w fun e w' => ∃ (p : Px) (r qr : Nat), e = .returned (.tuple #[.pointer (some ⟨r, 0, none⟩), .pointer (some ⟨p.b, 0, none⟩), .pointer (some ⟨qr, 0, none⟩), .bool true]) ∧ Plc w0 w w' (pN x) r qr p := by
  have HP : Hid (∀ w, Calls Tryz.prog 33 #[.int .i64 x, .int .i64 8] w fun e w' => e = .returned (.int .i64 (x % 8)) ∧ w' = w) := fun w => pick_any x 8 8 w rfl (by omega) (by omega)
  have HWN := hide (pN_cast x)
  have h1 := (pN_pos x).1
  have h2 := (pN_pos x).2
  have MB : Hid (mayB ((pN x + 1 : Nat) : Int) ((64 : Nat) : Int) = true) := may64 (pN x + 1) (by omega) (by omega)
  have SP : Hid (spanOk (pN x + 1) ((1 : Nat) : Int) ((pN x : Nat) : Int)) := ⟨by omega, by omega, by omega⟩
  generalize pN x = N at *
  have p1 : 0 ≤ x % 8 := by omega
  have p2 : x % 8 < 8 := by omega
  generalize x % 8 = xx at *
  have G0 := hide hg
  have HC : Hid ((N : Int) + 1 = ((N + 1 : Nat) : Int)) := by show _ = _; omega
  clear hg
  go_enter Tryz.func6, Tryz.ntmps6
  go_wp2_with fail
  refine (HP.out _).mono ?_
  rintro e w' ⟨rfl, rfl⟩
  go_wp2_with fail
  rw [HWN.out, HC.out]
  refine (newS (N + 1) 64 w0 w' G0.out MB.out).mono ?_
  rintro e w2 ⟨k, rfl, u2, g2, l2⟩
  have U2 := hide (And.intro u2 (And.intro g2 l2))
  clear u2 g2 l2
  go_wp2_with fail
  refine (dnew_any rfl U2.out.1).mono ?_
  rintro e w3 ⟨b, rfl, d3, l3, g3⟩
  have D3 := hide (And.intro d3 (And.intro l3 g3))
  clear d3 l3 g3
  go_wp2_with fail
  refine (gnew_at D3.out.1 1 N SP.out).mono ?_
  rintro e w4 ⟨r, rfl, d4, l4, g4⟩
  have D4 := hide (And.intro d4 (And.intro l4 g4))
  clear d4 l4 g4
  go_wp2_with fail
  rw [HC.out]
  refine (rnew_any (N + 1) 64 w4 MB.out).mono ?_
  rintro e w5 ⟨q, rfl, r5, s5, v5, g5⟩
  have R5 := hide (And.intro r5 (And.intro s5 (And.intro v5 g5)))
  clear r5 s5 v5 g5
  have Z4 : Hid (w0.heap.size ≤ w4.heap.size) := Nat.le_trans D3.out.1.disk.grown.size D4.out.2.2.size
  go_wp2_with fail
  refine (rdnew_any (R5.out.1.mono (lo' := w0.heap.size) Z4.out) (Nat.le_trans Z4.out R5.out.2.2.2.size)).mono ?_
  rintro e w6 ⟨c, rfl, d6, l6, g6⟩
  have D6 := hide (And.intro d6 (And.intro l6 g6))
  clear d6 l6 g6
  go_wp2_with fail
  refine (qnew_at D6.out.1 1 N SP.out).mono ?_
  rintro e w7 ⟨qr, rfl, d7, l7, g7⟩
  have D7 := hide (And.intro d7 (And.intro l7 g7))
  clear d7 l7 g7
  go_wp2
  refine bodyPost_ret (results_tmp4 rfl _ _ _) rfl ?_
  have z2 := U2.out.2.1.size
  have z3 := D3.out.2.2.size
  have z4 := D4.out.2.2.size
  have z5 := R5.out.2.2.2.size
  have z6 := D6.out.2.2.size
  have g47 : w4.grownBy w7 none := grown_trans (grown_trans R5.out.2.2.2 D6.out.2.2) D7.out.2.2
  have g37 : w3.grownBy w7 none := grown_trans D4.out.2.2 g47
  have g27 : w2.grownBy w7 none := grown_trans D3.out.2.2 g37
  have lk : ∀ i, foot k [] i → w'.heap.size ≤ i ∧ i < w2.heap.size := by
    rintro i (e | ⟨y, hy, _⟩)
    · exact ⟨U2.out.2.2 i e, U2.out.1.disk.lt i (.inl e)⟩
    · cases hy
  have lq : ∀ i, rfoot q i → w4.heap.size ≤ i := fun i e => (R5.out.1.lt i e).1
  have lb : w2.heap.size ≤ b := D3.out.2.1
  have lr : w3.heap.size ≤ r := D4.out.2.1
  have lc : w5.heap.size ≤ c := D6.out.2.1
  have lqr : w6.heap.size ≤ qr := D7.out.2.1
  have hz : PxAt w0 w7 (N + 1) 64 ⟨b, Dv.anew, k, zs ((N + 1) * 64), [], c, Dv.anew, q⟩ := ⟨D3.out.1.then g37, D6.out.1.then D7.out.2.2, fun i h1 h2 => by have := lk i h1; have := lq i h2; omega⟩
  have hall : ∀ i, Px.all ⟨b, Dv.anew, k, zs ((N + 1) * 64), [], c, Dv.anew, q⟩ i → w'.heap.size ≤ i := by
    rintro i (e | e | e | e)
    · exact (lk i e).1
    · have := lq i e; omega
    · have e : i = b := e
      omega
    · have e : i = c := e
      omega
  refine ⟨⟨b, Dv.anew, k, zs ((N + 1) * 64), [], c, Dv.anew, q⟩, r, qr, rfl, hz, ⟨rfl, ?_, ?_⟩, ⟨rfl, R5.out.2.2.1, rfl, rfl, rfl⟩, hall, D4.out.1.grown g47, by omega, D7.out.1, by omega, grown_trans U2.out.2.1 g27⟩
  · show secs (N + 1) 64 (zs ((N + 1) * 64)) = (rst q).1
    rw [secs_zs]; exact R5.out.2.1.symm
  · show abs [] = (rst q).2
    rw [rst, R5.out.2.2.1]; rfl
end Go.Proofs.YtofdijaipjkfbaaGreatDoor
