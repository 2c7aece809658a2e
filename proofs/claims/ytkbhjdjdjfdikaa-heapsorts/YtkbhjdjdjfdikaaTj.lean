/- The other steps. -/
import Derived.Test.YtkbhjdjdjfdikaaTi
import Derived.Test.YtkbhjdjdjfdikaaHj
namespace Go.Proofs.Ytkbhjdjdjfdikaa.Th
open Go.RowKit Ap Go.Proofs.Ytkbhjdjdjfdikaa
attribute [local go_sem ↓] Go.wp_at_zero Go.wp_at_succ
attribute [local go_sem] run_store_float
section
variable {w w' w2 : World} {L : Les} {p : Hp} {E : List (Nat × It)} {T : List Nat} {N B : Nat} {ne nt : Nat} {cs ts : List Value} {f : Int → Option Value}
theorem HS.then (hL : L.Ok) (h : HS w L p E T N B) (g : w.grownBy w' none) : HS w' L p E T N B := ⟨h.at_.then hL g, h.good, h.hds, h.ok⟩
theorem HS.mono (h : HS w L p E T N B) {B' : Nat} (hB : B ≤ B') : HS w L p E T N B' := ⟨⟨h.at_.head, h.at_.ent, h.at_.lst, h.at_.map.mono hB, h.at_.inv, h.at_.off⟩, h.good, h.hds, h.ok⟩
/-- The item of a handle, another one. -/
def setI (E : List (Nat × It)) (i : Nat) (v : It) : List (Nat × It) := E.set i ((en E i).1, v)
theorem setI_length (i : Nat) (v : It) : (setI E i v).length = E.length := by simp [setI]
theorem setI_get {i : Nat} (hi : i < E.length) (v : It) (j : Nat) : en (setI E i v) j = if j = i then ((en E i).1, v) else en E j := by
  unfold setI
  split
  · rename_i e; subst e; exact en_set_self hi
  · rename_i e; exact en_set_other (fun h => e h.symm)
theorem setI_fst {i : Nat} (hi : i < E.length) (v : It) (j : Nat) : (en (setI E i v) j).1 = (en E j).1 := by
  rw [setI_get hi]
  split
  · rename_i e; subst e; rfl
  · rfl
theorem Hds.setI (h : Hds E N) {i : Nat} (hi : i < E.length) (v : It) : Hds (setI E i v) N := by
  constructor
  · intro a b ha hb e
    rw [setI_length] at ha hb
    rw [setI_fst hi, setI_fst hi] at e
    exact h.inj a b ha hb e
  · intro a ha
    rw [setI_length] at ha
    rw [setI_fst hi]
    exact h.below a ha
theorem fi_setI (h : Hds E N) {i : Nat} (hi : i < E.length) (v : It) (x : Int) : fi (setI E i v) x = fi E x := by
  cases hf : fi E x with
  | none =>
    refine fi_none (fun j hj e => ?_)
    rw [setI_length] at hj
    rw [setI_fst hi] at e
    rw [fi_some h hj e] at hf
    cases hf
  | some j =>
    obtain ⟨h1, h2⟩ := fi_lt hf
    exact fi_some (h.setI hi v) (by rw [setI_length]; exact h1) (by rw [setI_fst hi]; exact h2)
theorem HS.out_any (hL : L.Ok) (h : HS w L p E T N B) (hE : E.length ≤ 65536) (hN : N ≤ 100000000) (hB : B ≤ 100000000) (i : Nat) (hi : i < E.length) :
    Calls Try.prog 53 #[.pointer (some ⟨p.h, 0, none⟩), .int .i64 (i : Int)] w fun e w' => e = .returned (.tuple #[]) ∧ ∃ q T', HS w' L q (outE E i) T' N (B + 1) ∧ Hst w w' L p q := by
  refine (takeOut_any hL h.at_ h.good h.hds (by omega) (by omega) (by omega) i hi h.ok).mono ?_
  rintro e w' ⟨rfl, q, h1, h2, h3, h4⟩
  refine ⟨rfl, q, _, ⟨h1, h.good.out hi, h.hds.out hi, ?_⟩, h2, h3, fun j e => .inl (h4 j e)⟩
  intro e he
  have h1 : e ∈ E.set i (en E (E.length - 1)) := List.mem_of_mem_take he
  rcases List.mem_or_eq_of_mem_set h1 with h2 | h2
  · exact h.ok e h2
  · rw [h2]; exact h.ok _ (en_mem (by omega))
set_option maxRecDepth 20000 in
set_option maxHeartbeats 4000000 in
theorem drop_any (hL : L.Ok) (h : HS w L p E T N B) (hE : E.length ≤ 65536) (hN : N ≤ 100000000) (hB : B ≤ 100000000) (x : Int) (hx : (Lit.int .i64 x).wf = true) :
    Calls Try.prog 26 #[.pointer (some ⟨p.h, 0, none⟩), .int .i64 x] w fun e w' => e = .returned (.bool (fi E x).isSome) ∧ ∃ q T', HS w' L q ((fi E x).elim E fun i => outE E i) T' N (B + 1) ∧ Hst w w' L p q := by
  have hf := find_at h.at_ x hx
  cases hx2 : fi E x with
  | none =>
    rw [hx2] at hf
    simp only [Option.getD, Option.isSome] at hf
    have HH := hide h
    clear h
    go_enter Try.func26, Try.ntmps26
    go_wp2_with fail
    refine hf.mono ?_
    rintro e w1 ⟨rfl, hw1⟩
    obtain rfl := hw1.symm
    go_wp2
    go_ret
    exact ⟨rfl, p, T, HH.out.mono (Nat.le_succ _), Hst.refl _ _ _⟩
  | some i =>
    rw [hx2] at hf
    simp only [Option.getD, Option.isSome] at hf
    have hi := (fi_lt hx2).1
    have ho := h.out_any hL hE hN hB i hi
    clear h hx2
    go_enter Try.func26, Try.ntmps26
    go_wp2_with fail
    refine hf.mono ?_
    rintro e w1 ⟨rfl, hw1⟩
    obtain rfl := hw1.symm
    go_wp2_with fail
    refine ho.mono ?_
    clear ho hf
    rintro e w8 ⟨rfl, hA8⟩
    have H8 := hide hA8
    clear hA8
    go_wp2
    go_ret
    exact ⟨rfl, H8.out⟩
theorem good_nil (lt : It → It → Bool) : Good lt [] [] := ⟨rfl, fun b hb => by simp at hb⟩
theorem eql_nilFunc (fn : Fn) (a b : Array Value) (w : World) : (binOp .eql 64 (.func fn a b) .nilFunc).run Try.prog w = .ok (.bool false) w := by
  have h : ∀ d : Nat, (Op.equalIn (d + 1) 64 (.func fn a b) .nilFunc).run Try.prog w = .ok false w := fun d => by
    simp [Op.equalIn, run_underlying Try.underlying64]
  simp only [binOp]
  simp [Op.equal, Op.maxDepth, h 9999]
theorem set_cells {i : Nat} (hi : i < E.length) (v : It) : ((ecells E).set (i * 3 + 1) (.string v.s)).set (i * 3 + 2) (.float .f64 v.f) = ecells (setI E i v) := by
  unfold setI
  rw [ecells_set]
  congr 2
  symm
  refine List.ext_getElem? (fun j => ?_)
  rw [List.getElem?_set]
  split
  · rename_i e
    subst e
    split
    · rw [(ecells_get hi).1]
    · rename_i hnl; rw [ecells_length] at hnl; omega
  · rfl
set_option maxRecDepth 20000 in
set_option maxHeartbeats 4000000 in
theorem set_any (hL : L.Ok) (h0 : HS w L p E T N B) (hE : E.length ≤ 65536) (x : Int) (v : It) (hx : (Lit.int .i64 x).wf = true) (hv : L.ok v) :
    Calls Try.prog 27 #[.pointer (some ⟨p.h, 0, none⟩), .int .i64 x, .agg #[.string v.s, .float .f64 v.f]] w fun e w' => e = .returned (.bool (fi E x).isSome) ∧ ∃ T', HS w' L p ((fi E x).elim E fun i => setI E i v) T' N B ∧ Hst w w' L p p := by
  have ga := World.grownBy_alloc w (.cells #[.string v.s, .float .f64 v.f] 63) none
  have nb : (w.alloc (.cells #[.string v.s, .float .f64 v.f] 63)).heap[w.heap.size]? = some (.cells [Value.string v.s, .float .f64 v.f].toArray 63 (0, 0)) := heap_alloc_new w _
  obtain ⟨wb, hwb⟩ : ∃ wb, wb = w.alloc (.cells #[.string v.s, .float .f64 v.f] 63) := ⟨_, rfl⟩
  rw [← hwb] at ga nb
  obtain ⟨bx, hbx⟩ : ∃ bx, bx = w.heap.size := ⟨_, rfl⟩
  rw [← hbx] at nb
  have s0 := cell_row nb 0
  have s1 := cell_row nb 1
  simp at s0 s1
  have HWB := hide (And.intro hwb (And.intro hbx nb))
  have h := h0.then hL ga
  have HST := hide (Hst.grown ga L p)
  have hf := find_at h.at_ x hx
  cases hx2 : fi E x with
  | none =>
    rw [hx2] at hf
    simp only [Option.getD, Option.isSome] at hf
    have HH := hide h
    clear h h0 ga nb hwb hbx
    go_enter Try.func27, Try.ntmps27
    go_upto_region 1 with fail
    rw [← HWB.out.1, ← HWB.out.2.1]
    go_wp2_with fail
    refine hf.mono ?_
    rintro e w1 ⟨rfl, hw1⟩
    obtain rfl := hw1.symm
    go_wp2
    go_ret
    exact ⟨rfl, T, HH.out, HST.out⟩
  | some i =>
    rw [hx2] at hf
    simp only [Option.getD, Option.isSome] at hf
    have hi := (fi_lt hx2).1
    obtain ⟨-, -, -, -, c4, -, -⟩ := h.at_.cells
    have R0 := h.at_.raw
    rw [h.good.len] at R0
    obtain ⟨ge, ce, cure, hve, hge, hne, -, -, hte⟩ := own_row R0.ent (by omega)
    have b1 := own_cell hge hte (ecells_get hi).2.1
    have b2 := own_cell hge hte (ecells_get hi).2.2
    have f1 : wb.frozen? ⟨ge, i * 3 + 1, none⟩ = false := free_row hge _
    have f2 : wb.frozen? ⟨ge, i * 3 + 2, none⟩ = false := free_row hge _
    have hgb : ¬ ge = bx := fun e => by rw [e, nb] at hge; simp at hge
    rw [hve] at c4
    obtain ⟨R1, K1⟩ := R0.setE hL hve (by omega) (i * 3 + 1) (.string v.s)
    obtain ⟨R2, K2⟩ := R1.setE hL hve (by omega) (i * 3 + 2) (.float .f64 v.f)
    have R3 := R2.then hL (grown_drew _ none)
    have K3 := (K1.trans K2 (fun _ _ e => e)).trans (Kept.new (grown_drew _ none) p.own) (fun _ _ e => e)
    have hA1 : HpAt ((wb.setCell ⟨ge, i * 3 + 1, none⟩ (.string v.s)).setCell ⟨ge, i * 3 + 2, none⟩ (.float .f64 v.f)).drew L p (setI E i v) T N B := by
      refine ⟨R3.head, ?_, ?_, ?_, R3.inv, R3.off⟩
      · rw [setI_length, ← set_cells hi]; exact R3.ent
      · rw [h.good.len]; exact R3.lst
      · exact MapAt.congr R3.map (fun y => by rw [plf_eq, plf_eq, fi_setI h.hds hi])
    have hgd := h.good.set hi ((en E i).1, v)
    have hok2 : ∀ e ∈ setI E i v, L.ok e.2 := by
      intro e he
      rcases List.mem_or_eq_of_mem_set he with h2 | h2
      · exact h.ok e h2
      · rw [h2]; exact hv
    have hst := settle_any hL hA1 (by rw [setI_length, h.good.len]) (by rw [setI_length]; omega) (i + 1) (by rw [setI_length]; omega) (fun b hb _ => by rw [setI_length] at hb ⊢; exact (h.good.sub b hb).2) hok2
    rw [show (((i + 1 : Nat) : Int)) - 1 = (i : Int) by omega] at hst
    have HF := hide (And.intro (h.hds.setI hi v) (And.intro hgd (And.intro hok2 K3)))
    clear h h0 hgd hok2 K1 K2 K3 hA1 R0 R1 R2 R3 hge hte hve hx2 ga nb hwb hbx
    generalize E.length = n at *
    go_enter Try.func27, Try.ntmps27
    go_upto_region 1 with fail
    rw [← HWB.out.1, ← HWB.out.2.1]
    go_wp2_with fail
    refine hf.mono ?_
    rintro e w1 ⟨rfl, hw1⟩
    obtain rfl := hw1.symm
    go_wp2
    go_region
    clear hf b1 b2 f1 f2 c4 s0 s1
    generalize ((wb.setCell ⟨ge, i * 3 + 1, none⟩ (.string v.s)).setCell ⟨ge, i * 3 + 2, none⟩ (.float .f64 v.f)).drew = w2 at *
    go_wp2_with fail
    refine hst.mono ?_
    clear hst
    rintro e w8 ⟨rfl, hA8, k8⟩
    have H8 := hide (And.intro hA8 k8)
    clear hA8 k8
    go_wp2
    go_ret
    exact ⟨rfl, _, ⟨H8.out.1, HF.out.2.1, HF.out.1, HF.out.2.2.1⟩, HST.out.trans ⟨rfl, (HF.out.2.2.2.mono (fun _ _ e => .inr e)).trans H8.out.2 (fun j _ e => e.imp_right (fun e => .inr (.inr (.inl e)))), fun _ e => .inl e⟩⟩
set_option maxRecDepth 20000 in
/-- A new heap. -/
theorem new_any (hL : L.Ok) (hI : L.I w) : Calls Try.prog 23 #[L.fv] w fun e w' => ∃ p : Hp, e = .returned (.pointer (some ⟨p.h, 0, none⟩)) ∧ HS w' L p [] [] 0 0 ∧ w.grownBy w' none ∧ (∀ j, p.own j → w.heap.size ≤ j) := by
  have HP : Hid (∀ w', w' = (w.alloc (.map #[] 0)).alloc (.cells #[.pointer (some ⟨w.heap.size + 1, 0, none⟩), .func (.func L.k) #[] L.cap, .bool false, .int .i64 0, .slice none 0 0, .slice none 0 0, .map (some w.heap.size)] 88) → HS w' L ⟨w.heap.size + 1, .slice none 0 0, .slice none 0 0, w.heap.size⟩ [] [] 0 0 ∧ w.grownBy w' none ∧ (∀ j, Hp.own ⟨w.heap.size + 1, .slice none 0 0, .slice none 0 0, w.heap.size⟩ j → w.heap.size ≤ j)) := by
    rintro w' rfl
    have g1 := World.grownBy_alloc w (.map #[] 0) none
    have g2 := World.grownBy_alloc (w.alloc (.map #[] 0)) (.cells #[.pointer (some ⟨w.heap.size + 1, 0, none⟩), .func (.func L.k) #[] L.cap, .bool false, .int .i64 0, .slice none 0 0, .slice none 0 0, .map (some w.heap.size)] 88) none
    have g := grown_trans g1 g2
    have ho : ∀ j, Hp.own ⟨w.heap.size + 1, .slice none 0 0, .slice none 0 0, w.heap.size⟩ j → w.heap.size ≤ j := by
      rintro j (e | e | e | e)
      · have : j = w.heap.size + 1 := e
        omega
      · cases e
      · cases e
      · have : j = w.heap.size := e
        omega
    refine ⟨⟨⟨?_, World.ownsRow_nil _ _ _ _, World.ownsRow_nil _ _ _ _, ?_, hL.keep w _ (fun _ => False) hI (Kept.new g _) (fun _ e => e.elim), fun i hi hF => ?_⟩, good_nil _, ⟨fun i j hi => by simp at hi, fun i hi => by simp at hi⟩, fun e he => by simp at he⟩, g, ho⟩
    · have := heap_alloc_new (w.alloc (.map #[] 0)) (.cells #[.pointer (some ⟨w.heap.size + 1, 0, none⟩), .func (.func L.k) #[] L.cap, .bool false, .int .i64 0, .slice none 0 0, .slice none 0 0, .map (some w.heap.size)] 88)
      rw [World.size_alloc] at this
      exact this
    · have hm := heap_alloc_new w (.map #[] 0)
      have hm2 := (g2.block _ (row_lt hm) (by simp)).trans hm
      exact (mapAt_made hm2).congr (fun x => rfl)
    · have h1 := hL.below w i hI hF
      have h2 := ho i hi
      omega
  unfold Les.fv
  have hq := eql_nilFunc (.func L.k) #[] L.cap
  have hmm := @run_makeMap Try.prog
  generalize L.cap = cap at *
  go_enter Try.func23, Try.ntmps23
  go_wp2
  go_ret
  exact ⟨⟨w.heap.size + 1, .slice none 0 0, .slice none 0 0, w.heap.size⟩, rfl, HP.out _ rfl⟩
set_option maxRecDepth 20000 in
set_option maxHeartbeats 4000000 in
theorem pop_any (hL : L.Ok) (h0 : HS w L p E T N B) (hz : 0 < E.length) (hE : E.length ≤ 65536) (hN : N ≤ 100000000) (hB : B ≤ 100000000) :
    Calls Try.prog 29 #[.pointer (some ⟨p.h, 0, none⟩)] w fun e w' => e = .returned (.tuple #[.agg #[.string (en E (tn T 0)).2.s, .float .f64 (en E (tn T 0)).2.f], .int .i64 ((en E (tn T 0)).1 : Int), .bool true]) ∧ ∃ q T', HS w' L q (outE E (tn T 0)) T' N (B + 1) ∧ Hst w w' L p q := by
  have ga := World.grownBy_alloc w (.cells #[.string ⟨#[]⟩, .float .f64 0] 63) none
  have nb : (w.alloc (.cells #[.string ⟨#[]⟩, .float .f64 0] 63)).heap[w.heap.size]? = some (.cells [Value.string ⟨#[]⟩, .float .f64 0].toArray 63 (0, 0)) := heap_alloc_new w _
  obtain ⟨wb, hwb⟩ : ∃ wb, wb = w.alloc (.cells #[.string ⟨#[]⟩, .float .f64 0] 63) := ⟨_, rfl⟩
  rw [← hwb] at ga nb
  obtain ⟨bx, hbx⟩ : ∃ bx, bx = w.heap.size := ⟨_, rfl⟩
  rw [← hbx] at nb
  have h := h0.then hL ga
  have hi := (h.good.sub 0 hz).2
  have hl := least_at hL h.at_ h.good.len hz hi
  have HWB := hide (And.intro hwb (And.intro hbx nb))
  have HST := hide (Hst.grown ga L p)
  have hoff : ∀ j, p.own j → j < bx := fun j e => by rw [hbx]; exact h0.at_.lt j e
  have hSb : ∀ j, bx ≤ j → ¬ L.F j := fun j hj e => by have := hL.below w j h0.at_.inv e; omega
  have HOF := hide (And.intro hoff hSb)
  have hx : (Lit.int .i64 ((en E (tn T 0)).1 : Int)).wf = true := wf_i64 (by omega) (by have := h.hds.at hi; omega)
  have k3 : Try.prog.underlying 3 = some (.int .i64) := by first | exact Try.underlying3 | kernel_rfl
  have HO : Hid (∀ w1, wb.grownBy w1 none → Calls Try.prog 53 #[.pointer (some ⟨p.h, 0, none⟩), .int .i64 (tn T 0 : Int)] w1 fun e w' => e = .returned (.tuple #[]) ∧ ∃ q T', HS w' L q (outE E (tn T 0)) T' N (B + 1) ∧ Hst w1 w' L p q) := by
    intro w1 hg
    exact (h.then hL hg).out_any hL hE hN hB (tn T 0) hi
  have HG : Hid (∀ w1, wb.grownBy w1 none → w1.cell? ⟨p.h, 6, none⟩ = some (.map (some p.mb)) ∧ (Instr.lookup 55 (.map (some p.mb)) (.int .i64 ((en E (tn T 0)).1 : Int)) false).run Try.prog w1 = .ok (.int .i64 (tn T 0 : Int)) w1) := by
    intro w1 hg
    refine ⟨(h.then hL hg).at_.cells.2.2.2.2.2.2, ?_⟩
    have := (h.then hL hg).at_.map.get k3 Try.underlying55 (zero3 w1) hx
    rw [plf_eq, fi_at h.hds hi] at this
    exact this
  clear h h0 ga nb hwb hbx hoff hSb
  generalize (en E (tn T 0)).1 = a at *
  generalize (en E (tn T 0)).2.s = bs at *
  generalize (en E (tn T 0)).2.f = bf at *
  generalize hE2 : outE E (tn T 0) = E2 at *
  clear hE2
  generalize tn T 0 = i at *
  go_enter Try.func29, Try.ntmps29
  go_upto_region 1 with fail
  rw [← HWB.out.1, ← HWB.out.2.1]
  go_wp2_with fail
  refine hl.mono ?_
  rintro e w1 ⟨rfl, hg1⟩
  have HG1 := hide hg1
  clear hl hg1
  go_upto_region 2 with fail
  obtain ⟨w2, hw2⟩ : ∃ w2, w2 = w1.alloc (.cells #[.string bs, .float .f64 bf] 63) := ⟨_, rfl⟩
  rw [← hw2]
  have g2 : w1.grownBy w2 none := by rw [hw2]; exact World.grownBy_alloc w1 _ none
  have n2 : w2.heap[w1.heap.size]? = some (.cells [Value.string bs, .float .f64 bf].toArray 63 (0, 0)) := by rw [hw2]; exact heap_alloc_new w1 _
  have gb2 := grown_trans HG1.out g2
  obtain ⟨c6, hlk⟩ := HG.out w2 gb2
  have ho := HO.out w2 gb2
  have nb2 := (gb2.block _ (row_lt HWB.out.2.2) (by simp)).trans HWB.out.2.2
  have hbl : bx < w1.heap.size := Nat.lt_of_lt_of_le (row_lt HWB.out.2.2) HG1.out.size
  have H2 := hide (And.intro gb2 (And.intro n2 nb2))
  obtain ⟨b2, hb2⟩ : ∃ b2, b2 = w1.heap.size := ⟨_, rfl⟩
  rw [← hb2] at H2 hbl ⊢
  clear hb2 HG HO g2 n2 nb2 gb2 hw2
  go_wp2_with fail
  refine ho.mono ?_
  clear ho
  rintro e w8 ⟨rfl, q, T', hA8, hs8⟩
  have x1 := hs8.kept.at H2.out.2.1 (fun e => e.elim (fun e => HOF.out.2 b2 (by omega) (hL.sub _ e)) (fun e => by have := HOF.out.1 b2 e; omega))
  have x2 := hs8.kept.at H2.out.2.2 (fun e => e.elim (fun e => HOF.out.2 bx (Nat.le_refl _) (hL.sub _ e)) (fun e => by have := HOF.out.1 bx e; omega))
  have d0 := cell_row x1 0
  have d1 := cell_row x1 1
  have r0 := cell_row x2 0
  have r1 := cell_row x2 1
  have f0 : w8.frozen? ⟨bx, 0, none⟩ = false := free_row x2 0
  have f1 : w8.frozen? ⟨bx, 1, none⟩ = false := free_row x2 1
  have hne : ¬ b2 = bx := by omega
  have hne2 : ¬ bx = b2 := by omega
  simp at d0 d1 r0 r1
  have hst8 := HST.out.trans ((Hst.grown H2.out.1 L p).trans hs8)
  have hqo : ∀ j, q.own j → j ≠ bx := fun j e => by
    rcases hs8.own j e with e | e
    · have := HOF.out.1 j e; omega
    · have := row_lt H2.out.2.2; omega
  have H8 := hide (And.intro hA8 (And.intro hst8 (And.intro hqo x2)))
  clear hA8 hs8 hst8 hqo x1 x2 c6 hlk
  go_wp2
  have nb5 := row_setCell (row_setCell H8.out.2.2.2 0 (.string bs)) 1 (.float .f64 bf)
  have z0 := cell_row nb5 0
  have z1 := cell_row nb5 1
  simp at z0 z1
  have kx : Kept w8 ((w8.setCell ⟨bx, 0, none⟩ (.string bs)).setCell ⟨bx, 1, none⟩ (.float .f64 bf)) (fun i => i = bx) := (kept_setCell w8 bx 0 _).trans (kept_setCell _ bx 1 _) (fun _ _ e => e)
  have hI9 : L.I ((w8.setCell ⟨bx, 0, none⟩ (.string bs)).setCell ⟨bx, 1, none⟩ (.float .f64 bf)) := hL.keep _ _ _ H8.out.1.at_.inv kx (fun i e => HOF.out.2 i (by omega))
  have hA9 : HS ((w8.setCell ⟨bx, 0, none⟩ (.string bs)).setCell ⟨bx, 1, none⟩ (.float .f64 bf)) L q E2 T' N (B + 1) := ⟨H8.out.1.at_.far kx (fun i hi e => H8.out.2.2.1 i hi e) hI9, H8.out.1.good, H8.out.1.hds, H8.out.1.ok⟩
  have hst9 : Hst w ((w8.setCell ⟨bx, 0, none⟩ (.string bs)).setCell ⟨bx, 1, none⟩ (.float .f64 bf)) L p q := ⟨H8.out.2.1.h, H8.out.2.1.kept.trans kx (fun i hi e => by have := HWB.out.2.1; omega), H8.out.2.1.own⟩
  have H9 := hide (And.intro hA9 hst9)
  clear hA9 hst9 hI9 kx nb5 d0 d1 r0 r1 f0 f1
  generalize (w8.setCell ⟨bx, 0, none⟩ (.string bs)).setCell ⟨bx, 1, none⟩ (.float .f64 bf) = w9 at *
  refine bodyPost_ret (v := .tuple #[.agg #[.string bs, .float .f64 bf], .int .i64 (a : Int), .bool true]) ?_ rfl ?_
  · rw [results_cell_tmp2 rfl]; go_simp
  · exact ⟨rfl, q, T', H9.out⟩
set_option maxRecDepth 20000 in
set_option maxHeartbeats 4000000 in
theorem least_none (hL : L.Ok) (h0 : HS w L p E T N B) (hz : E.length = 0) : Calls Try.prog 54 #[.pointer (some ⟨p.h, 0, none⟩)] w fun e w' => e = .returned (.tuple #[.agg #[.string ⟨#[]⟩, .float .f64 0], .int .i64 0, .bool false]) ∧ w.grownBy w' none := by
  have ga := World.grownBy_alloc w (.cells #[.string ⟨#[]⟩, .float .f64 0] 63) none
  have nb : (w.alloc (.cells #[.string ⟨#[]⟩, .float .f64 0] 63)).heap[w.heap.size]? = some (.cells [Value.string ⟨#[]⟩, .float .f64 0].toArray 63 (0, 0)) := heap_alloc_new w _
  obtain ⟨wb, hwb⟩ : ∃ wb, wb = w.alloc (.cells #[.string ⟨#[]⟩, .float .f64 0] 63) := ⟨_, rfl⟩
  rw [← hwb] at ga nb
  obtain ⟨bx, hbx⟩ : ∃ bx, bx = w.heap.size := ⟨_, rfl⟩
  rw [← hbx] at nb
  have hl := len_at (h0.then hL ga).at_
  rw [hz] at hl
  have g2 := World.grownBy_alloc wb (.cells #[.string ⟨#[]⟩, .float .f64 0] 63) none
  have x2 := (g2.block _ (row_lt nb) (by simp)).trans nb
  have x1 : (wb.alloc (.cells #[.string ⟨#[]⟩, .float .f64 0] 63)).heap[wb.heap.size]? = some (.cells [Value.string ⟨#[]⟩, .float .f64 0].toArray 63 (0, 0)) := heap_alloc_new wb _
  have d0 := cell_row x1 0
  have d1 := cell_row x1 1
  have r0 := cell_row x2 0
  have r1 := cell_row x2 1
  have f0 : (wb.alloc (.cells #[.string ⟨#[]⟩, .float .f64 0] 63)).frozen? ⟨bx, 0, none⟩ = false := free_row x2 0
  have f1 : (wb.alloc (.cells #[.string ⟨#[]⟩, .float .f64 0] 63)).frozen? ⟨bx, 1, none⟩ = false := free_row x2 1
  have hne : ¬ wb.heap.size = bx := by have := row_lt nb; omega
  have hne2 : ¬ bx = wb.heap.size := by omega
  simp at d0 d1 r0 r1
  have HWB := hide (And.intro hwb (And.intro hbx (And.intro (grown_trans ga g2) x2)))
  clear ga nb hwb hbx g2 x1 x2 h0
  go_enter Try.func54, Try.ntmps54
  go_upto_region 1 with fail
  rw [← HWB.out.1, ← HWB.out.2.1]
  go_wp2_with fail
  refine hl.mono ?_
  clear hl
  rintro e w1 ⟨rfl, hw1⟩
  obtain rfl := hw1.symm
  rw [show (((0 : Nat) : Int)) = 0 from rfl]
  clear d0 d1
  go_wp2
  have nb5 := row_setCell (row_setCell HWB.out.2.2.2 0 (.string ⟨#[]⟩)) 1 (.float .f64 0)
  have z0 := cell_row nb5 0
  have z1 := cell_row nb5 1
  simp at z0 z1
  have HE := hide (grown_then HWB.out.2.2.1 (grown_trans (grown_setCell (wb.alloc (.cells #[.string ⟨#[]⟩, .float .f64 0] 63)) bx 0 (.string ⟨#[]⟩)) (grown_setCell _ bx 1 (.float .f64 0))) (fun j e => by cases e; exact .inl (Nat.le_of_eq HWB.out.2.1.symm)))
  clear nb5 r0 r1 f0 f1
  generalize ((wb.alloc (.cells #[.string ⟨#[]⟩, .float .f64 0] 63)).setCell ⟨bx, 0, none⟩ (.string ⟨#[]⟩)).setCell ⟨bx, 1, none⟩ (.float .f64 0) = w4 at *
  refine bodyPost_ret (v := .tuple #[.agg #[.string ⟨#[]⟩, .float .f64 0], .int .i64 0, .bool false]) ?_ rfl ?_
  · rw [results_cell_tmp2 rfl]; go_simp
  · exact ⟨rfl, HE.out⟩
set_option maxRecDepth 20000 in
set_option maxHeartbeats 4000000 in
theorem pop_none (hL : L.Ok) (h0 : HS w L p E T N B) (hz : E.length = 0) : Calls Try.prog 29 #[.pointer (some ⟨p.h, 0, none⟩)] w fun e w' => e = .returned (.tuple #[.agg #[.string ⟨#[]⟩, .float .f64 0], .int .i64 0, .bool false]) ∧ w.grownBy w' none := by
  have ga := World.grownBy_alloc w (.cells #[.string ⟨#[]⟩, .float .f64 0] 63) none
  have nb : (w.alloc (.cells #[.string ⟨#[]⟩, .float .f64 0] 63)).heap[w.heap.size]? = some (.cells [Value.string ⟨#[]⟩, .float .f64 0].toArray 63 (0, 0)) := heap_alloc_new w _
  obtain ⟨wb, hwb⟩ : ∃ wb, wb = w.alloc (.cells #[.string ⟨#[]⟩, .float .f64 0] 63) := ⟨_, rfl⟩
  rw [← hwb] at ga nb
  obtain ⟨bx, hbx⟩ : ∃ bx, bx = w.heap.size := ⟨_, rfl⟩
  rw [← hbx] at nb
  have hl := least_none hL (h0.then hL ga) hz
  have HWB := hide (And.intro hwb (And.intro hbx (And.intro ga nb)))
  clear ga nb hwb hbx h0
  go_enter Try.func29, Try.ntmps29
  go_upto_region 1 with fail
  rw [← HWB.out.1, ← HWB.out.2.1]
  go_wp2_with fail
  refine hl.mono ?_
  clear hl
  rintro e w1 ⟨rfl, hg1⟩
  have g2 := World.grownBy_alloc w1 (.cells #[.string ⟨#[]⟩, .float .f64 0] 63) none
  have x2 := ((grown_trans hg1 g2).block _ (row_lt HWB.out.2.2.2) (by simp)).trans HWB.out.2.2.2
  have r0 := cell_row x2 0
  have r1 := cell_row x2 1
  have f0 : (w1.alloc (.cells #[.string ⟨#[]⟩, .float .f64 0] 63)).frozen? ⟨bx, 0, none⟩ = false := free_row x2 0
  have f1 : (w1.alloc (.cells #[.string ⟨#[]⟩, .float .f64 0] 63)).frozen? ⟨bx, 1, none⟩ = false := free_row x2 1
  have hne : ¬ w1.heap.size = bx := by have := row_lt HWB.out.2.2.2; have := hg1.size; omega
  have hne2 : ¬ bx = w1.heap.size := by omega
  simp at r0 r1
  have H2 := hide (And.intro (grown_trans HWB.out.2.2.1 (grown_trans hg1 g2)) x2)
  clear hg1 g2 x2
  go_wp2
  have nb5 := row_setCell (row_setCell H2.out.2 0 (.string ⟨#[]⟩)) 1 (.float .f64 0)
  have z0 := cell_row nb5 0
  have z1 := cell_row nb5 1
  simp at z0 z1
  have HE := hide (grown_then H2.out.1 (grown_trans (grown_setCell (w1.alloc (.cells #[.string ⟨#[]⟩, .float .f64 0] 63)) bx 0 (.string ⟨#[]⟩)) (grown_setCell _ bx 1 (.float .f64 0))) (fun j e => by cases e; exact .inl (Nat.le_of_eq HWB.out.2.1.symm)))
  clear nb5 r0 r1 f0 f1
  generalize ((w1.alloc (.cells #[.string ⟨#[]⟩, .float .f64 0] 63)).setCell ⟨bx, 0, none⟩ (.string ⟨#[]⟩)).setCell ⟨bx, 1, none⟩ (.float .f64 0) = w4 at *
  refine bodyPost_ret (v := .tuple #[.agg #[.string ⟨#[]⟩, .float .f64 0], .int .i64 0, .bool false]) ?_ rfl ?_
  · rw [results_cell_tmp2 rfl]; go_simp
  · exact ⟨rfl, HE.out⟩
end
end Go.Proofs.Ytkbhjdjdjfdikaa.Th
