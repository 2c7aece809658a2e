/- The other steps. -/
import Derived.Test.YtkbhjdjdjfdikaaHi
namespace Go.Proofs.Ytkbhjdjdjfdikaa
open Go.RowKit Ap
attribute [local go_sem ↓] Go.wp_at_zero Go.wp_at_succ
section
variable {w w' w2 : World} {L : Les} {p : Hp} {E : List (Nat × Int)} {T : List Nat} {N B : Nat} {ne nt : Nat} {cs ts : List Value} {f : Int → Option Value}
theorem push_full (h : HS w L p E T N B) (hE : E.length = 65536) (v : Int) : Calls Try.prog 17 #[.pointer (some ⟨p.h, 0, none⟩), .int .i64 v] w fun e w' => e = .returned (.tuple #[.int .i64 0, .int .i64 6]) ∧ w' = w := by
  have hn := none_at h.at_
  obtain ⟨-, -, -, -, c4, -, -⟩ := h.at_.cells
  obtain ⟨vo, cap, hve, -⟩ := own_form h.at_.ent
  rw [hve, hE] at c4
  clear h hve hE
  go_enter Try.func17, Try.ntmps17
  go_wp2_with fail
  refine hn.mono ?_
  rintro e w1 ⟨rfl, hw1⟩
  obtain rfl := hw1.symm
  go_wp2
  go_ret2
  exact ⟨rfl, rfl⟩
theorem HS.then (hL : L.Ok) (h : HS w L p E T N B) (g : w.grownBy w' none) : HS w' L p E T N B := ⟨h.at_.then hL g, h.good, h.hds, h.ok⟩
theorem HS.mono (h : HS w L p E T N B) {B' : Nat} (hB : B ≤ B') : HS w L p E T N B' := ⟨⟨h.at_.head, h.at_.ent, h.at_.lst, h.at_.map.mono hB, h.at_.inv, h.at_.off⟩, h.good, h.hds, h.ok⟩
/-- The item of a handle, another one. -/
def setI (E : List (Nat × Int)) (i : Nat) (v : Int) : List (Nat × Int) := E.set i ((en E i).1, v)
theorem setI_length (i : Nat) (v : Int) : (setI E i v).length = E.length := by simp [setI]
theorem setI_get {i : Nat} (hi : i < E.length) (v : Int) (j : Nat) : en (setI E i v) j = if j = i then ((en E i).1, v) else en E j := by
  unfold setI
  split
  · rename_i e; subst e; exact en_set_self hi
  · rename_i e; exact en_set_other (fun h => e h.symm)
theorem setI_fst {i : Nat} (hi : i < E.length) (v : Int) (j : Nat) : (en (setI E i v) j).1 = (en E j).1 := by
  rw [setI_get hi]
  split
  · rename_i e; subst e; rfl
  · rfl
theorem Hds.setI (h : Hds E N) {i : Nat} (hi : i < E.length) (v : Int) : Hds (setI E i v) N := by
  constructor
  · intro a b ha hb e
    rw [setI_length] at ha hb
    rw [setI_fst hi, setI_fst hi] at e
    exact h.inj a b ha hb e
  · intro a ha
    rw [setI_length] at ha
    rw [setI_fst hi]
    exact h.below a ha
theorem fi_setI (h : Hds E N) {i : Nat} (hi : i < E.length) (v : Int) (x : Int) : fi (setI E i v) x = fi E x := by
  cases hf : fi E x with
  | none =>
    refine fi_none (fun j hj e => ?_)
    rw [setI_length] at hj
    rw [setI_fst hi] at e
    rw [fi_some h hj e] at hf
    cases hf
  | some j =>
    obtain ⟨h1, h2⟩ := fi_lt hf
    exact fi_some (h.setI hi v) (by rw [setI_length]; exact h1) (by rw [setI_fst hi]; exact h2)
set_option maxRecDepth 20000 in
set_option maxHeartbeats 4000000 in
theorem set_any (hL : L.Ok) (h : HS w L p E T N B) (hE : E.length ≤ 65536) (x v : Int) (hx : (Lit.int .i64 x).wf = true) (hv : L.ok v) :
    Calls Try.prog 18 #[.pointer (some ⟨p.h, 0, none⟩), .int .i64 x, .int .i64 v] w fun e w' => e = .returned (.bool (fi E x).isSome) ∧ ∃ T', HS w' L p ((fi E x).elim E fun i => setI E i v) T' N B ∧ Hst w w' L p p := by
  have hf := find_at h.at_ x hx
  cases hx2 : fi E x with
  | none =>
    rw [hx2] at hf
    simp only [Option.getD, Option.isSome] at hf
    have HH := hide h
    clear h
    go_enter Try.func18, Try.ntmps18
    go_wp2_with fail
    refine hf.mono ?_
    rintro e w1 ⟨rfl, hw1⟩
    obtain rfl := hw1.symm
    go_wp2
    go_ret
    exact ⟨rfl, T, HH.out, Hst.refl _ _ _⟩
  | some i =>
    rw [hx2] at hf
    simp only [Option.getD, Option.isSome] at hf
    have hi := (fi_lt hx2).1
    obtain ⟨-, -, -, -, c4, -, -⟩ := h.at_.cells
    have R0 := h.at_.raw
    rw [h.good.len] at R0
    obtain ⟨ge, ce, cure, hve, hge, hne, -, -, hte⟩ := own_row R0.ent (by omega)
    have b1 := own_cell hge hte (ecells_get hi).2
    have f1 : w.frozen? ⟨ge, i * 2 + 1, none⟩ = false := free_row hge _
    rw [hve] at c4
    obtain ⟨R1, K1⟩ := R0.setE hL hve (by omega) (i * 2 + 1) (.int .i64 v)
    have hec : (ecells E).set (i * 2 + 1) (.int .i64 v) = ecells (setI E i v) := by
      unfold setI
      rw [ecells_set]
      congr 1
      symm
      refine List.ext_getElem? (fun j => ?_)
      rw [List.getElem?_set]
      split
      · rename_i e
        subst e
        split
        · rw [(ecells_get hi).1]
        · rename_i hnl; rw [ecells_length] at hnl; omega
      · rfl
    have hA1 : HpAt (w.setCell ⟨ge, i * 2 + 1, none⟩ (.int .i64 v)) L p (setI E i v) T N B := by
      refine ⟨R1.head, ?_, ?_, ?_, R1.inv, R1.off⟩
      · rw [setI_length, ← hec]; exact R1.ent
      · rw [h.good.len]; exact R1.lst
      · exact MapAt.congr R1.map (fun y => by rw [plf_eq, plf_eq, fi_setI h.hds hi])
    have hgd := h.good.set hi ((en E i).1, v)
    have hok2 : ∀ e ∈ setI E i v, L.ok e.2 := by
      intro e he
      rcases List.mem_or_eq_of_mem_set he with h2 | h2
      · exact h.ok e h2
      · rw [h2]; exact hv
    have hst := settle_any hL hA1 (by rw [setI_length, h.good.len]) (by rw [setI_length]; omega) (i + 1) (by rw [setI_length]; omega) (fun b hb _ => by rw [setI_length] at hb ⊢; exact (h.good.sub b hb).2) hok2
    rw [show (((i + 1 : Nat) : Int)) - 1 = (i : Int) by omega] at hst
    have HF := hide (And.intro (h.hds.setI hi v) (And.intro hgd (And.intro hok2 K1)))
    clear h hgd hok2 K1 hA1 hec R0 R1 hge hte hve hx2
    generalize E.length = n at *
    go_enter Try.func18, Try.ntmps18
    go_wp2_with fail
    refine hf.mono ?_
    rintro e w1 ⟨rfl, hw1⟩
    obtain rfl := hw1.symm
    go_wp2_with fail
    refine hst.mono ?_
    clear hst hf b1 f1 c4
    rintro e w8 ⟨rfl, hA8, k8⟩
    have H8 := hide (And.intro hA8 k8)
    clear hA8 k8
    go_wp2
    go_ret
    exact ⟨rfl, _, ⟨H8.out.1, HF.out.2.1, HF.out.1, HF.out.2.2.1⟩, rfl, (HF.out.2.2.2.mono (fun _ _ e => .inr e)).trans H8.out.2 (fun j _ e => e.imp_right (fun e => .inr (.inr (.inl e)))), fun _ e => .inl e⟩
theorem HS.out_any (hL : L.Ok) (h : HS w L p E T N B) (hE : E.length ≤ 65536) (hN : N ≤ 100000000) (hB : B ≤ 100000000) (i : Nat) (hi : i < E.length) :
    Calls Try.prog 47 #[.pointer (some ⟨p.h, 0, none⟩), .int .i64 (i : Int)] w fun e w' => e = .returned (.tuple #[]) ∧ ∃ q T', HS w' L q (outE E i) T' N (B + 1) ∧ Hst w w' L p q := by
  refine (takeOut_any hL h.at_ h.good h.hds (by omega) (by omega) (by omega) i hi h.ok).mono ?_
  rintro e w' ⟨rfl, q, h1, h2, h3, h4⟩
  refine ⟨rfl, q, _, ⟨h1, h.good.out hi, h.hds.out hi, ?_⟩, h2, h3, fun j e => .inl (h4 j e)⟩
  intro e he
  have h1 : e ∈ E.set i (en E (E.length - 1)) := List.mem_of_mem_take he
  rcases List.mem_or_eq_of_mem_set h1 with h2 | h2
  · exact h.ok e h2
  · rw [h2]; exact h.ok _ (en_mem (by omega))
set_option maxRecDepth 20000 in
set_option maxHeartbeats 4000000 in
theorem drop_any (hL : L.Ok) (h : HS w L p E T N B) (hE : E.length ≤ 65536) (hN : N ≤ 100000000) (hB : B ≤ 100000000) (x : Int) (hx : (Lit.int .i64 x).wf = true) :
    Calls Try.prog 19 #[.pointer (some ⟨p.h, 0, none⟩), .int .i64 x] w fun e w' => e = .returned (.bool (fi E x).isSome) ∧ ∃ q T', HS w' L q ((fi E x).elim E fun i => outE E i) T' N (B + 1) ∧ Hst w w' L p q := by
  have hf := find_at h.at_ x hx
  cases hx2 : fi E x with
  | none =>
    rw [hx2] at hf
    simp only [Option.getD, Option.isSome] at hf
    have HH := hide h
    clear h
    go_enter Try.func19, Try.ntmps19
    go_wp2_with fail
    refine hf.mono ?_
    rintro e w1 ⟨rfl, hw1⟩
    obtain rfl := hw1.symm
    go_wp2
    go_ret
    exact ⟨rfl, p, T, HH.out.mono (Nat.le_succ _), Hst.refl _ _ _⟩
  | some i =>
    rw [hx2] at hf
    simp only [Option.getD, Option.isSome] at hf
    have hi := (fi_lt hx2).1
    have ho := h.out_any hL hE hN hB i hi
    clear h hx2
    go_enter Try.func19, Try.ntmps19
    go_wp2_with fail
    refine hf.mono ?_
    rintro e w1 ⟨rfl, hw1⟩
    obtain rfl := hw1.symm
    go_wp2_with fail
    refine ho.mono ?_
    clear ho hf
    rintro e w8 ⟨rfl, hA8⟩
    have H8 := hide hA8
    clear hA8
    go_wp2
    go_ret
    exact ⟨rfl, H8.out⟩
theorem HS.least (h : HS w L p E T N B) : Calls Try.prog 38 #[.pointer (some ⟨p.h, 0, none⟩)] w fun e w' => e = .returned (.tuple #[.int .i64 (if 0 < E.length then (en E (tn T 0)).2 else 0), .int .i64 (if 0 < E.length then ((en E (tn T 0)).1 : Int) else 0), .bool (decide (0 < E.length))]) ∧ w.grownBy w' none :=
  least_at h.at_ h.good.len (fun e => (h.good.sub 0 e).2)
set_option maxRecDepth 20000 in
set_option maxHeartbeats 4000000 in
theorem pop_any (hL : L.Ok) (h : HS w L p E T N B) (hE : E.length ≤ 65536) (hN : N ≤ 100000000) (hB : B ≤ 100000000) :
    Calls Try.prog 16 #[.pointer (some ⟨p.h, 0, none⟩)] w fun e w' => e = .returned (.tuple #[.int .i64 (if 0 < E.length then (en E (tn T 0)).2 else 0), .int .i64 (if 0 < E.length then ((en E (tn T 0)).1 : Int) else 0), .bool (decide (0 < E.length))]) ∧ ∃ q T', HS w' L q (if 0 < E.length then outE E (tn T 0) else E) T' N (B + 1) ∧ Hst w w' L p q := by
  have hl := h.least
  by_cases hz : 0 < E.length
  · simp only [hz, decide_true] at hl ⊢
    have hi := (h.good.sub 0 hz).2
    have HO : Hid (∀ w1, w.grownBy w1 none → Calls Try.prog 47 #[.pointer (some ⟨p.h, 0, none⟩), .int .i64 (tn T 0 : Int)] w1 fun e w' => e = .returned (.tuple #[]) ∧ ∃ q T', HS w' L q (outE E (tn T 0)) T' N (B + 1) ∧ Hst w w' L p q) := by
      intro w1 hg
      refine ((h.then hL hg).out_any hL hE hN hB (tn T 0) hi).mono ?_
      rintro e w' ⟨rfl, q, T', h1, h2⟩
      exact ⟨rfl, q, T', h1, (Hst.grown hg L p).trans h2⟩
    have hx : (Lit.int .i64 ((en E (tn T 0)).1 : Int)).wf = true := wf_i64 (by omega) (by have := h.hds.at hi; omega)
    have k3 : Try.prog.underlying 3 = some (.int .i64) := by first | exact Try.underlying3 | kernel_rfl
    have HG : Hid (∀ w1, w.grownBy w1 none → w1.cell? ⟨p.h, 6, none⟩ = some (.map (some p.mb)) ∧ (Instr.lookup 55 (.map (some p.mb)) (.int .i64 ((en E (tn T 0)).1 : Int)) false).run Try.prog w1 = .ok (.int .i64 (tn T 0 : Int)) w1) := by
      intro w1 hg
      refine ⟨(h.then hL hg).at_.cells.2.2.2.2.2.2, ?_⟩
      have := (h.then hL hg).at_.map.get k3 Try.underlying55 (zero3 w1) hx
      rw [plf_eq, fi_at h.hds hi] at this
      exact this
    clear h
    generalize (en E (tn T 0)).1 = a at *
    generalize (en E (tn T 0)).2 = b at *
    generalize hE2 : outE E (tn T 0) = E2 at *
    clear hE2
    generalize tn T 0 = i at *
    go_enter Try.func16, Try.ntmps16
    go_wp2_with fail
    refine hl.mono ?_
    rintro e w1 ⟨rfl, hg1⟩
    obtain ⟨c6, hlk⟩ := HG.out w1 hg1
    have ho := HO.out w1 hg1
    clear hl HG HO hg1
    go_wp2_with fail
    refine ho.mono ?_
    clear ho
    rintro e w8 ⟨rfl, hA8⟩
    have H8 := hide hA8
    clear hA8
    go_wp2
    go_ret3
    obtain ⟨q, T', h1, h2⟩ := H8.out
    exact ⟨rfl, q, ⟨T', h1⟩, h2⟩
  · simp only [if_neg hz, decide_eq_false hz] at hl ⊢
    have HH := hide h
    clear h
    go_enter Try.func16, Try.ntmps16
    go_wp2_with fail
    refine hl.mono ?_
    rintro e w1 ⟨rfl, hg1⟩
    have HG1 := hide hg1
    clear hg1
    go_wp2
    go_ret3
    exact ⟨rfl, p, T, (HH.out.then hL HG1.out).mono (Nat.le_succ _), Hst.grown HG1.out L p⟩
theorem good_nil (lt : Int → Int → Bool) : Good lt [] [] := ⟨rfl, fun b hb => by simp at hb⟩
theorem eql_nilFunc (fn : Fn) (a b : Array Value) (w : World) : (binOp .eql 48 (.func fn a b) .nilFunc).run Try.prog w = .ok (.bool false) w := by
  have h : ∀ d : Nat, (Op.equalIn (d + 1) 48 (.func fn a b) .nilFunc).run Try.prog w = .ok false w := fun d => by
    simp [Op.equalIn, run_underlying Try.underlying48]
  simp only [binOp]
  simp [Op.equal, Op.maxDepth, h 9999]
set_option maxRecDepth 20000 in
/-- A new heap. -/
theorem new_any (hL : L.Ok) (hI : L.I w) : Calls Try.prog 22 #[L.fv] w fun e w' => ∃ p : Hp, e = .returned (.pointer (some ⟨p.h, 0, none⟩)) ∧ HS w' L p [] [] 0 0 ∧ w.grownBy w' none ∧ (∀ j, p.own j → w.heap.size ≤ j) := by
  have HP : Hid (∀ w', w' = (w.alloc (.map #[] 0)).alloc (.cells #[.pointer (some ⟨w.heap.size + 1, 0, none⟩), .func (.func L.k) #[] L.cap, .bool false, .int .i64 0, .slice none 0 0, .slice none 0 0, .map (some w.heap.size)] 57) → HS w' L ⟨w.heap.size + 1, .slice none 0 0, .slice none 0 0, w.heap.size⟩ [] [] 0 0 ∧ w.grownBy w' none ∧ (∀ j, Hp.own ⟨w.heap.size + 1, .slice none 0 0, .slice none 0 0, w.heap.size⟩ j → w.heap.size ≤ j)) := by
    rintro w' rfl
    have g1 := World.grownBy_alloc w (.map #[] 0) none
    have g2 := World.grownBy_alloc (w.alloc (.map #[] 0)) (.cells #[.pointer (some ⟨w.heap.size + 1, 0, none⟩), .func (.func L.k) #[] L.cap, .bool false, .int .i64 0, .slice none 0 0, .slice none 0 0, .map (some w.heap.size)] 57) none
    have g := grown_trans g1 g2
    have ho : ∀ j, Hp.own ⟨w.heap.size + 1, .slice none 0 0, .slice none 0 0, w.heap.size⟩ j → w.heap.size ≤ j := by
      rintro j (e | e | e | e)
      · have : j = w.heap.size + 1 := e
        omega
      · cases e
      · cases e
      · have : j = w.heap.size := e
        omega
    refine ⟨⟨⟨?_, World.ownsRow_nil _ _ _ _, World.ownsRow_nil _ _ _ _, ?_, hL.keep w _ (fun _ => False) hI (Kept.new g _) (fun _ e => e.elim), fun i hi hF => ?_⟩, good_nil _, ⟨fun i j hi => by simp at hi, fun i hi => by simp at hi⟩, fun e he => by simp at he⟩, g, ho⟩
    · have := heap_alloc_new (w.alloc (.map #[] 0)) (.cells #[.pointer (some ⟨w.heap.size + 1, 0, none⟩), .func (.func L.k) #[] L.cap, .bool false, .int .i64 0, .slice none 0 0, .slice none 0 0, .map (some w.heap.size)] 57)
      rw [World.size_alloc] at this
      exact this
    · have hm := heap_alloc_new w (.map #[] 0)
      have hm2 := (g2.block _ (row_lt hm) (by simp)).trans hm
      exact (mapAt_made hm2).congr (fun x => rfl)
    · have h1 := hL.below w i hI hF
      have h2 := ho i hi
      omega
  unfold Les.fv
  have hq := eql_nilFunc (.func L.k) #[] L.cap
  have hmm := @run_makeMap Try.prog
  generalize L.cap = cap at *
  go_enter Try.func22, Try.ntmps22
  go_wp2
  go_ret
  exact ⟨⟨w.heap.size + 1, .slice none 0 0, .slice none 0 0, w.heap.size⟩, rfl, HP.out _ rfl⟩
end
end Go.Proofs.Ytkbhjdjdjfdikaa
