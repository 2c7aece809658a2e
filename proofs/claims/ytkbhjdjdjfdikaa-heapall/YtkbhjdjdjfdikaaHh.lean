/- An item goes: the walk. -/
import Derived.Test.YtkbhjdjdjfdikaaHg
namespace Go.Proofs.Ytkbhjdjdjfdikaa
open Go.RowKit Ap
attribute [local go_sem ↓] Go.wp_at_zero Go.wp_at_succ
section
variable {w w' : World} {L : Les} {p : Hp} {E : List (Nat × Int)} {T : List Nat} {N B : Nat} {ne nt : Nat} {cs ts : List Value} {f : Int → Option Value}
theorem HpR.ecell (h : HpR w L p ne cs nt ts N B f) {g cap : Nat} (hv : p.ve = .slice (some ⟨g, 0, none⟩) ne cap) (hne : 0 < ne) : (∀ j u, cs[j]? = some u → w.cell? ⟨g, j, none⟩ = some u) ∧ (∀ j, w.frozen? ⟨g, j, none⟩ = false) := by
  obtain ⟨g', cap', cur, hv', hg, hn, hm, hs, ht⟩ := own_row h.ent hne
  rw [hv] at hv'
  cases hv'
  exact ⟨fun j u hu => own_cell hg ht hu, fun j => free_row hg j⟩
set_option maxRecDepth 20000 in
set_option maxHeartbeats 8000000 in
theorem takeOut_any (hL : L.Ok) (h : HpAt w L p E T N B) (hG : Good L.lt E T) (hH : Hds E N) (hE : E.length ≤ 100000) (hN : N ≤ 1000000000) (hB : B ≤ 1000000000) (i : Nat) (hi : i < E.length) (hok : ∀ e ∈ E, L.ok e.2) :
    Calls Try.prog 47 #[.pointer (some ⟨p.h, 0, none⟩), .int .i64 (i : Int)] w fun e w' => e = .returned (.tuple #[]) ∧ ∃ q, HpAt w' L q (outE E i) (outT L.lt E T i) N (B + 1) ∧ q.h = p.h ∧ Kept w w' (fun j => L.S j ∨ p.own j) ∧ (∀ j, q.own j → p.own j) := by
  obtain ⟨ge, ce, cure, hve, hge, hne, -, -, hte⟩ := own_row h.ent (by omega)
  obtain ⟨gl, cl, curl, hvl, hgl, hnl, -, -, htl⟩ := own_row h.lst (by have := hG.len; omega)
  obtain ⟨m, hm⟩ : ∃ m, E.length = m + 1 := ⟨E.length - 1, by omega⟩
  have R0 := h.raw
  rw [hG.len] at R0 hvl hnl
  have hlast : en E (E.length - 1) = en E m := by rw [hm]; rfl
  obtain ⟨c4, c5, c6⟩ := R0.cells
  have a0 := own_cell hge hte (ecells_get hi).1
  have hx : (Lit.int .i64 ((en E i).1 : Int)).wf = true := wf_i64 (by omega) (by have := hH.at hi; omega)
  have k3 : Try.prog.underlying 3 = some (.int .i64) := by first | exact Try.underlying3 | kernel_rfl
  have hdel : ∀ ty, ∃ w1, (Builtin.delete_ #[55, 3] ty #[.map (some p.mb), .int .i64 ((en E i).1 : Int)]).run Try.prog w.drew = .ok (.tuple #[]) w1 ∧ MapAt w1 Try.prog 3 p.mb B (fun y => if y = ((en E i).1 : Int) then none else plf E y) ∧ w.drew.grownBy w1 (some p.mb) := fun ty => (R0.then hL (grown_drew w none)).map.drop k3 Try.underlying55 hx ty
  obtain ⟨w1, hrun, hmap1, hg1⟩ := hdel 0
  obtain ⟨R1, K1⟩ := (R0.then hL (grown_drew w none)).mapped hL hg1 hmap1
  have HR0 := hide (And.intro R0 (And.intro hG (And.intro hH (And.intro hok (And.intro hve hvl)))))
  have HR1 := hide (And.intro R1 ((Kept.new (grown_drew w none) p.own).trans K1 (fun _ _ e => e)))
  rw [hve, hm] at c4
  rw [hm] at hne hnl hi
  clear R0 R1 K1 hmap1 hg1 hdel h hG hH hok hve hvl hge hte hgl htl c5
  have HM := hide hm
  generalize hE1 : en E i = x at *
  have HE1 := hide hE1
  clear hE1
  by_cases him : i < m
  · go_enter Try.func47, Try.ntmps47
    go_wp2
    go_region
    clear hrun hx a0 c4 c6
    obtain ⟨F1, F2⟩ := HR1.out.1.ecell HR0.out.2.2.2.2.1 (by omega)
    have hgm := ecells_get (E := E) (i := m) (by have := HM.out; omega)
    have hgi := ecells_get (E := E) (i := i) (by have := HM.out; omega)
    have b0 := F1 _ _ hgm.1
    have b1 := F1 _ _ hgm.2
    have a0 := F1 _ _ hgi.1
    have a1 := F1 _ _ hgi.2
    have f0 := F2 (i * 2)
    have f1 := F2 (i * 2 + 1)
    obtain ⟨c4, -, c6⟩ := HR1.out.1.cells
    rw [HR0.out.2.2.2.2.1, HM.out] at c4
    clear hgm hgi F1 F2
    generalize hE2 : en E m = y at *
    have HE2 := hide hE2
    clear hE2
    go_wp2
    go_region
    clear a0 a1 b0 b1 c4 c6 f0 f1
    have hS1 := HR1.out.1.setE hL HR0.out.2.2.2.2.1 (by omega) (i * 2) (.int .i64 (y.1 : Int))
    have hS2 := hS1.1.setE hL HR0.out.2.2.2.2.1 (by omega) (i * 2 + 1) (.int .i64 y.2)
    have hS3 := hS2.1.then hL (grown_drew _ none)
    have kS3 := ((HR1.out.2.trans hS1.2 (fun _ _ e => e)).trans hS2.2 (fun _ _ e => e)).trans (Kept.new (grown_drew _ none) p.own) (fun _ _ e => e)
    generalize ((w1.setCell ⟨ge, i * 2, none⟩ (.int .i64 (y.1 : Int))).setCell ⟨ge, i * 2 + 1, none⟩ (.int .i64 y.2)).drew = w2 at *
    clear hS1 hS2
    have HR2 := hide (And.intro hS3 kS3)
    clear hS3 kS3
    obtain ⟨F1, F2⟩ := HR2.out.1.ecell HR0.out.2.2.2.2.1 (by omega)
    have hlE : (ecells E).length = (m + 1) * 2 := by rw [ecells_length, HM.out]
    have b0 := F1 (i * 2) (.int .i64 (y.1 : Int)) (by rw [List.getElem?_set_ne (by omega), List.getElem?_set_self (by omega)])
    obtain ⟨c4, -, c6⟩ := HR2.out.1.cells
    rw [HR0.out.2.2.2.2.1, HM.out] at c4
    have hy : (Lit.int .i64 (y.1 : Int)).wf = true := wf_i64 (by omega) (by have := HR0.out.2.2.1.at (i := m) (by have := HM.out; omega); rw [HE2.out] at this; omega)
    obtain ⟨w3, hrun3, hmap3, hg3⟩ := (HR2.out.1.then hL (grown_drew w2 none)).map.store k3 Try.underlying55 (by unfold maxLen; omega) hy (.int .i64 (i : Int))
    obtain ⟨R3, K3⟩ := (HR2.out.1.then hL (grown_drew w2 none)).mapped hL hg3 hmap3
    have HR3 := hide (And.intro R3 ((HR2.out.2.trans (Kept.new (grown_drew w2 none) p.own) (fun _ _ e => e)).trans K3 (fun _ _ e => e)))
    clear R3 K3 hmap3 hg3 F1 F2 hlE
    go_wp2
    go_region
    clear hrun3 b0 c4 c6 hy
    obtain ⟨c4, c5, -⟩ := HR3.out.1.cells
    rw [HR0.out.2.2.2.2.1, HM.out] at c4
    rw [HR0.out.2.2.2.2.2, HM.out] at c5
    obtain ⟨F1, F2⟩ := HR3.out.1.ecell HR0.out.2.2.2.2.1 (by omega)
    have hlE : (((ecells E).set (i * 2) (.int .i64 (y.1 : Int))).set (i * 2 + 1) (.int .i64 y.2)).length = (m + 1) * 2 := by rw [List.length_set, List.length_set, ecells_length, HM.out]
    have hx0 : ∃ u, w3.cell? ⟨ge, m * 2, none⟩ = some u := ⟨_, F1 _ _ (List.getElem?_eq_getElem (by omega))⟩
    have hx1 : ∃ u, w3.cell? ⟨ge, m * 2 + 1, none⟩ = some u := ⟨_, F1 _ _ (List.getElem?_eq_getElem (by omega))⟩
    obtain ⟨u0, d0⟩ := hx0
    obtain ⟨u1, d1⟩ := hx1
    have f0 := F2 (m * 2)
    have f1 := F2 (m * 2 + 1)
    have ph4 : w3.frozen? ⟨p.h, 4, none⟩ = false := free_row HR3.out.1.head 4
    have ph5 : w3.frozen? ⟨p.h, 5, none⟩ = false := free_row HR3.out.1.head 5
    clear F1 F2 hlE
    --TAIL1
    go_wp2
    have hZ1 := HR3.out.1.setE hL HR0.out.2.2.2.2.1 (by omega) (m * 2) (.int .i64 0)
    have hZ2 := hZ1.1.setE hL HR0.out.2.2.2.2.1 (by omega) (m * 2 + 1) (.int .i64 0)
    have kZ2 := (HR3.out.2.trans hZ1.2 (fun _ _ e => e)).trans hZ2.2 (fun _ _ e => e)
    clear d0 d1 f0 f1 c4 c5
    generalize ((w3.setCell ⟨ge, m * 2, none⟩ (.int .i64 0)).setCell ⟨ge, m * 2 + 1, none⟩ (.int .i64 0)) = w4 at *
    have HR4 := hide (And.intro hZ2.1 kZ2)
    clear hZ1 hZ2 kZ2
    obtain ⟨c4, c5, -⟩ := HR4.out.1.cells
    rw [HR0.out.2.2.2.2.1, HM.out] at c4
    rw [HR0.out.2.2.2.2.2, HM.out] at c5
    have ph4 : w4.frozen? ⟨p.h, 4, none⟩ = false := free_row HR4.out.1.head 4
    have ph5 : w4.frozen? ⟨p.h, 5, none⟩ = false := free_row HR4.out.1.head 5
    have hsE := slice_E (some ⟨ge, 0, none⟩) (m + 1) ce m (by omega)
    have hsT := slice_T (some ⟨gl, 0, none⟩) (m + 1) cl m (by omega)
    go_region
    clear hsE hsT ph4 ph5 c4 c5
    have hC := HR4.out.1.cut hL HR0.out.2.2.2.2.1 HR0.out.2.2.2.2.2 (m := m) (by have := HM.out; omega) (by have := HM.out; omega) rfl
    have hC2 := hC.1.then hL (grown_drew _ none)
    have kC := (HR4.out.2.trans hC.2 (fun _ _ e => e)).trans (Kept.new (grown_drew _ none) p.own) (fun _ _ e => e)
    generalize ((w4.setCell ⟨p.h, 4, none⟩ (.slice (some ⟨ge, 0, none⟩) m ce)).setCell ⟨p.h, 5, none⟩ (.slice (some ⟨gl, 0, none⟩) m cl)).drew = w5 at *
    obtain ⟨q, hq⟩ : ∃ q : Hp, q = ⟨p.h, .slice (some ⟨ge, 0, none⟩) m ce, .slice (some ⟨gl, 0, none⟩) m cl, p.mb⟩ := ⟨_, rfl⟩
    have hqh : q.h = p.h := by rw [hq]
    have hqo : ∀ j, q.own j → p.own j := by
      rw [hq]
      have e1 : p.ve.ownBlock = some ge := by rw [HR0.out.2.2.2.2.1]; rfl
      have e2 : p.vl.ownBlock = some gl := by rw [HR0.out.2.2.2.2.2]; rfl
      rintro j (e | e | e | e)
      · exact .inl e
      · exact .inr (.inl (by rw [e1]; exact e))
      · exact .inr (.inr (.inl (by rw [e2]; exact e)))
      · exact .inr (.inr (.inr e))
    rw [← hq] at hC2
    have hoL : (outE E i).length = m := by rw [outE_length, HM.out]; rfl
    have hTL : (T.take m).length = m := by rw [List.length_take, HR0.out.2.1.len, HM.out]; omega
    have hA : HpAt w5 L q (outE E i) (T.take m) N (B + 1) := by
      refine ⟨hC2.head, ?_, ?_, ?_, hC2.inv, hC2.off⟩
      · have e := hC2.ent
        rw [hoL]
        have e2 := ecells_out (E := E) (i := i) (.int .i64 0) (.int .i64 0)
        rw [HM.out, show m + 1 - 1 = m from rfl, HE2.out] at e2
        rw [e2] at e
        exact e
      · have e := hC2.lst
        rw [hTL]
        simpa [tcells, List.map_take] using e
      · refine MapAt.congr hC2.map (fun x2 => ?_)
        have e2 := plf_out HR0.out.2.2.1 (i := i) (by have := HM.out; omega) x2
        rw [HM.out, show m + 1 - 1 = m from rfl, HE2.out, HE1.out] at e2
        exact e2
    have hok2 : ∀ e ∈ outE E i, L.ok e.2 := by
      intro e he
      have h1 : e ∈ E.set i (en E (E.length - 1)) := List.mem_of_mem_take he
      rcases List.mem_or_eq_of_mem_set h1 with h2 | h2
      · exact HR0.out.2.2.2.1 e h2
      · rw [h2]; exact HR0.out.2.2.2.1 _ (en_mem (by have := HM.out; omega))
    have hin := HR0.out.2.1.out_in
    rw [HM.out] at hin
    have hst := settle_any hL hA (by rw [hTL, hoL]) (by rw [hoL]; have := HM.out; omega) ((m + 1) / 2) (by rw [hoL]; omega) (by rw [hoL]; exact hin) hok2
    have hTo : outT L.lt E T i = stl L.lt (outE E i) (stl L.lt (outE E i) (T.take m) ((m + 1) / 2)) (i + 1) := by
      unfold outT
      rw [HM.out, if_pos (by omega)]
      rfl
    have hin2 := stl_in (lt := L.lt) (E := outE E i) (T := T.take m) (k := (m + 1) / 2) (by rw [hoL]; omega) (by rw [hTL, hoL]) (by rw [hoL]; exact hin)
    have HSt2 : Hid (∀ w6, HpAt w6 L q (outE E i) (stl L.lt (outE E i) (T.take m) ((m + 1) / 2)) N (B + 1) → Calls Try.prog 48 #[.pointer (some ⟨p.h, 0, none⟩), .int .i64 (i : Int)] w6 fun e w' => e = .returned (.tuple #[]) ∧ HpAt w' L q (outE E i) (outT L.lt E T i) N (B + 1) ∧ Kept w6 w' (fun j => L.S j ∨ p.own j)) := by
      intro w6 h6
      have := settle_any hL h6 (by rw [stl_length, hTL, hoL]) (by rw [hoL]; have := HM.out; omega) (i + 1) (by rw [hoL]; omega) (fun b hb _ => hin2 b hb) hok2
      rw [show (((i + 1 : Nat) : Int)) - 1 = (i : Int) by omega, hqh, ← hTo] at this
      refine this.mono ?_
      rintro e w' ⟨h1, h2, h3⟩
      exact ⟨h1, h2, h3.mono (fun j _ e => e.imp_right (fun e => hqo j (.inr (.inr (.inl e)))))⟩
    have hab := above_any m w5 (by have := HM.out; omega)
    rw [hqh] at hst
    have HQ := hide (And.intro hqh (And.intro hqo (And.intro kC hTo)))
    clear hqh hqo kC hTo hA hok2 hin hoL hTL hC hC2 hq
    generalize (m + 1) / 2 = k2 at *
    go_wp2_with fail
    refine hab.mono ?_
    rintro e w6 ⟨rfl, hw6⟩
    obtain rfl := hw6.symm
    go_wp2_with fail
    refine hst.mono ?_
    rintro e w7 ⟨rfl, hA7, k7⟩
    have HA7 := hide (And.intro hA7 k7)
    clear hA7 k7
    clear hst hab
    have hs2 := HSt2.out _ HA7.out.1
    go_wp2_with fail
    refine hs2.mono ?_
    rintro e w8 ⟨rfl, hA8, k8⟩
    have HA8 := hide (And.intro hA8 k8)
    clear hA8 k8 hs2
    go_wp2
    go_end0
    exact ⟨rfl, q, HA8.out.1, HQ.out.1, ((HQ.out.2.2.1.mono (fun _ _ e => .inr e)).trans HA7.out.2 (fun j _ e => e.imp_right (fun e => HQ.out.2.1 j (.inr (.inr (.inl e)))))).trans HA8.out.2 (fun _ _ e => e), HQ.out.2.1⟩
  · obtain rfl : i = m := by omega
    go_enter Try.func47, Try.ntmps47
    go_wp2
    go_region
    clear hrun hx a0 c4 c6
    have HR3 : Hid (HpR w1 L p E.length (ecells E) E.length (tcells T) N (B + 1) (fun y => if y = (x.1 : Int) then none else plf E y) ∧ Kept w w1 p.own) := ⟨⟨HR1.out.1.head, HR1.out.1.ent, HR1.out.1.lst, HR1.out.1.map.mono (Nat.le_succ _), HR1.out.1.inv, HR1.out.1.off⟩, HR1.out.2⟩
    obtain ⟨m, hmi⟩ : ∃ m, m = i := ⟨_, rfl⟩
    have HMI := hide hmi
    obtain ⟨c4, c5, -⟩ := HR3.out.1.cells
    rw [HR0.out.2.2.2.2.1, HM.out] at c4
    rw [HR0.out.2.2.2.2.2, HM.out] at c5
    obtain ⟨F1, F2⟩ := HR3.out.1.ecell HR0.out.2.2.2.2.1 (by omega)
    have hlE : (ecells E).length = (i + 1) * 2 := by rw [ecells_length, HM.out]
    have hx0 : ∃ u, w1.cell? ⟨ge, i * 2, none⟩ = some u := ⟨_, F1 _ _ (List.getElem?_eq_getElem (by omega))⟩
    have hx1 : ∃ u, w1.cell? ⟨ge, i * 2 + 1, none⟩ = some u := ⟨_, F1 _ _ (List.getElem?_eq_getElem (by omega))⟩
    obtain ⟨u0, d0⟩ := hx0
    obtain ⟨u1, d1⟩ := hx1
    have f0 := F2 (i * 2)
    have f1 := F2 (i * 2 + 1)
    clear F1 F2 hlE hmi HMI m
    go_wp2
    have hZ1 := HR3.out.1.setE hL HR0.out.2.2.2.2.1 (by omega) (i * 2) (.int .i64 0)
    have hZ2 := hZ1.1.setE hL HR0.out.2.2.2.2.1 (by omega) (i * 2 + 1) (.int .i64 0)
    have kZ2 := (HR3.out.2.trans hZ1.2 (fun _ _ e => e)).trans hZ2.2 (fun _ _ e => e)
    clear d0 d1 f0 f1 c4 c5
    generalize ((w1.setCell ⟨ge, i * 2, none⟩ (.int .i64 0)).setCell ⟨ge, i * 2 + 1, none⟩ (.int .i64 0)) = w4 at *
    have HR4 := hide (And.intro hZ2.1 kZ2)
    clear hZ1 hZ2 kZ2
    obtain ⟨c4, c5, -⟩ := HR4.out.1.cells
    rw [HR0.out.2.2.2.2.1, HM.out] at c4
    rw [HR0.out.2.2.2.2.2, HM.out] at c5
    have ph4 : w4.frozen? ⟨p.h, 4, none⟩ = false := free_row HR4.out.1.head 4
    have ph5 : w4.frozen? ⟨p.h, 5, none⟩ = false := free_row HR4.out.1.head 5
    have hsE := slice_E (some ⟨ge, 0, none⟩) (i + 1) ce i (by omega)
    have hsT := slice_T (some ⟨gl, 0, none⟩) (i + 1) cl i (by omega)
    go_region
    clear hsE hsT ph4 ph5 c4 c5
    have hC := HR4.out.1.cut hL HR0.out.2.2.2.2.1 HR0.out.2.2.2.2.2 (m := i) (by have := HM.out; omega) (by have := HM.out; omega) rfl
    have hC2 := hC.1.then hL (grown_drew _ none)
    have kC := (HR4.out.2.trans hC.2 (fun _ _ e => e)).trans (Kept.new (grown_drew _ none) p.own) (fun _ _ e => e)
    generalize ((w4.setCell ⟨p.h, 4, none⟩ (.slice (some ⟨ge, 0, none⟩) i ce)).setCell ⟨p.h, 5, none⟩ (.slice (some ⟨gl, 0, none⟩) i cl)).drew = w5 at *
    obtain ⟨q, hq⟩ : ∃ q : Hp, q = ⟨p.h, .slice (some ⟨ge, 0, none⟩) i ce, .slice (some ⟨gl, 0, none⟩) i cl, p.mb⟩ := ⟨_, rfl⟩
    have hqh : q.h = p.h := by rw [hq]
    have hqo : ∀ j, q.own j → p.own j := by
      rw [hq]
      have e1 : p.ve.ownBlock = some ge := by rw [HR0.out.2.2.2.2.1]; rfl
      have e2 : p.vl.ownBlock = some gl := by rw [HR0.out.2.2.2.2.2]; rfl
      rintro j (e | e | e | e)
      · exact .inl e
      · exact .inr (.inl (by rw [e1]; exact e))
      · exact .inr (.inr (.inl (by rw [e2]; exact e)))
      · exact .inr (.inr (.inr e))
    rw [← hq] at hC2
    have hoL : (outE E i).length = i := by rw [outE_length, HM.out]; rfl
    have hTL : (T.take i).length = i := by rw [List.length_take, HR0.out.2.1.len, HM.out]; omega
    have hA : HpAt w5 L q (outE E i) (T.take i) N (B + 1) := by
      refine ⟨hC2.head, ?_, ?_, ?_, hC2.inv, hC2.off⟩
      · have e := hC2.ent
        rw [hoL]
        have e2 := ecells_out_last (E := E) (.int .i64 0) (.int .i64 0)
        rw [HM.out, show i + 1 - 1 = i from rfl] at e2
        rw [e2] at e
        exact e
      · have e := hC2.lst
        rw [hTL]
        simpa [tcells, List.map_take] using e
      · refine MapAt.congr hC2.map (fun x2 => ?_)
        have e2 := plf_out_last HR0.out.2.2.1 (by have := HM.out; omega) x2
        rw [HM.out, show i + 1 - 1 = i from rfl, HE1.out] at e2
        exact e2
    have hok2 : ∀ e ∈ outE E i, L.ok e.2 := by
      intro e he
      have h1 : e ∈ E.set i (en E (E.length - 1)) := List.mem_of_mem_take he
      rcases List.mem_or_eq_of_mem_set h1 with h2 | h2
      · exact HR0.out.2.2.2.1 e h2
      · rw [h2]; exact HR0.out.2.2.2.1 _ (en_mem (by have := HM.out; omega))
    have hin := HR0.out.2.1.out_in
    rw [HM.out] at hin
    have hst := settle_any hL hA (by rw [hTL, hoL]) (by rw [hoL]; have := HM.out; omega) ((i + 1) / 2) (by rw [hoL]; omega) (by rw [hoL]; exact hin) hok2
    have hTo : outT L.lt E T i = stl L.lt (outE E i) (T.take i) ((i + 1) / 2) := by
      unfold outT
      rw [HM.out, if_neg (by omega)]
      rfl
    have hab := above_any i w5 (by have := HM.out; omega)
    rw [hqh] at hst
    have HQ := hide (And.intro hqh (And.intro hqo (And.intro kC hTo)))
    clear hqh hqo kC hTo hA hok2 hin hoL hTL hC hC2 hq
    generalize (i + 1) / 2 = k2 at *
    go_wp2_with fail
    refine hab.mono ?_
    rintro e w6 ⟨rfl, hw6⟩
    obtain rfl := hw6.symm
    go_wp2_with fail
    refine hst.mono ?_
    rintro e w7 ⟨rfl, hA7, k7⟩
    have HA7 := hide (And.intro hA7 k7)
    clear hA7 k7
    clear hst hab
    go_wp2
    go_end0
    refine ⟨rfl, q, ?_, HQ.out.1, (HQ.out.2.2.1.mono (fun _ _ e => .inr e)).trans HA7.out.2 (fun j _ e => e.imp_right (fun e => HQ.out.2.1 j (.inr (.inr (.inl e))))), HQ.out.2.1⟩
    rw [HQ.out.2.2.2]
    exact HA7.out.1
end
end Go.Proofs.Ytkbhjdjdjfdikaa
