/- Texts joined: JnAg. -/
import Derived.Test.YtinkkocleognbaaGreatDoorJuAf
import Derived.Test.YtinkkocleognbaaGreatDoorJuAa
import Derived.Deep.CutRange
import Derived.Deep.DeepCutAuto
import Derived.Test.YtinkkocleognbaaGreatDoorJuAe
/- Texts joined: HpHh, HpHi, HpHj, Bk3. -/
/- An item goes: the walk. -/
namespace Go.Proofs.YtinkkocleognbaaGreatDoor.Hp
open Go.RowKit
attribute [local go_sem ↓] Go.wp_at_zero Go.wp_at_succ
section
variable {w w' : World} {L : Les} {p : Hp} {E : List (Nat × Int)} {T : List Nat} {N B : Nat} {ne nt : Nat} {cs ts : List Value} {f : Int → Option Value}
theorem HpR.ecell (h : HpR w L p ne cs nt ts N B f) {g cap : Nat} (hv : p.ve = .slice (some ⟨g, 0, none⟩) ne cap) (hne : 0 < ne) : (∀ j u, cs[j]? = some u → w.cell? ⟨g, j, none⟩ = some u) ∧ (∀ j, w.frozen? ⟨g, j, none⟩ = false) := by
  obtain ⟨g', cap', cur, hv', hg, hn, hm, hs, ht⟩ := own_row h.ent hne
  rw [hv] at hv'
  cases hv'
  exact ⟨fun j u hu => own_cell hg ht hu, fun j => free_row hg j⟩
set_option maxRecDepth 20000 in
set_option maxHeartbeats 8000000 in
theorem takeOut_any (hL : L.Ok) (h : HpAt w L p E T N B) (hG : Good L.lt E T) (hH : Hds E N) (hE : E.length ≤ 100000) (hN : N ≤ 1000000000) (hB : B ≤ 1000000000) (i : Nat) (hi : i < E.length) (hok : ∀ e ∈ E, L.ok e.2) :
    Calls Tryz.prog 155 #[.pointer (some ⟨p.h, 0, none⟩), .int .i64 (i : Int)] w fun e w' => e = .returned (.tuple #[]) ∧ ∃ q, HpAt w' L q (outE E i) (outT L.lt E T i) N (B + 1) ∧ (q.h = p.h ∧ q.mb = p.mb) ∧ Kept w w' (fun j => L.S j ∨ p.own j) ∧ (∀ j, q.own j → p.own j) := by
  obtain ⟨ge, ce, cure, hve, hge, hne, -, -, hte⟩ := own_row h.ent (by omega)
  obtain ⟨gl, cl, curl, hvl, hgl, hnl, -, -, htl⟩ := own_row h.lst (by have := hG.len; omega)
  obtain ⟨m, hm⟩ : ∃ m, E.length = m + 1 := ⟨E.length - 1, by omega⟩
  have R0 := h.raw
  rw [hG.len] at R0 hvl hnl
  have hlast : en E (E.length - 1) = en E m := by rw [hm]; rfl
  obtain ⟨c4, c5, c6⟩ := R0.cells
  have a0 := own_cell hge hte (ecells_get hi).1
  have hx : (Lit.int .i64 ((en E i).1 : Int)).wf = true := wf_i64 (by omega) (by have := hH.at hi; omega)
  have k3 : Tryz.prog.underlying 3 = some (.int .i64) := by first | exact Tryz.underlying3 | kernel_rfl
  have hdel : ∀ ty, ∃ w1, (Builtin.delete_ #[195, 3] ty #[.map (some p.mb), .int .i64 ((en E i).1 : Int)]).run Tryz.prog w.drew = .ok (.tuple #[]) w1 ∧ MapAt w1 Tryz.prog 3 p.mb B (fun y => if y = ((en E i).1 : Int) then none else plf E y) ∧ w.drew.grownBy w1 (some p.mb) := fun ty => (R0.then hL (grown_drew w none)).map.drop k3 Tryz.underlying195 hx ty
  obtain ⟨w1, hrun, hmap1, hg1⟩ := hdel 0
  obtain ⟨R1, K1⟩ := (R0.then hL (grown_drew w none)).mapped hL hg1 hmap1
  have HR0 := hide (And.intro R0 (And.intro hG (And.intro hH (And.intro hok (And.intro hve hvl)))))
  have HR1 := hide (And.intro R1 ((Kept.new (grown_drew w none) p.own).trans K1 (fun _ _ e => e)))
  rw [hve, hm] at c4
  rw [hm] at hne hnl hi
  clear R0 R1 K1 hmap1 hg1 hdel h hG hH hok hve hvl hge hte hgl htl c5
  have HM := hide hm
  generalize hE1 : en E i = x at *
  have HE1 := hide hE1
  clear hE1
  by_cases him : i < m
  · go_enter Tryz.func155, Tryz.ntmps155
    go_wp2
    go_region
    clear hrun hx a0 c4 c6
    obtain ⟨F1, F2⟩ := HR1.out.1.ecell HR0.out.2.2.2.2.1 (by omega)
    have hgm := ecells_get (E := E) (i := m) (by have := HM.out; omega)
    have hgi := ecells_get (E := E) (i := i) (by have := HM.out; omega)
    have b0 := F1 _ _ hgm.1
    have b1 := F1 _ _ hgm.2
    have a0 := F1 _ _ hgi.1
    have a1 := F1 _ _ hgi.2
    have f0 := F2 (i * 2)
    have f1 := F2 (i * 2 + 1)
    obtain ⟨c4, -, c6⟩ := HR1.out.1.cells
    rw [HR0.out.2.2.2.2.1, HM.out] at c4
    clear hgm hgi F1 F2
    generalize hE2 : en E m = y at *
    have HE2 := hide hE2
    clear hE2
    go_wp2
    go_region
    clear a0 a1 b0 b1 c4 c6 f0 f1
    have hS1 := HR1.out.1.setE hL HR0.out.2.2.2.2.1 (by omega) (i * 2) (.int .i64 (y.1 : Int))
    have hS2 := hS1.1.setE hL HR0.out.2.2.2.2.1 (by omega) (i * 2 + 1) (.int .u32 y.2)
    have hS3 := hS2.1.then hL (grown_drew _ none)
    have kS3 := ((HR1.out.2.trans hS1.2 (fun _ _ e => e)).trans hS2.2 (fun _ _ e => e)).trans (Kept.new (grown_drew _ none) p.own) (fun _ _ e => e)
    generalize ((w1.setCell ⟨ge, i * 2, none⟩ (.int .i64 (y.1 : Int))).setCell ⟨ge, i * 2 + 1, none⟩ (.int .u32 y.2)).drew = w2 at *
    clear hS1 hS2
    have HR2 := hide (And.intro hS3 kS3)
    clear hS3 kS3
    obtain ⟨F1, F2⟩ := HR2.out.1.ecell HR0.out.2.2.2.2.1 (by omega)
    have hlE : (ecells E).length = (m + 1) * 2 := by rw [ecells_length, HM.out]
    have b0 := F1 (i * 2) (.int .i64 (y.1 : Int)) (by rw [List.getElem?_set_ne (by omega), List.getElem?_set_self (by omega)])
    obtain ⟨c4, -, c6⟩ := HR2.out.1.cells
    rw [HR0.out.2.2.2.2.1, HM.out] at c4
    have hy : (Lit.int .i64 (y.1 : Int)).wf = true := wf_i64 (by omega) (by have := HR0.out.2.2.1.at (i := m) (by have := HM.out; omega); rw [HE2.out] at this; omega)
    obtain ⟨w3, hrun3, hmap3, hg3⟩ := (HR2.out.1.then hL (grown_drew w2 none)).map.store k3 Tryz.underlying195 (by unfold maxLen; omega) hy (.int .i64 (i : Int))
    obtain ⟨R3, K3⟩ := (HR2.out.1.then hL (grown_drew w2 none)).mapped hL hg3 hmap3
    have HR3 := hide (And.intro R3 ((HR2.out.2.trans (Kept.new (grown_drew w2 none) p.own) (fun _ _ e => e)).trans K3 (fun _ _ e => e)))
    clear R3 K3 hmap3 hg3 F1 F2 hlE
    go_wp2
    go_region
    clear hrun3 b0 c4 c6 hy
    obtain ⟨c4, c5, -⟩ := HR3.out.1.cells
    rw [HR0.out.2.2.2.2.1, HM.out] at c4
    rw [HR0.out.2.2.2.2.2, HM.out] at c5
    obtain ⟨F1, F2⟩ := HR3.out.1.ecell HR0.out.2.2.2.2.1 (by omega)
    have hlE : (((ecells E).set (i * 2) (.int .i64 (y.1 : Int))).set (i * 2 + 1) (.int .u32 y.2)).length = (m + 1) * 2 := by rw [List.length_set, List.length_set, ecells_length, HM.out]
    have hx0 : ∃ u, w3.cell? ⟨ge, m * 2, none⟩ = some u := ⟨_, F1 _ _ (List.getElem?_eq_getElem (by omega))⟩
    have hx1 : ∃ u, w3.cell? ⟨ge, m * 2 + 1, none⟩ = some u := ⟨_, F1 _ _ (List.getElem?_eq_getElem (by omega))⟩
    obtain ⟨u0, d0⟩ := hx0
    obtain ⟨u1, d1⟩ := hx1
    have f0 := F2 (m * 2)
    have f1 := F2 (m * 2 + 1)
    have ph4 : w3.frozen? ⟨p.h, 4, none⟩ = false := free_row HR3.out.1.head 4
    have ph5 : w3.frozen? ⟨p.h, 5, none⟩ = false := free_row HR3.out.1.head 5
    clear F1 F2 hlE
    --TAIL1
    go_wp2
    have hZ1 := HR3.out.1.setE hL HR0.out.2.2.2.2.1 (by omega) (m * 2) (.int .i64 0)
    have hZ2 := hZ1.1.setE hL HR0.out.2.2.2.2.1 (by omega) (m * 2 + 1) (.int .u32 0)
    have kZ2 := (HR3.out.2.trans hZ1.2 (fun _ _ e => e)).trans hZ2.2 (fun _ _ e => e)
    clear d0 d1 f0 f1 c4 c5
    generalize ((w3.setCell ⟨ge, m * 2, none⟩ (.int .i64 0)).setCell ⟨ge, m * 2 + 1, none⟩ (.int .u32 0)) = w4 at *
    have HR4 := hide (And.intro hZ2.1 kZ2)
    clear hZ1 hZ2 kZ2
    obtain ⟨c4, c5, -⟩ := HR4.out.1.cells
    rw [HR0.out.2.2.2.2.1, HM.out] at c4
    rw [HR0.out.2.2.2.2.2, HM.out] at c5
    have ph4 : w4.frozen? ⟨p.h, 4, none⟩ = false := free_row HR4.out.1.head 4
    have ph5 : w4.frozen? ⟨p.h, 5, none⟩ = false := free_row HR4.out.1.head 5
    have hsE := slice_E (some ⟨ge, 0, none⟩) (m + 1) ce m (by omega)
    have hsT := slice_T (some ⟨gl, 0, none⟩) (m + 1) cl m (by omega)
    go_region
    clear hsE hsT ph4 ph5 c4 c5
    have hC := HR4.out.1.cut hL HR0.out.2.2.2.2.1 HR0.out.2.2.2.2.2 (m := m) (by have := HM.out; omega) (by have := HM.out; omega) rfl
    have hC2 := hC.1.then hL (grown_drew _ none)
    have kC := (HR4.out.2.trans hC.2 (fun _ _ e => e)).trans (Kept.new (grown_drew _ none) p.own) (fun _ _ e => e)
    generalize ((w4.setCell ⟨p.h, 4, none⟩ (.slice (some ⟨ge, 0, none⟩) m ce)).setCell ⟨p.h, 5, none⟩ (.slice (some ⟨gl, 0, none⟩) m cl)).drew = w5 at *
    obtain ⟨q, hq⟩ : ∃ q : Hp, q = ⟨p.h, .slice (some ⟨ge, 0, none⟩) m ce, .slice (some ⟨gl, 0, none⟩) m cl, p.mb⟩ := ⟨_, rfl⟩
    have hqh : q.h = p.h := by rw [hq]
    have hqm : q.mb = p.mb := by rw [hq]
    have hqo : ∀ j, q.own j → p.own j := by
      rw [hq]
      have e1 : p.ve.ownBlock = some ge := by rw [HR0.out.2.2.2.2.1]; rfl
      have e2 : p.vl.ownBlock = some gl := by rw [HR0.out.2.2.2.2.2]; rfl
      rintro j (e | e | e | e)
      · exact .inl e
      · exact .inr (.inl (by rw [e1]; exact e))
      · exact .inr (.inr (.inl (by rw [e2]; exact e)))
      · exact .inr (.inr (.inr e))
    rw [← hq] at hC2
    have hoL : (outE E i).length = m := by rw [outE_length, HM.out]; rfl
    have hTL : (T.take m).length = m := by rw [List.length_take, HR0.out.2.1.len, HM.out]; omega
    have hA : HpAt w5 L q (outE E i) (T.take m) N (B + 1) := by
      refine ⟨hC2.head, ?_, ?_, ?_, hC2.inv, hC2.off⟩
      · have e := hC2.ent
        rw [hoL]
        have e2 := ecells_out (E := E) (i := i) (.int .i64 0) (.int .u32 0)
        rw [HM.out, show m + 1 - 1 = m from rfl, HE2.out] at e2
        rw [e2] at e
        exact e
      · have e := hC2.lst
        rw [hTL]
        simpa [tcells, List.map_take] using e
      · refine MapAt.congr hC2.map (fun x2 => ?_)
        have e2 := plf_out HR0.out.2.2.1 (i := i) (by have := HM.out; omega) x2
        rw [HM.out, show m + 1 - 1 = m from rfl, HE2.out, HE1.out] at e2
        exact e2
    have hok2 : ∀ e ∈ outE E i, L.ok e.2 := by
      intro e he
      have h1 : e ∈ E.set i (en E (E.length - 1)) := List.mem_of_mem_take he
      rcases List.mem_or_eq_of_mem_set h1 with h2 | h2
      · exact HR0.out.2.2.2.1 e h2
      · rw [h2]; exact HR0.out.2.2.2.1 _ (en_mem (by have := HM.out; omega))
    have hin := HR0.out.2.1.out_in
    rw [HM.out] at hin
    have hst := settle_any hL hA (by rw [hTL, hoL]) (by rw [hoL]; have := HM.out; omega) ((m + 1) / 2) (by rw [hoL]; omega) (by rw [hoL]; exact hin) hok2
    have hTo : outT L.lt E T i = stl L.lt (outE E i) (stl L.lt (outE E i) (T.take m) ((m + 1) / 2)) (i + 1) := by
      unfold outT
      rw [HM.out, if_pos (by omega)]
      rfl
    have hin2 := stl_in (lt := L.lt) (E := outE E i) (T := T.take m) (k := (m + 1) / 2) (by rw [hoL]; omega) (by rw [hTL, hoL]) (by rw [hoL]; exact hin)
    have HSt2 : Hid (∀ w6, HpAt w6 L q (outE E i) (stl L.lt (outE E i) (T.take m) ((m + 1) / 2)) N (B + 1) → Calls Tryz.prog 148 #[.pointer (some ⟨p.h, 0, none⟩), .int .i64 (i : Int)] w6 fun e w' => e = .returned (.tuple #[]) ∧ HpAt w' L q (outE E i) (outT L.lt E T i) N (B + 1) ∧ Kept w6 w' (fun j => L.S j ∨ p.own j)) := by
      intro w6 h6
      have := settle_any hL h6 (by rw [stl_length, hTL, hoL]) (by rw [hoL]; have := HM.out; omega) (i + 1) (by rw [hoL]; omega) (fun b hb _ => hin2 b hb) hok2
      rw [show (((i + 1 : Nat) : Int)) - 1 = (i : Int) by omega, hqh, ← hTo] at this
      refine this.mono ?_
      rintro e w' ⟨h1, h2, h3⟩
      exact ⟨h1, h2, h3.mono (fun j _ e => e.imp_right (fun e => hqo j (.inr (.inr (.inl e)))))⟩
    have hab := above_any m w5 (by have := HM.out; omega)
    rw [hqh] at hst
    have HQ := hide (And.intro (And.intro hqh hqm) (And.intro hqo (And.intro kC hTo)))
    clear hqh hqm hqo kC hTo hA hok2 hin hoL hTL hC hC2 hq
    generalize (m + 1) / 2 = k2 at *
    go_wp2_with fail
    refine hab.mono ?_
    rintro e w6 ⟨rfl, hw6⟩
    obtain rfl := hw6.symm
    go_wp2_with fail
    refine hst.mono ?_
    rintro e w7 ⟨rfl, hA7, k7⟩
    have HA7 := hide (And.intro hA7 k7)
    clear hA7 k7
    clear hst hab
    have hs2 := HSt2.out _ HA7.out.1
    go_wp2_with fail
    refine hs2.mono ?_
    rintro e w8 ⟨rfl, hA8, k8⟩
    have HA8 := hide (And.intro hA8 k8)
    clear hA8 k8 hs2
    go_wp2
    go_end0
    exact ⟨rfl, q, HA8.out.1, HQ.out.1, ((HQ.out.2.2.1.mono (fun _ _ e => .inr e)).trans HA7.out.2 (fun j _ e => e.imp_right (fun e => HQ.out.2.1 j (.inr (.inr (.inl e)))))).trans HA8.out.2 (fun _ _ e => e), HQ.out.2.1⟩
  · obtain rfl : i = m := by omega
    go_enter Tryz.func155, Tryz.ntmps155
    go_wp2
    go_region
    clear hrun hx a0 c4 c6
    have HR3 : Hid (HpR w1 L p E.length (ecells E) E.length (tcells T) N (B + 1) (fun y => if y = (x.1 : Int) then none else plf E y) ∧ Kept w w1 p.own) := ⟨⟨HR1.out.1.head, HR1.out.1.ent, HR1.out.1.lst, HR1.out.1.map.mono (Nat.le_succ _), HR1.out.1.inv, HR1.out.1.off⟩, HR1.out.2⟩
    obtain ⟨m, hmi⟩ : ∃ m, m = i := ⟨_, rfl⟩
    have HMI := hide hmi
    obtain ⟨c4, c5, -⟩ := HR3.out.1.cells
    rw [HR0.out.2.2.2.2.1, HM.out] at c4
    rw [HR0.out.2.2.2.2.2, HM.out] at c5
    obtain ⟨F1, F2⟩ := HR3.out.1.ecell HR0.out.2.2.2.2.1 (by omega)
    have hlE : (ecells E).length = (i + 1) * 2 := by rw [ecells_length, HM.out]
    have hx0 : ∃ u, w1.cell? ⟨ge, i * 2, none⟩ = some u := ⟨_, F1 _ _ (List.getElem?_eq_getElem (by omega))⟩
    have hx1 : ∃ u, w1.cell? ⟨ge, i * 2 + 1, none⟩ = some u := ⟨_, F1 _ _ (List.getElem?_eq_getElem (by omega))⟩
    obtain ⟨u0, d0⟩ := hx0
    obtain ⟨u1, d1⟩ := hx1
    have f0 := F2 (i * 2)
    have f1 := F2 (i * 2 + 1)
    clear F1 F2 hlE hmi HMI m
    go_wp2
    have hZ1 := HR3.out.1.setE hL HR0.out.2.2.2.2.1 (by omega) (i * 2) (.int .i64 0)
    have hZ2 := hZ1.1.setE hL HR0.out.2.2.2.2.1 (by omega) (i * 2 + 1) (.int .u32 0)
    have kZ2 := (HR3.out.2.trans hZ1.2 (fun _ _ e => e)).trans hZ2.2 (fun _ _ e => e)
    clear d0 d1 f0 f1 c4 c5
    generalize ((w1.setCell ⟨ge, i * 2, none⟩ (.int .i64 0)).setCell ⟨ge, i * 2 + 1, none⟩ (.int .u32 0)) = w4 at *
    have HR4 := hide (And.intro hZ2.1 kZ2)
    clear hZ1 hZ2 kZ2
    obtain ⟨c4, c5, -⟩ := HR4.out.1.cells
    rw [HR0.out.2.2.2.2.1, HM.out] at c4
    rw [HR0.out.2.2.2.2.2, HM.out] at c5
    have ph4 : w4.frozen? ⟨p.h, 4, none⟩ = false := free_row HR4.out.1.head 4
    have ph5 : w4.frozen? ⟨p.h, 5, none⟩ = false := free_row HR4.out.1.head 5
    have hsE := slice_E (some ⟨ge, 0, none⟩) (i + 1) ce i (by omega)
    have hsT := slice_T (some ⟨gl, 0, none⟩) (i + 1) cl i (by omega)
    go_region
    clear hsE hsT ph4 ph5 c4 c5
    have hC := HR4.out.1.cut hL HR0.out.2.2.2.2.1 HR0.out.2.2.2.2.2 (m := i) (by have := HM.out; omega) (by have := HM.out; omega) rfl
    have hC2 := hC.1.then hL (grown_drew _ none)
    have kC := (HR4.out.2.trans hC.2 (fun _ _ e => e)).trans (Kept.new (grown_drew _ none) p.own) (fun _ _ e => e)
    generalize ((w4.setCell ⟨p.h, 4, none⟩ (.slice (some ⟨ge, 0, none⟩) i ce)).setCell ⟨p.h, 5, none⟩ (.slice (some ⟨gl, 0, none⟩) i cl)).drew = w5 at *
    obtain ⟨q, hq⟩ : ∃ q : Hp, q = ⟨p.h, .slice (some ⟨ge, 0, none⟩) i ce, .slice (some ⟨gl, 0, none⟩) i cl, p.mb⟩ := ⟨_, rfl⟩
    have hqh : q.h = p.h := by rw [hq]
    have hqm : q.mb = p.mb := by rw [hq]
    have hqo : ∀ j, q.own j → p.own j := by
      rw [hq]
      have e1 : p.ve.ownBlock = some ge := by rw [HR0.out.2.2.2.2.1]; rfl
      have e2 : p.vl.ownBlock = some gl := by rw [HR0.out.2.2.2.2.2]; rfl
      rintro j (e | e | e | e)
      · exact .inl e
      · exact .inr (.inl (by rw [e1]; exact e))
      · exact .inr (.inr (.inl (by rw [e2]; exact e)))
      · exact .inr (.inr (.inr e))
    rw [← hq] at hC2
    have hoL : (outE E i).length = i := by rw [outE_length, HM.out]; rfl
    have hTL : (T.take i).length = i := by rw [List.length_take, HR0.out.2.1.len, HM.out]; omega
    have hA : HpAt w5 L q (outE E i) (T.take i) N (B + 1) := by
      refine ⟨hC2.head, ?_, ?_, ?_, hC2.inv, hC2.off⟩
      · have e := hC2.ent
        rw [hoL]
        have e2 := ecells_out_last (E := E) (.int .i64 0) (.int .u32 0)
        rw [HM.out, show i + 1 - 1 = i from rfl] at e2
        rw [e2] at e
        exact e
      · have e := hC2.lst
        rw [hTL]
        simpa [tcells, List.map_take] using e
      · refine MapAt.congr hC2.map (fun x2 => ?_)
        have e2 := plf_out_last HR0.out.2.2.1 (by have := HM.out; omega) x2
        rw [HM.out, show i + 1 - 1 = i from rfl, HE1.out] at e2
        exact e2
    have hok2 : ∀ e ∈ outE E i, L.ok e.2 := by
      intro e he
      have h1 : e ∈ E.set i (en E (E.length - 1)) := List.mem_of_mem_take he
      rcases List.mem_or_eq_of_mem_set h1 with h2 | h2
      · exact HR0.out.2.2.2.1 e h2
      · rw [h2]; exact HR0.out.2.2.2.1 _ (en_mem (by have := HM.out; omega))
    have hin := HR0.out.2.1.out_in
    rw [HM.out] at hin
    have hst := settle_any hL hA (by rw [hTL, hoL]) (by rw [hoL]; have := HM.out; omega) ((i + 1) / 2) (by rw [hoL]; omega) (by rw [hoL]; exact hin) hok2
    have hTo : outT L.lt E T i = stl L.lt (outE E i) (T.take i) ((i + 1) / 2) := by
      unfold outT
      rw [HM.out, if_neg (by omega)]
      rfl
    have hab := above_any i w5 (by have := HM.out; omega)
    rw [hqh] at hst
    have HQ := hide (And.intro (And.intro hqh hqm) (And.intro hqo (And.intro kC hTo)))
    clear hqh hqm hqo kC hTo hA hok2 hin hoL hTL hC hC2 hq
    generalize (i + 1) / 2 = k2 at *
    go_wp2_with fail
    refine hab.mono ?_
    rintro e w6 ⟨rfl, hw6⟩
    obtain rfl := hw6.symm
    go_wp2_with fail
    refine hst.mono ?_
    rintro e w7 ⟨rfl, hA7, k7⟩
    have HA7 := hide (And.intro hA7 k7)
    clear hA7 k7
    clear hst hab
    go_wp2
    go_end0
    refine ⟨rfl, q, ?_, HQ.out.1, (HQ.out.2.2.1.mono (fun _ _ e => .inr e)).trans HA7.out.2 (fun j _ e => e.imp_right (fun e => HQ.out.2.1 j (.inr (.inr (.inl e))))), HQ.out.2.1⟩
    rw [HQ.out.2.2.2]
    exact HA7.out.1
end
end Go.Proofs.YtinkkocleognbaaGreatDoor.Hp
/- An item more. -/
namespace Go.Proofs.YtinkkocleognbaaGreatDoor.Hp
open Go.RowKit
attribute [local go_sem ↓] Go.wp_at_zero Go.wp_at_succ
theorem Tryz.info208 : (Tryz.prog.info? 208).map (fun i => (i.zero, i.size, i.bytes)) = some (some (.agg #[.int .i64 0, .int .u32 0]), 2, 16) := by kernel_rfl
theorem Tryz.info3 : (Tryz.prog.info? 3).map (fun i => (i.zero, i.size, i.bytes)) = some (some (.int .i64 0), 1, 8) := by kernel_rfl
section
variable {w w' w2 : World} {L : Les} {p : Hp} {E : List (Nat × Int)} {T : List Nat} {N B : Nat} {ne nt : Nat} {cs ts : List Value} {f : Int → Option Value}
/-- The entries are appended to. -/
theorem HpR.appE (hL : L.Ok) (h : HpR w L p ne cs nt ts N B f) {v' : Value} {ne' : Nat} {cs' : List Value} (ho : w2.ownsRow 0 208 2 v' ne' cs') (hg : w.grownBy w2 p.ve.ownBlock) (hb : v'.ownBlock = p.ve.ownBlock ∨ v'.ownBlock = some w.heap.size) :
    HpR (w2.setCell ⟨p.h, 4, none⟩ v') L ⟨p.h, v', p.vl, p.mb⟩ ne' cs' nt ts N B f ∧ Kept w (w2.setCell ⟨p.h, 4, none⟩ v') p.own := by
  obtain ⟨a1, a2, a3⟩ := h.apart
  have hph := row_lt h.head
  have k1 : Kept w w2 (fun i => p.ve.ownBlock = some i) := Kept.of hg (fun j e _ => e)
  have k2 := kept_setCell w2 p.h 4 v'
  have hvh : v'.ownBlock ≠ some p.h := fun e => by
    rcases hb with hb | hb
    · rw [hb] at e; exact (a1 _ e).1 rfl
    · rw [hb] at e; have := Option.some.inj e; omega
  have kk : Kept w (w2.setCell ⟨p.h, 4, none⟩ v') (fun i => p.ve.ownBlock = some i ∨ i = p.h) := (k1.mono (fun _ _ e => .inl e)).trans k2 (fun _ _ e => .inr e)
  refine ⟨⟨?_, row_same ho (fun g hg => k2.block g (ho.lt g hg).2 (fun e => hvh (by rw [← e]; exact hg))), row_same h.lst (fun g hg => kk.block g (h.lt g (.inr (.inr (.inl hg)))) (fun e => e.elim (fun e => (a2 g hg).2.2 e) (a2 g hg).1)), h.map.same (kk.block _ h.map.lt (fun e => e.elim (fun e => (a1 _ e).2.1 rfl) (fun e => a3 e.symm))), ?_, ?_⟩, ?_⟩
  · exact row_setCell (k1.at h.head (fun e => (a1 _ e).1 rfl)) 4 v'
  · refine hL.keep _ _ _ h.inv kk (fun i e => ?_)
    rcases e with e | e
    · exact h.off i (.inr (.inl e))
    · exact h.off i (.inl e)
  · rintro i (e | e | e | e)
    · exact h.off i (.inl e)
    · rcases hb with hb | hb
      · exact h.off i (.inr (.inl (by rw [← hb]; exact e)))
      · intro hF
        have := hL.below w i h.inv hF
        have e2 : v'.ownBlock = some i := e
        rw [hb] at e2
        have := Option.some.inj e2
        omega
    · exact h.off i (.inr (.inr (.inl e)))
    · exact h.off i (.inr (.inr (.inr e)))
  · exact kk.mono (fun i _ e => e.elim (fun e => .inr (.inl e)) (fun e => .inl e))
theorem HpR.appT (hL : L.Ok) (h : HpR w L p ne cs nt ts N B f) {v' : Value} {nt' : Nat} {ts' : List Value} (ho : w2.ownsRow 0 3 1 v' nt' ts') (hg : w.grownBy w2 p.vl.ownBlock) (hb : v'.ownBlock = p.vl.ownBlock ∨ v'.ownBlock = some w.heap.size) :
    HpR (w2.setCell ⟨p.h, 5, none⟩ v') L ⟨p.h, p.ve, v', p.mb⟩ ne cs nt' ts' N B f ∧ Kept w (w2.setCell ⟨p.h, 5, none⟩ v') p.own := by
  obtain ⟨a1, a2, a3⟩ := h.apart
  have hph := row_lt h.head
  have k1 : Kept w w2 (fun i => p.vl.ownBlock = some i) := Kept.of hg (fun j e _ => e)
  have k2 := kept_setCell w2 p.h 5 v'
  have hvh : v'.ownBlock ≠ some p.h := fun e => by
    rcases hb with hb | hb
    · rw [hb] at e; exact (a2 _ e).1 rfl
    · rw [hb] at e; have := Option.some.inj e; omega
  have kk : Kept w (w2.setCell ⟨p.h, 5, none⟩ v') (fun i => p.vl.ownBlock = some i ∨ i = p.h) := (k1.mono (fun _ _ e => .inl e)).trans k2 (fun _ _ e => .inr e)
  refine ⟨⟨?_, row_same h.ent (fun g hg => kk.block g (h.lt g (.inr (.inl hg))) (fun e => e.elim (fun e => (a1 g hg).2.2 e) (a1 g hg).1)), row_same ho (fun g hg => k2.block g (ho.lt g hg).2 (fun e => hvh (by rw [← e]; exact hg))), h.map.same (kk.block _ h.map.lt (fun e => e.elim (fun e => (a2 _ e).2.1 rfl) (fun e => a3 e.symm))), ?_, ?_⟩, ?_⟩
  · exact row_setCell (k1.at h.head (fun e => (a2 _ e).1 rfl)) 5 v'
  · refine hL.keep _ _ _ h.inv kk (fun i e => ?_)
    rcases e with e | e
    · exact h.off i (.inr (.inr (.inl e)))
    · exact h.off i (.inl e)
  · rintro i (e | e | e | e)
    · exact h.off i (.inl e)
    · exact h.off i (.inr (.inl e))
    · rcases hb with hb | hb
      · exact h.off i (.inr (.inr (.inl (by rw [← hb]; exact e))))
      · intro hF
        have := hL.below w i h.inv hF
        have e2 : v'.ownBlock = some i := e
        rw [hb] at e2
        have := Option.some.inj e2
        omega
    · exact h.off i (.inr (.inr (.inr e)))
  · exact kk.mono (fun i _ e => e.elim (fun e => .inr (.inr (.inl e))) (fun e => .inl e))
/-- The next handle is counted up. -/
theorem HpR.count (hL : L.Ok) (h : HpR w L p ne cs nt ts N B f) : HpR (w.setCell ⟨p.h, 3, none⟩ (.int .i64 ((N : Int) + 1))) L p ne cs nt ts (N + 1) B f ∧ Kept w (w.setCell ⟨p.h, 3, none⟩ (.int .i64 ((N : Int) + 1))) p.own := by
  obtain ⟨a1, a2, a3⟩ := h.apart
  have k := kept_setCell w p.h 3 (.int .i64 ((N : Int) + 1))
  exact ⟨⟨row_setCell h.head 3 _, row_same h.ent (fun g hg => k.block g (h.lt g (.inr (.inl hg))) (a1 g hg).1), row_same h.lst (fun g hg => k.block g (h.lt g (.inr (.inr (.inl hg)))) (a2 g hg).1), h.map.same (k.block _ h.map.lt (fun e => a3 e.symm)), hL.keep _ _ _ h.inv k (fun i e => by rw [e]; exact h.off _ (.inl rfl)), h.off⟩, k.mono (fun i _ e => .inl e)⟩
/-- A heap, and all that is so of its items. -/
structure HS (w : World) (L : Les) (p : Hp) (E : List (Nat × Int)) (T : List Nat) (N B : Nat) : Prop where
  at_ : HpAt w L p E T N B
  good : Good L.lt E T
  hds : Hds E N
  ok : ∀ e ∈ E, L.ok e.2
/-- What a step leaves: the same heap, all else but what is its own and what less may write. -/
structure Hst (w w' : World) (L : Les) (p q : Hp) : Prop where
  h : q.h = p.h
  mb : q.mb = p.mb
  kept : Kept w w' (fun j => L.S j ∨ p.own j)
  own : ∀ j, q.own j → p.own j ∨ w.heap.size ≤ j
theorem Hst.refl (w : World) (L : Les) (p : Hp) : Hst w w L p p := ⟨rfl, rfl, Kept.refl _ _, fun _ e => .inl e⟩
theorem Hst.grown {w w' : World} (g : w.grownBy w' none) (L : Les) (p : Hp) : Hst w w' L p p := ⟨rfl, rfl, Kept.new g _, fun _ e => .inl e⟩
theorem Hst.trans {a b c : World} {L : Les} {p q r : Hp} (h : Hst a b L p q) (k : Hst b c L q r) : Hst a c L p r := by
  refine ⟨k.h.trans h.h, k.mb.trans h.mb, h.kept.trans k.kept (fun i hi e => ?_), fun j e => ?_⟩
  · rcases e with e | e
    · exact .inl e
    · rcases h.own i e with e | e
      · exact .inr e
      · omega
  · rcases k.own j e with e | e
    · exact h.own j e
    · exact .inr (Nat.le_trans h.kept.size e)
theorem Hds.push {E : List (Nat × Int)} {N : Nat} (h : Hds E N) (v : Int) : Hds (E ++ [(N, v)]) (N + 1) := by
  have hl : ∀ i, i < E.length + 1 → en (E ++ [(N, v)]) i = if i < E.length then en E i else (N, v) := by
    intro i hi
    split
    · rename_i h1; exact en_append_left h1
    · rename_i h1
      have : i = E.length := by omega
      subst this
      simp [en]
  constructor
  · intro i j hi hj e
    simp at hi hj
    rw [hl i hi, hl j hj] at e
    split at e <;> split at e
    · exact h.inj i j (by omega) (by omega) e
    · have := h.below i (by omega); simp at e; omega
    · have := h.below j (by omega); simp at e; omega
    · omega
  · intro i hi
    simp at hi
    rw [hl i hi]
    split
    · have := h.below i (by omega); omega
    · simp
theorem plf_push {E : List (Nat × Int)} {N : Nat} (h : Hds E N) (v : Int) (x : Int) : (if x = (N : Int) then some (Value.int .i64 (E.length : Int)) else plf E x) = plf (E ++ [(N, v)]) x := by
  have hp := h.push v
  have hl : ∀ i, i < E.length → en (E ++ [(N, v)]) i = en E i := fun i hi => en_append_left hi
  have hn : en (E ++ [(N, v)]) E.length = (N, v) := by simp [en]
  rw [plf_eq, plf_eq]
  split
  · rename_i e
    rw [fi_some hp (i := E.length) (by simp) (by rw [hn]; exact e.symm)]
    rfl
  · rename_i e
    cases hf : fi E x with
    | none =>
      rw [fi_none]
      intro i hi ex
      simp at hi
      by_cases h1 : i < E.length
      · rw [hl i h1] at ex
        rw [fi_some h h1 ex] at hf; cases hf
      · have : i = E.length := by omega
        subst this
        rw [hn] at ex
        exact e ex.symm
    | some i =>
      obtain ⟨h1, h2⟩ := fi_lt hf
      rw [fi_some hp (i := i) (by simp; omega) (by rw [hl i h1]; exact h2)]
theorem cell2_new (w : World) (a b : Value) (t : TypeId) : ∀ j x, [a, b][j]? = some x → (w.alloc (.cells #[a, b] t)).cell? ((⟨w.heap.size, 0, none⟩ : Addr).add j) = some x := by
  intro j x hx
  have hb : (w.alloc (.cells #[a, b] t)).heap[w.heap.size]? = some (.cells [a, b].toArray t (0, 0)) := heap_alloc_new w _
  rw [Addr.add_lit, Nat.zero_add, cell_row hb]
  exact hx
theorem cell1_new (w : World) (a : Value) (t : TypeId) : ∀ j x, [a][j]? = some x → (w.alloc (.cells #[a] t)).cell? ((⟨w.heap.size, 0, none⟩ : Addr).add j) = some x := by
  intro j x hx
  have hb : (w.alloc (.cells #[a] t)).heap[w.heap.size]? = some (.cells [a].toArray t (0, 0)) := heap_alloc_new w _
  rw [Addr.add_lit, Nat.zero_add, cell_row hb]
  exact hx
set_option maxRecDepth 20000 in
set_option maxHeartbeats 4000000 in
theorem push_any (hL : L.Ok) (h : HS w L p E T N B) (hE : E.length < 65536) (hN : N ≤ 100000000) (hB : B ≤ 100000000) (v : Int) (hv : L.ok v) :
    Calls Tryz.prog 117 #[.pointer (some ⟨p.h, 0, none⟩), .int .u32 v] w fun e w' => e = .returned (.tuple #[.int .i64 (N : Int), .int .i64 0]) ∧ ∃ q T', HS w' L q (E ++ [(N, v)]) T' (N + 1) (B + 1) ∧ Hst w w' L p q := by
  have hn := none_at h.at_
  have R0 := h.at_.raw
  rw [h.good.len] at R0
  obtain ⟨-, -, -, c3, c4, -, -⟩ := h.at_.cells
  obtain ⟨vo, cap, hve, -⟩ := own_form R0.ent
  have f3 : w.frozen? ⟨p.h, 3, none⟩ = false := free_row R0.head 3
  have hR1 := R0.count hL
  have HR0 := hide (And.intro h R0)
  clear h R0
  rw [hve] at c4
  have HVE := hide hve
  clear hve
  generalize hn1 : E.length = n at *
  have HN1 := hide hn1
  clear hn1
  have hne : ((n : Int) == 65536) = false := by simp; omega
  have hne2 : decide ((n : Int) = 65536) = false := by simp; omega
  have HR1 := hide hR1
  clear hR1
  go_enter Tryz.func117, Tryz.ntmps117
  go_wp2_with fail
  refine hn.mono ?_
  rintro e w1 ⟨rfl, hw1⟩
  obtain rfl := hw1.symm
  go_upto_region 8 with fail
  clear hn c3 f3
  generalize w.setCell ⟨p.h, 3, none⟩ (.int .i64 ((N : Int) + 1)) = w2 at *
  have hc4 := HR1.out.1.cells.1
  rw [HVE.out] at hc4
  obtain ⟨i0, hi0, hz0, hz1, hz2⟩ := info_parts Tryz.info208
  have HI0 := hide (And.intro hi0 (And.intro hz0 (And.intro hz1 hz2)))
  clear hi0 hz0 hz1 hz2 c4
  have gA := World.grownBy_alloc w2 (.cells #[.int .i64 (N : Int), .int .u32 v] 208) none
  have hRA := HR1.out.1.then hL gA
  have HRA := hide (And.intro hRA gA)
  clear hRA gA
  have hph4 : (w2.alloc (.cells #[.int .i64 (N : Int), .int .u32 v] 208)).cell? ⟨p.h, 4, none⟩ = some p.ve := HRA.out.1.cells.1
  clear hph4
  go_wp2_with (at_builtin; refine wpList_append_own_at _ rfl (.tmp 32) (.tmp 36) 196 rfl 0 208 i0 (.agg #[.int .i64 0, .int .u32 0]) 2 16 Tryz.underlying196 HI0.out.1 HI0.out.2.1 HI0.out.2.2.1 HI0.out.2.2.2 rfl (by decide) (.slice vo n cap) n (ecells E) rfl (by rw [← HVE.out]; exact HRA.out.1.ent) ⟨w2.heap.size, 0, none⟩ 1 1 [.int .i64 (N : Int), .int .u32 v] rfl rfl (cell2_new _ _ _ _) (by simp [Value.oneCell']) (by unfold maxLen; omega) (by omega) (Nat.zero_le _) ?_)
  intro v3 w3 ho3 hg3 hv3 hb3
  rw [← HVE.out] at hg3 hb3
  obtain ⟨vo3, cap3, rfl, -⟩ := own_form ho3
  have hcE := HRA.out.1.appE hL ho3 hg3 (by rw [World.size_alloc]; exact hb3)
  have ph3 := hg3.cell (HRA.out.1.cells.1) (fun e => (HRA.out.1.apart.1 p.h e.symm).1 rfl)
  have pf3 : w3.frozen? ⟨p.h, 4, none⟩ = false := free_row ((Kept.of hg3 (S := fun j => p.ve.ownBlock = some j) (fun j e _ => e)).at HRA.out.1.head (fun e => (HRA.out.1.apart.1 p.h e).1 rfl)) 4
  have HE3 := hide (And.intro hcE hb3)
  clear hcE hg3 hv3 hb3 ho3
  go_upto_region 9 with fail
  generalize w3.setCell ⟨p.h, 4, none⟩ (.slice vo3 (n + 1) cap3) = w4 at *
  clear ph3 pf3 hc4
  obtain ⟨pE, hpE⟩ : ∃ q : Hp, q = ⟨p.h, .slice vo3 (n + 1) cap3, p.vl, p.mb⟩ := ⟨_, rfl⟩
  have hR4 := HE3.out.1.1
  have hK4 := ((Kept.new HRA.out.2 p.own).trans HE3.out.1.2 (fun _ _ e => e))
  have hB4 : ∀ j, pE.own j → p.own j ∨ w2.heap.size ≤ j := by
    rw [hpE]
    rintro j (e | e | e | e)
    · exact .inl (.inl e)
    · rcases HE3.out.2 with h1 | h1
      · exact .inl (.inr (.inl (by rw [← h1]; exact e)))
      · have e2 : some (w2.heap.size + 1) = some j := by rw [← h1]; exact e
        have := Option.some.inj e2
        exact .inr (by omega)
    · exact .inl (.inr (.inr (.inl e)))
    · exact .inl (.inr (.inr (.inr e)))
  rw [← hpE] at hR4
  have hpEh : pE.h = p.h := by rw [hpE]
  have hpEm : pE.mb = p.mb := by rw [hpE]
  have HPM := hide hpEm
  clear hpEm
  have hpEl : pE.vl = p.vl := by rw [hpE]
  have H4 := hide (And.intro hR4 (And.intro hK4 (And.intro hB4 hpEl)))
  clear hR4 hK4 hB4 hpE HE3 HI0
  obtain ⟨vl, capl, hvl, -⟩ := own_form H4.out.1.lst
  obtain ⟨-, c5, -⟩ := H4.out.1.cells
  rw [hpEh, hvl] at c5
  have HVL := hide hvl
  clear hvl
  obtain ⟨i0, hi0, hz0, hz1, hz2⟩ := info_parts Tryz.info3
  have HI0 := hide (And.intro hi0 (And.intro hz0 (And.intro hz1 hz2)))
  clear hi0 hz0 hz1 hz2
  have gA := World.grownBy_alloc w4 (.cells #[.int .i64 (n : Int)] 3) none
  have hRB := H4.out.1.then hL gA
  have HRB := hide (And.intro hRB gA)
  clear hRB gA
  go_wp2_with (at_builtin; refine wpList_append_own_at _ rfl (.tmp 44) (.tmp 46) 68 rfl 0 3 i0 (.int .i64 0) 1 8 Tryz.underlying68 HI0.out.1 HI0.out.2.1 HI0.out.2.2.1 HI0.out.2.2.2 rfl (by decide) (.slice vl n capl) n (tcells T) rfl (by rw [← HVL.out]; exact HRB.out.1.lst) ⟨w4.heap.size, 0, none⟩ 1 1 [.int .i64 (n : Int)] rfl rfl (cell1_new _ _ _) (by simp [Value.oneCell']) (by unfold maxLen; omega) (by omega) (Nat.zero_le _) ?_)
  intro v5 w5 ho5 hg5 hv5 hb5
  rw [← HVL.out] at hg5 hb5
  obtain ⟨vo5, cap5, rfl, -⟩ := own_form ho5
  have hcT := HRB.out.1.appT hL ho5 hg5 (by rw [World.size_alloc]; exact hb5)
  have ph5 := hg5.cell (HRB.out.1.cells.2.1) (fun e => (HRB.out.1.apart.2.1 pE.h e.symm).1 rfl)
  have pf5 : w5.frozen? ⟨pE.h, 5, none⟩ = false := free_row ((Kept.of hg5 (S := fun j => pE.vl.ownBlock = some j) (fun j e _ => e)).at HRB.out.1.head (fun e => (HRB.out.1.apart.2.1 pE.h e).1 rfl)) 5
  rw [hpEh] at ph5 pf5
  have HT5 := hide (And.intro hcT hb5)
  clear hcT hg5 hv5 hb5 ho5
  go_upto_region 10 with fail
  have hcT2 := HT5.out.1
  rw [hpEh] at hcT2
  generalize w5.setCell ⟨p.h, 5, none⟩ (.slice vo5 (n + 1) cap5) = w6 at *
  clear ph5 pf5 c5
  obtain ⟨q, hq⟩ : ∃ q : Hp, q = ⟨p.h, pE.ve, .slice vo5 (n + 1) cap5, pE.mb⟩ := ⟨_, rfl⟩
  have hR6 := hcT2.1
  have hK6 := ((Kept.new HRB.out.2 pE.own).trans hcT2.2 (fun _ _ e => e))
  have hB6 : ∀ j, q.own j → pE.own j ∨ w4.heap.size ≤ j := by
    rw [hq]
    rintro j (e | e | e | e)
    · exact .inl (.inl (by rw [hpEh]; exact e))
    · exact .inl (.inr (.inl e))
    · rcases HT5.out.2 with h1 | h1
      · exact .inl (.inr (.inr (.inl (by rw [← h1]; exact e))))
      · have e2 : some (w4.heap.size + 1) = some j := by rw [← h1]; exact e
        have := Option.some.inj e2
        exact .inr (by omega)
    · exact .inl (.inr (.inr (.inr e)))
  rw [← hq] at hR6
  have hqh : q.h = p.h := by rw [hq]
  have hqm : q.mb = pE.mb := by rw [hq]
  have hx : (Lit.int .i64 (N : Int)).wf = true := wf_i64 (by omega) (by omega)
  have k3 : Tryz.prog.underlying 3 = some (.int .i64) := by first | exact Tryz.underlying3 | kernel_rfl
  obtain ⟨w7, hrun7, hmap7, hg7⟩ := hR6.map.store k3 Tryz.underlying195 (by unfold maxLen; omega) hx (.int .i64 (n : Int))
  obtain ⟨R7, K7⟩ := hR6.mapped hL hg7 hmap7
  have hs1 : Hst w w2 L p p := ⟨rfl, rfl, HR1.out.2.mono (fun _ _ e => .inr e), fun _ e => .inl e⟩
  have hs2 : Hst w2 w4 L p pE := ⟨hpEh, HPM.out, H4.out.2.1.mono (fun _ _ e => .inr e), H4.out.2.2.1⟩
  have hs3 : Hst w4 w6 L pE q := ⟨hqh.trans hpEh.symm, hqm, hK6.mono (fun _ _ e => .inr e), hB6⟩
  have hs4 : Hst w6 w7 L q q := ⟨rfl, rfl, K7.mono (fun _ _ e => .inr e), fun _ e => .inl e⟩
  have hst7 := ((hs1.trans hs2).trans hs3).trans hs4
  have hc6 := hR6.cells.2.2
  rw [hqh] at hc6
  have hA7 : HpAt w7 L q (E ++ [(N, v)]) (T ++ [n]) (N + 1) (B + 1) := by
    refine ⟨R7.head, ?_, ?_, ?_, R7.inv, R7.off⟩
    · rw [List.length_append, HN1.out, ecells_snoc]; exact R7.ent
    · rw [List.length_append, HR0.out.1.good.len, HN1.out, tcells_snoc]; exact R7.lst
    · refine MapAt.congr R7.map (fun y => ?_)
      have := plf_push HR0.out.1.hds v y
      rw [HN1.out] at this
      exact this
  have hgd := HR0.out.1.good.push (N, v)
  rw [HN1.out] at hgd
  have hTl : T.length = n := by rw [HR0.out.1.good.len, HN1.out]
  have hok2 : ∀ e ∈ E ++ [(N, v)], L.ok e.2 := by
    intro e he
    rcases List.mem_append.1 he with h1 | h1
    · exact HR0.out.1.ok e h1
    · simp at h1; rw [h1]; exact hv
  have hEl : (E ++ [(N, v)]).length = n + 1 := by rw [List.length_append, HN1.out]; rfl
  have hst := settle_any hL hA7 (by rw [hEl, List.length_append, hTl]; rfl) (by rw [hEl]; omega) (n + 1) (by rw [hEl]; omega) (by
    rw [hEl]
    intro b hb hp
    by_cases h1 : b < n
    · rw [tn_append_left (by omega)]
      have := (HR0.out.1.good.sub b (by rw [HN1.out]; exact h1)).2
      rw [HN1.out] at this
      omega
    · exact absurd (by rw [show n = b by omega]; exact Pth.self b) hp) hok2
  rw [hqh, show (((n + 1 : Nat) : Int)) - 1 = (n : Int) by omega] at hst
  have HF := hide (And.intro hgd (And.intro hok2 hst7))
  have HMB := hide hmap7
  clear hqm hgd hok2 hst7 hs1 hs2 hs3 hs4 hA7 R7 K7 hR6 hK6 hB6 hq hmap7 hg7 hcT2 hTl hEl HT5 HRB hpEl
  go_wp2_with fail
  refine hst.mono ?_
  clear hst hrun7 hc6
  rintro e w8 ⟨rfl, hA8, k8⟩
  have H8 := hide (And.intro hA8 k8)
  clear hA8 k8
  go_wp2
  go_ret2
  refine ⟨rfl, q, _, ⟨H8.out.1, HF.out.1, HR0.out.1.hds.push v, HF.out.2.1⟩, HF.out.2.2.trans ⟨rfl, rfl, H8.out.2.mono (fun j _ e => e.imp_right (fun e => .inr (.inr (.inl e)))), fun _ e => .inl e⟩⟩
end
end Go.Proofs.YtinkkocleognbaaGreatDoor.Hp
/- The other steps. -/
namespace Go.Proofs.YtinkkocleognbaaGreatDoor.Hp
open Go.RowKit
attribute [local go_sem ↓] Go.wp_at_zero Go.wp_at_succ
section
variable {w w' w2 : World} {L : Les} {p : Hp} {E : List (Nat × Int)} {T : List Nat} {N B : Nat} {ne nt : Nat} {cs ts : List Value} {f : Int → Option Value}
theorem HS.then (hL : L.Ok) (h : HS w L p E T N B) (g : w.grownBy w' none) : HS w' L p E T N B := ⟨h.at_.then hL g, h.good, h.hds, h.ok⟩
theorem HS.mono (h : HS w L p E T N B) {B' : Nat} (hB : B ≤ B') : HS w L p E T N B' := ⟨⟨h.at_.head, h.at_.ent, h.at_.lst, h.at_.map.mono hB, h.at_.inv, h.at_.off⟩, h.good, h.hds, h.ok⟩
theorem HS.out_any (hL : L.Ok) (h : HS w L p E T N B) (hE : E.length ≤ 65536) (hN : N ≤ 100000000) (hB : B ≤ 100000000) (i : Nat) (hi : i < E.length) :
    Calls Tryz.prog 155 #[.pointer (some ⟨p.h, 0, none⟩), .int .i64 (i : Int)] w fun e w' => e = .returned (.tuple #[]) ∧ ∃ q T', HS w' L q (outE E i) T' N (B + 1) ∧ Hst w w' L p q := by
  refine (takeOut_any hL h.at_ h.good h.hds (by omega) (by omega) (by omega) i hi h.ok).mono ?_
  rintro e w' ⟨rfl, q, h1, ⟨h2, h2m⟩, h3, h4⟩
  refine ⟨rfl, q, _, ⟨h1, h.good.out hi, h.hds.out hi, ?_⟩, h2, h2m, h3, fun j e => .inl (h4 j e)⟩
  intro e he
  have h1 : e ∈ E.set i (en E (E.length - 1)) := List.mem_of_mem_take he
  rcases List.mem_or_eq_of_mem_set h1 with h2 | h2
  · exact h.ok e h2
  · rw [h2]; exact h.ok _ (en_mem (by omega))
set_option maxRecDepth 20000 in
set_option maxHeartbeats 4000000 in
theorem drop_any (hL : L.Ok) (h : HS w L p E T N B) (hE : E.length ≤ 65536) (hN : N ≤ 100000000) (hB : B ≤ 100000000) (x : Int) (hx : (Lit.int .i64 x).wf = true) :
    Calls Tryz.prog 138 #[.pointer (some ⟨p.h, 0, none⟩), .int .i64 x] w fun e w' => e = .returned (.bool (fi E x).isSome) ∧ ∃ q T', HS w' L q ((fi E x).elim E fun i => outE E i) T' N (B + 1) ∧ Hst w w' L p q := by
  have hf := find_at h.at_ x hx
  cases hx2 : fi E x with
  | none =>
    rw [hx2] at hf
    simp only [Option.getD, Option.isSome] at hf
    have HH := hide h
    clear h
    go_enter Tryz.func138, Tryz.ntmps138
    go_wp2_with fail
    refine hf.mono ?_
    rintro e w1 ⟨rfl, hw1⟩
    obtain rfl := hw1.symm
    go_wp2
    go_ret
    exact ⟨rfl, p, T, HH.out.mono (Nat.le_succ _), Hst.refl _ _ _⟩
  | some i =>
    rw [hx2] at hf
    simp only [Option.getD, Option.isSome] at hf
    have hi := (fi_lt hx2).1
    have ho := h.out_any hL hE hN hB i hi
    clear h hx2
    go_enter Tryz.func138, Tryz.ntmps138
    go_wp2_with fail
    refine hf.mono ?_
    rintro e w1 ⟨rfl, hw1⟩
    obtain rfl := hw1.symm
    go_wp2_with fail
    refine ho.mono ?_
    clear ho hf
    rintro e w8 ⟨rfl, hA8⟩
    have H8 := hide hA8
    clear hA8
    go_wp2
    go_ret
    exact ⟨rfl, H8.out⟩
theorem HS.least (h : HS w L p E T N B) : Calls Tryz.prog 144 #[.pointer (some ⟨p.h, 0, none⟩)] w fun e w' => e = .returned (.tuple #[.int .u32 (if 0 < E.length then (en E (tn T 0)).2 else 0), .int .i64 (if 0 < E.length then ((en E (tn T 0)).1 : Int) else 0), .bool (decide (0 < E.length))]) ∧ w.grownBy w' none :=
  least_at h.at_ h.good.len (fun e => (h.good.sub 0 e).2)
theorem good_nil (lt : Int → Int → Bool) : Good lt [] [] := ⟨rfl, fun b hb => by simp at hb⟩
theorem eql_nilFunc (fn : Fn) (a b : Array Value) (w : World) : (binOp .eql 158 (.func fn a b) .nilFunc).run Tryz.prog w = .ok (.bool false) w := by
  have h : ∀ d : Nat, (Op.equalIn (d + 1) 158 (.func fn a b) .nilFunc).run Tryz.prog w = .ok false w := fun d => by
    simp [Op.equalIn, run_underlying Tryz.underlying158]
  simp only [binOp]
  simp [Op.equal, Op.maxDepth, h 9999]
set_option maxRecDepth 20000 in
/-- A new heap. -/
theorem new_any (hL : L.Ok) (hI : L.I w) : Calls Tryz.prog 103 #[L.fv] w fun e w' => ∃ p : Hp, e = .returned (.pointer (some ⟨p.h, 0, none⟩)) ∧ HS w' L p [] [] 0 0 ∧ w.grownBy w' none ∧ (∀ j, p.own j → w.heap.size ≤ j) := by
  have HP : Hid (∀ w', w' = (w.alloc (.map #[] 0)).alloc (.cells #[.pointer (some ⟨w.heap.size + 1, 0, none⟩), .func (.func L.k) #[] L.cap, .bool false, .int .i64 0, .slice none 0 0, .slice none 0 0, .map (some w.heap.size)] 198) → HS w' L ⟨w.heap.size + 1, .slice none 0 0, .slice none 0 0, w.heap.size⟩ [] [] 0 0 ∧ w.grownBy w' none ∧ (∀ j, Hp.own ⟨w.heap.size + 1, .slice none 0 0, .slice none 0 0, w.heap.size⟩ j → w.heap.size ≤ j)) := by
    rintro w' rfl
    have g1 := World.grownBy_alloc w (.map #[] 0) none
    have g2 := World.grownBy_alloc (w.alloc (.map #[] 0)) (.cells #[.pointer (some ⟨w.heap.size + 1, 0, none⟩), .func (.func L.k) #[] L.cap, .bool false, .int .i64 0, .slice none 0 0, .slice none 0 0, .map (some w.heap.size)] 198) none
    have g := grown_trans g1 g2
    have ho : ∀ j, Hp.own ⟨w.heap.size + 1, .slice none 0 0, .slice none 0 0, w.heap.size⟩ j → w.heap.size ≤ j := by
      rintro j (e | e | e | e)
      · have : j = w.heap.size + 1 := e
        omega
      · cases e
      · cases e
      · have : j = w.heap.size := e
        omega
    refine ⟨⟨⟨?_, World.ownsRow_nil _ _ _ _, World.ownsRow_nil _ _ _ _, ?_, hL.keep w _ (fun _ => False) hI (Kept.new g _) (fun _ e => e.elim), fun i hi hF => ?_⟩, good_nil _, ⟨fun i j hi => by simp at hi, fun i hi => by simp at hi⟩, fun e he => by simp at he⟩, g, ho⟩
    · have := heap_alloc_new (w.alloc (.map #[] 0)) (.cells #[.pointer (some ⟨w.heap.size + 1, 0, none⟩), .func (.func L.k) #[] L.cap, .bool false, .int .i64 0, .slice none 0 0, .slice none 0 0, .map (some w.heap.size)] 198)
      rw [World.size_alloc] at this
      exact this
    · have hm := heap_alloc_new w (.map #[] 0)
      have hm2 := (g2.block _ (row_lt hm) (by simp)).trans hm
      exact (mapAt_made hm2).congr (fun x => rfl)
    · have h1 := hL.below w i hI hF
      have h2 := ho i hi
      omega
  unfold Les.fv
  have hq := eql_nilFunc (.func L.k) #[] L.cap
  have hmm := @run_makeMap Tryz.prog
  generalize L.cap = cap at *
  go_enter Tryz.func103, Tryz.ntmps103
  go_wp2
  go_ret
  exact ⟨⟨w.heap.size + 1, .slice none 0 0, .slice none 0 0, w.heap.size⟩, rfl, HP.out _ rfl⟩
end
end Go.Proofs.YtinkkocleognbaaGreatDoor.Hp
/- The order of what is due. -/
namespace Go.Proofs.YtinkkocleognbaaGreatDoor
open Go.RowKit
attribute [local go_sem ↓] Go.wp_at_zero Go.wp_at_succ
/-- What the closure looks at. -/
structure LsI (w : World) (vb b sg : Nat) (ip : Ix.Ip) (M : List (Nat × Int)) (R : List Bg) : Prop where
  fd : Fd w b sg ip M R
  var : w.heap[vb]? = some (.cells [Value.pointer (some ⟨b, 0, none⟩)].toArray 27 (0, 0))
  nv : ¬ ip.own vb
section
variable {w w' : World} {vb b sg : Nat} {ip : Ix.Ip} {M : List (Nat × Int)} {R : List Bg}
theorem LsI.far {X : Nat → Prop} (h : LsI w vb b sg ip M R) (k : Kept w w' X) (hv : ¬ X vb) (hb : ¬ X b) (hs : ¬ X sg) (hi : ∀ i, ip.own i → ¬ X i) : LsI w' vb b sg ip M R :=
  ⟨h.fd.far k hb hs hi, k.at h.var hv, h.nv⟩
theorem LsI.cell (h : LsI w vb b sg ip M R) : w.cell? ⟨vb, 0, none⟩ = some (.pointer (some ⟨b, 0, none⟩)) := cell_row h.var 0
theorem LsI.until (h : LsI w vb b sg ip M R) (k : Nat) (hk : k < 4294967296) : Calls Tryz.prog 105 #[.pointer (some ⟨b, 0, none⟩), .int .u32 (k : Int)] w fun e w' => e = .returned (.int .i64 (tl M R k)) ∧ LsI w' vb b sg ip M R ∧ Kept w w' ip.own := by
  refine (untilOf_any h.fd k hk).mono ?_
  rintro e w' ⟨rfl, h1, h2⟩
  exact ⟨rfl, ⟨h1, h2.at h.var h.nv, h.nv⟩, h2⟩
/-- In the midst of it. -/
structure LsJ (w W : World) (vb b sg : Nat) (ip : Ix.Ip) (M : List (Nat × Int)) (R : List Bg) : Prop where
  i : LsI W vb b sg ip M R
  k : Kept w W ip.own
set_option maxHeartbeats 2000000 in
theorem less_any (h : LsI w vb b sg ip M R) (x y : Nat) (hx : x < 4294967296) (hy : y < 4294967296) : Calls Tryz.prog 104 #[.int .u32 (x : Int), .int .u32 (y : Int), .pointer (some ⟨vb, 0, none⟩)] w fun e w' => e = .returned (.bool (decide (tl M R x < tl M R y))) ∧ LsI w' vb b sg ip M R ∧ Kept w w' ip.own := by
  have HC : Hid (∀ W (k : Nat), k < 4294967296 → LsJ w W vb b sg ip M R → Calls Tryz.prog 105 #[.pointer (some ⟨b, 0, none⟩), .int .u32 (k : Int)] W fun e w' => e = .returned (.int .i64 (tl M R k)) ∧ LsJ w w' vb b sg ip M R ∧ w'.cell? ⟨vb, 0, none⟩ = some (.pointer (some ⟨b, 0, none⟩))) := by
    intro W k hk hJ
    refine (hJ.i.until k hk).mono ?_
    rintro e w' ⟨rfl, h1, h2⟩
    exact ⟨rfl, ⟨h1, hJ.k.trans h2 (fun _ _ e => e)⟩, h1.cell⟩
  have c0 := h.cell
  have hJ0 : LsJ w w.drew vb b sg ip M R := ⟨h.far (Kept.new (grown_drew w none) (fun _ => False)) (fun e => e) (fun e => e) (fun e => e) (fun _ _ e => e), Kept.new (grown_drew w none) _⟩
  clear h
  go_enter Tryz.func104, Tryz.ntmps104
  go_wp2
  go_region_held3 (fun W => W.cell? ⟨vb, 0, none⟩ = some (.pointer (some ⟨b, 0, none⟩)) ∧ LsJ w W vb b sg ip M R) (first | assumption | exact ⟨c0, hJ0⟩)
    ((first
      | (go_at_call_of 105 (Value.int .u32 (x : Int)); obtain ⟨_, hI⟩ := ‹_ ∧ LsJ w _ vb b sg ip M R›; refine (HC.out _ x hx hI).mono ?_; rintro e w5 ⟨rfl, hJ, hc⟩; have hK := And.intro hc hJ)
      | (go_at_call_of 105 (Value.int .u32 (y : Int)); obtain ⟨_, hI⟩ := ‹_ ∧ LsJ w _ vb b sg ip M R›; refine (HC.out _ y hy hI).mono ?_; rintro e w6 ⟨rfl, hJ6, hc6⟩; have hK6 := And.intro hc6 hJ6)))
  have HR := hide hJ6
  clear hJ hJ6 hc hc6 hK hK6 c0 hJ0 HC
  go_wp2
  go_ret
  exact ⟨rfl, HR.out.i, HR.out.k⟩
end
/-- The book's less, as the heap takes it. -/
def lsB (vb b sg : Nat) (ip : Ix.Ip) (M : List (Nat × Int)) (R : List Bg) : Hp.Les where
  k := 104
  cap := #[.pointer (some ⟨vb, 0, none⟩)]
  lt := fun x y => decide (tl M R x.toNat < tl M R y.toNat)
  ok := fun x => 0 ≤ x ∧ x < 4294967296
  I := fun w => LsI w vb b sg ip M R
  F := fun i => i = vb ∨ i = b ∨ i = sg ∨ ip.own i
  S := fun i => ip.own i
theorem lsB_ok (vb b sg : Nat) (ip : Ix.Ip) (M : List (Nat × Int)) (R : List Bg) : (lsB vb b sg ip M R).Ok where
  kind := ⟨rfl, _, rfl⟩
  call := by
    intro x y w hI hx hy
    obtain ⟨x', rfl⟩ : ∃ t : Nat, x = (t : Int) := ⟨x.toNat, by have := hx.1; omega⟩
    obtain ⟨y', rfl⟩ : ∃ t : Nat, y = (t : Int) := ⟨y.toNat, by have := hy.1; omega⟩
    refine (less_any hI x' y' (by have := hx.2; omega) (by have := hy.2; omega)).mono ?_
    rintro e w' ⟨rfl, h1, h2⟩
    exact ⟨rfl, h1, h2⟩
  keep := by
    intro w w' X hI hk hX
    exact LsI.far hI hk (fun e => hX _ e (.inl rfl)) (fun e => hX _ e (.inr (.inl rfl))) (fun e => hX _ e (.inr (.inr (.inl rfl)))) (fun i hi e => hX _ e (.inr (.inr (.inr hi))))
  below := by
    intro w i hI hF
    have hI : LsI w vb b sg ip M R := hI
    rcases hF with rfl | rfl | rfl | hF
    · exact row_lt hI.var
    · exact hI.fd.blt
    · exact row_lt hI.fd.row
    · obtain ⟨lo, h3⟩ := hI.fd.ix; exact h3.lt _ hF
  sub := fun i h => .inr (.inr (.inr h))
end Go.Proofs.YtinkkocleognbaaGreatDoor
