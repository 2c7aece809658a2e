/- From a place up to the top. -/
import Derived.Test.YtkbhjdjdjfdikaaHd
namespace Go.Proofs.Ytkbhjdjdjfdikaa
open Go.RowKit Ap
attribute [local go_sem ↓] Go.wp_at_zero Go.wp_at_succ
theorem above_any (j : Nat) (w : World) (h1 : j < 1000000000) : Calls Try.prog 62 #[.int .i64 (j : Int)] w fun e w' => e = .returned (.int .i64 (((((j + 1) / 2 : Nat) : Int)) - 1)) ∧ w' = w := by
  have e1 : ((j : Int) + 1).tdiv 2 = (((j + 1) / 2 : Nat) : Int) := by rw [Int.tdiv_eq_ediv_of_nonneg (by omega)]; omega
  go_enter Try.func62, Try.ntmps62
  go_wp2
  go_ret
  exact ⟨rfl, rfl⟩
section
variable {w w' : World} {L : Les} {p : Hp} {E : List (Nat × Int)} {T : List Nat} {N B : Nat}
theorem tcells_set {T : List Nat} {i x : Nat} : tcells (T.set i x) = (tcells T).set i (.int .i64 (x : Int)) := by simp [tcells, List.map_set]
/-- A place's least one, written. -/
theorem HpAt.put (hL : L.Ok) (h : HpAt w L p E T N B) {g cap : Nat} (hv : p.vl = .slice (some ⟨g, 0, none⟩) T.length cap) {j : Nat} (hj : j < T.length) (x : Nat) : HpAt (w.setCell ⟨g, j, none⟩ (.int .i64 (x : Int))) L p E (T.set j x) N B ∧ Kept w (w.setCell ⟨g, j, none⟩ (.int .i64 (x : Int))) (fun i => p.vl.ownBlock = some i) := by
  obtain ⟨g', cap', cur, hv', hg, hn, hm, hs, ht⟩ := own_row h.lst (by omega)
  rw [hv] at hv'
  cases hv'
  have hown : p.vl.ownBlock = some g := by rw [hv]; rfl
  have k0 := kept_setCell w g j (.int .i64 (x : Int))
  have k1 : Kept w (w.setCell ⟨g, j, none⟩ (.int .i64 (x : Int))) (fun i => p.vl.ownBlock = some i) := k0.mono (fun i _ e => by rw [e]; exact hown)
  have hgh : g ≠ p.h := fun e => by have := h.head; rw [← e, hg] at this; simp at this
  have hgm : g ≠ p.mb := fun e => by obtain ⟨es, ck, hm⟩ := h.map.block; rw [← e, hg] at hm; cases hm
  refine ⟨⟨k0.at h.head (fun e => hgh e.symm), row_same h.ent (fun q hq => k0.block q (h.ent.lt q hq).2 (fun e => ?_)), ?_, h.map.same (k0.block _ h.map.lt (fun e => hgm e.symm)), hL.keep _ _ _ h.inv k0 (fun i e => by rw [e]; exact h.off _ (.inr (.inr (.inl hown)))), h.off⟩, k1⟩
  · subst e
    rcases h.ent.2 with ⟨hq2, _⟩ | ⟨g2, c2, cu2, hq2, hq3, hq4, _⟩
    · rw [hq2] at hq; cases hq
    · rw [hq2] at hq; cases hq; rw [hg] at hq4; simp at hq4
  · rw [List.length_set]
    refine ⟨by simp [tcells_length], Or.inr ⟨g, cap, (cur.set j (.int .i64 (x : Int))).toArray, hv, Nat.zero_le _, row_setCell hg j _, hn, hm, by simpa using hs, ?_⟩⟩
    rw [tcells_set, ← ht]
    simp [List.take_set]
set_option maxHeartbeats 4000000 in
theorem settle_any (hL : L.Ok) (h : HpAt w L p E T N B) (hT : T.length = E.length) (hE : E.length ≤ 100000) (k : Nat) (hk : k ≤ E.length) (hin : ∀ b, b < E.length → ¬ Pth k b → tn T b < E.length) (hok : ∀ e ∈ E, L.ok e.2) :
    Calls Try.prog 48 #[.pointer (some ⟨p.h, 0, none⟩), .int .i64 ((k : Int) - 1)] w fun e w' => e = .returned (.tuple #[]) ∧ HpAt w' L p E (stl L.lt E T k) N B ∧ Kept w w' (fun i => L.S i ∨ p.vl.ownBlock = some i) := by
  have HO := hide (And.intro hok hin)
  have HT := hide hT
  have HH := hide h
  clear hok h hT hin
  generalize hn : E.length = n at *
  have HN := hide hn
  clear hn
  go_enter Try.func48, Try.ntmps48
  go_wp2
  go_loopg [1] k (fun q v wr => v = .int .i64 ((q : Int) - 1) ∧ q ≤ n ∧ Hid (∃ Tr, Tr.length = n ∧ HpAt wr L p E Tr N B ∧ stl L.lt E Tr q = stl L.lt E T k ∧ (∀ b, b < n → ¬ Pth q b → tn Tr b < n) ∧ Kept w wr (fun i => L.S i ∨ p.vl.ownBlock = some i)))
  case atStart => exact ⟨rfl, hk, T, HT.out, HH.out, rfl, HO.out.2, Kept.refl _ _⟩
  case round =>
    obtain ⟨rfl, hqn, HR⟩ := hrel
    rcases Nat.eq_zero_or_pos gk with hz | hz
    · subst hz
      go_wp2
      go_end0
      obtain ⟨Tr, h1, h2, h3, h4, h5⟩ := HR.out
      rw [stl_zero] at h3
      rw [h3] at h2
      exact ⟨rfl, h2, h5⟩
    · obtain ⟨j, rfl⟩ : ∃ j, gk = j + 1 := ⟨gk - 1, by omega⟩
      rw [show (((j + 1 : Nat) : Int)) - 1 = (j : Int) by omega]
      obtain ⟨Tr, h1, h2, h3, h4, h5⟩ := HR.out
      have HR1 := hide (And.intro h1 (And.intro h2 (And.intro h3 (And.intro h4 h5))))
      clear HR h1 h2 h3 h4 h5
      go_wp2
      go_loopg [4, 5] 2 (fun q l v ws => Hid (HpAt ws L p E Tr N B ∧ Kept wr ws L.S) ∧ ∃ b m : Nat, v = .int .i64 (b : Int) ∧ l = .int .i64 (m : Int) ∧ Hid ((q = 2 ∧ b = 2 * j + 1 ∧ m = j) ∨ (q = 1 ∧ 2 * j + 1 < n ∧ b = 2 * j + 2 ∧ m = lwA L.lt E Tr j) ∨ (q = 0 ∧ 2 * j + 2 < n ∧ b = 2 * j + 3 ∧ m = lw L.lt E Tr j)))
      case atStart => exact ⟨⟨HR1.out.2.1, Kept.refl _ _⟩, 2 * j + 1, j, by simp, rfl, .inl ⟨rfl, rfl, rfl⟩⟩
      case round =>
        obtain ⟨HS, b, m, rfl, rfl, HB⟩ := hrel
        have hb1 : 2 * j + 1 ≤ b ∧ b ≤ 2 * j + 3 ∧ b = 2 * j + 3 - gk ∧ gk ≤ 2 := by rcases HB.out with ⟨e1, e2, _⟩ | ⟨e1, _, e2, _⟩ | ⟨e1, _, e2, _⟩ <;> omega
        obtain ⟨hb1, hb2, hb3, hb4⟩ := hb1
        have HB3 := hide hb3
        clear hb3
        have hsub : ∀ c, 2 * j + 1 ≤ c → c < n → tn Tr c < n := fun c h1 h2 => HR1.out.2.2.2.1 c h2 (fun e => by have := e.le; omega)
        have hmn : m < n := by
          rcases HB.out with ⟨_, _, e3⟩ | ⟨_, e0, _, e3⟩ | ⟨_, e0, _, e3⟩
          · omega
          · rw [e3]
            rcases lwA_or (lt := L.lt) (E := E) (T := Tr) j with e | ⟨e1, e2⟩
            · rw [e]; omega
            · rw [e2]; exact hsub _ (by omega) e0
          · rw [e3]
            rcases lw_or (lt := L.lt) (E := E) (T := Tr) j with e | ⟨e1, e2⟩ | ⟨e1, e2⟩
            · rw [e]; omega
            · rw [e2]; exact hsub _ (by omega) (by omega)
            · rw [e2]; exact hsub _ (by omega) e0
        obtain ⟨-, -, -, -, c4, c5, -⟩ := HS.out.1.cells
        obtain ⟨ge, cape, cure, hve, -, -, -, -, -⟩ := own_row HS.out.1.ent (by have := HN.out; omega)
        obtain ⟨gl, capl, curl, hvl, hgl, hnl, -, -, htl⟩ := own_row HS.out.1.lst (by have := HR1.out.1; omega)
        rw [hve, HN.out] at c4
        rw [hvl, HR1.out.1] at c5
        rw [HR1.out.1] at hnl
        by_cases hbn : b < n ∧ b < 2 * j + 3
        · obtain ⟨hbn, hbj⟩ := hbn
          have cb := own_cell hgl htl (tcells_get (T := Tr) (i := b) (by have := HR1.out.1; omega))
          have htb := hsub b hb1 hbn
          have hah := ahead_any hL HS.out.1 (tn Tr b) m (by rw [HN.out]; exact htb) (by rw [HN.out]; exact hmn) HO.out.1
          have HL := hide (And.intro hvl hgl)
          clear hve hvl hgl htl hsub
          generalize htb2 : tn Tr b = tb at *
          have HTB := hide htb2
          clear htb2
          have hstep : ∀ m', m' = lw1 L.lt E Tr m b → (gk - 1 = 2 ∧ b + 1 = 2 * j + 1 ∧ m' = j) ∨ (gk - 1 = 1 ∧ 2 * j + 1 < n ∧ b + 1 = 2 * j + 2 ∧ m' = lwA L.lt E Tr j) ∨ (gk - 1 = 0 ∧ 2 * j + 2 < n ∧ b + 1 = 2 * j + 3 ∧ m' = lw L.lt E Tr j) := by
            intro m' hm'
            rcases HB.out with ⟨e1, e2, e3⟩ | ⟨e1, e0, e2, e3⟩ | ⟨e1, _, e2, e3⟩
            · refine .inr (.inl ⟨by omega, by omega, by omega, ?_⟩)
              unfold lwA
              rw [if_pos (by rw [HN.out]; omega), hm', e2, e3]
            · refine .inr (.inr ⟨by omega, by omega, by omega, ?_⟩)
              unfold lw
              rw [if_pos (by rw [HN.out]; omega), hm', e2, e3]
            · omega
          have HSt := hide hstep
          clear hstep
          by_cases hm3 : n < 2 * j + 3
          all_goals
            go_wp2_with fail
            refine hah.mono ?_
            clear hah
            rintro e w3 ⟨rfl, hI3, hk3⟩
            have HS3 : Hid (HpAt w3 L p E Tr N B ∧ Kept wr w3 L.S) := ⟨HS.out.1.less hL hk3 hI3, hk3⟩
            have HK := hide (HS.out.2.trans hk3 (fun _ _ e => e))
            clear hI3 hk3 c4 c5 cb
            cases hr : ah L.lt (en E tb) (en E m) with
            | true =>
              have HM := hide (HSt.out tb (by unfold lw1; rw [HTB.out, hr]; rfl))
              clear hr
              go_wp2
              go_roundg (gk - 1)
              case measure => have := HB3.out; omega
              case rel => exact ⟨⟨HS3.out.1, HK.out⟩, b + 1, tb, by simp, rfl, HM.out⟩
            | false =>
              have HM := hide (HSt.out m (by unfold lw1; rw [HTB.out, hr]; rfl))
              clear hr
              go_wp2
              go_roundg (gk - 1)
              case measure => have := HB3.out; omega
              case rel => exact ⟨⟨HS3.out.1, HK.out⟩, b + 1, m, by simp, rfl, HM.out⟩
        · have hml : m = lw L.lt E Tr j := by
            rcases HB.out with ⟨e1, e2, e3⟩ | ⟨e1, e0, e2, e3⟩ | ⟨e1, _, e2, e3⟩
            · unfold lw lwA
              rw [if_neg (by rw [HN.out]; omega), if_neg (by rw [HN.out]; omega)]
              exact e3
            · unfold lw
              rw [if_neg (by rw [HN.out]; omega)]
              exact e3
            · exact e3
          have cj := own_cell hgl htl (tcells_get (T := Tr) (i := j) (by have := HR1.out.1; omega))
          have fj : wr.frozen? ⟨gl, j, none⟩ = false := free_row hgl j
          have hput := HpAt.put hL HS.out.1 hvl (j := j) (by have := HR1.out.1; omega) m
          have HP := hide hput
          have HML := hide hml
          clear hput hml hve hvl hgl htl hsub HB
          have hjn : j < n := by omega
          have hnot : ¬ b < n ∨ ¬ b < 2 * j + 3 := by omega
          clear hbn
          by_cases hm3 : n < 2 * j + 3
          case' pos =>
            have hnb : ¬ b < n := by omega
          case' neg =>
            have hnb : ¬ b < 2 * j + 3 := by omega
          all_goals
            clear hnot
            have hab := above_any j (wr.setCell ⟨gl, j, none⟩ (.int .i64 (m : Int))) (by omega)
            generalize hk2 : (j + 1) / 2 = k2 at *
            have HK2 := hide hk2
            clear hk2
            go_wp2_with fail
            refine hab.mono ?_
            clear hab cj fj c4 c5
            rintro e w4 ⟨rfl, hw4⟩
            have HW := hide hw4
            clear hw4
            go_wp2
            go_roundg k2
            case measure => have := HK2.out; omega
            case rel =>
              refine ⟨rfl, by have := HK2.out; omega, Tr.set j m, by rw [List.length_set]; exact HR1.out.1, by rw [HW.out]; exact HP.out.1, ?_, ?_, ?_⟩
              · rw [← HR1.out.2.2.1, stl_step _ _ _ (Nat.succ_pos j), HML.out, HK2.out]
                rfl
              · intro c hc hp
                by_cases hcj : j = c
                · subst hcj
                  rw [tn_set_self (by rw [HR1.out.1]; exact hc)]
                  exact hmn
                · rw [tn_set_other hcj]
                  refine HR1.out.2.2.2.1 c hc (fun e => ?_)
                  rcases e.cases with e | e
                  · omega
                  · rw [HK2.out] at e; exact hp e
              · rw [HW.out]
                exact (HR1.out.2.2.2.2.trans HS.out.2 (fun _ _ e => .inl e)).trans HP.out.2 (fun _ _ e => .inr e)
end
end Go.Proofs.Ytkbhjdjdjfdikaa
