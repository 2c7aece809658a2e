/- The document's Find. -/
import Derived.Test.YtinkkocleognbaaGreatDoorP1
namespace Go.Proofs.YtinkkocleognbaaGreatDoor
open Go.RowKit Go.Shelf
attribute [local go_sem ↓] Go.wp_at_zero Go.wp_at_succ
attribute [local go_sem] Oper.semAt_some
set_option maxRecDepth 100000 in
set_option maxHeartbeats 40000000 in
theorem dsfind_any {w : World} {a b c : Nat} (ho : Gx.OkS a b c) {ao : Option Addr} {len cap : Nat} {rs : List Rc} (hl : rs.length = len) (hlen : len ≤ 10000) (hR : RecsAt w ao rs) (hO : ∀ r ∈ rs, r.Ok) (fr : Int) {lo d : Nat} {v : Value} {S' : Sb} (hd : Db w lo d v S') (ha : S'.a = a) (hb : S'.b = b) (g : Nat → Bool) (hg : ∀ k, sameS (fo (nS a b c) rs k) S' = g k) :
    Calls Tryz.prog 23 #[.agg #[.int .i64 (a : Int), .int .i64 (b : Int), .int .i64 (c : Int)], .slice ao len cap, .int .i64 fr, .pointer (some ⟨d, 0, none⟩)] w fun e w' => e = .returned (fiV (fiR g fr (rn (nS a b c) rs))) ∧ w.grownBy w' none := by
  have g0 := grown_alloc w (.cells #[.int .i64 (a : Int), .int .i64 (b : Int), .int .i64 (c : Int)] 23)
  have HDs := dstates_any (cap := cap) ho hl hlen (hR.grown g0) hO
  unfold limV at HDs
  have hm : rn (nS a b c) rs ≤ 10000 := by have := (ran_is (nS a b c) rs).le; omega
  have HSm : Hid (∀ W lo2 d2 v2 k, w.grownBy W none → Db W lo2 d2 v2 (fo (nS a b c) rs k) → Calls Tryz.prog 51 #[.pointer (some ⟨d2, 0, none⟩), .pointer (some ⟨d, 0, none⟩)] W fun e w' => e = .returned (.bool (g k)) ∧ W.grownBy w' none) := by
    intro W lo2 d2 v2 k gW hD
    obtain ⟨e1, e2, -⟩ := fo_abc (nS a b c) rs k
    have hwk := (fo_ok (nS_ok ho) rs k).wk
    have := dsame_any hD (hd.then gW) (by rw [e1, ha]; rfl) (by rw [e2, hb]; rfl) (by have := hwk.few; have := hwk.b1; omega)
    rw [hg k] at this
    exact this
  have HG0 := hide g0
  obtain ⟨c0, c1, c2, -⟩ := box3 (heap_alloc_new w (.cells [Value.int .i64 (a : Int), .int .i64 (b : Int), .int .i64 (c : Int)].toArray 23))
  obtain ⟨m1, hm1⟩ : ∃ m1, m1 = rn (nS a b c) rs + 1 := ⟨_, rfl⟩
  obtain ⟨m, hm0⟩ : ∃ m, m = rn (nS a b c) rs := ⟨_, rfl⟩
  have HM1 : Hid (m1 = m + 1 ∧ m ≤ 10000) := ⟨by rw [hm0]; exact hm1, by rw [hm0]; exact hm⟩
  rw [← hm1] at HDs
  rw [← hm0]
  clear hm1 hm0 hm hg hd ha hb hR hO hl ho g0
  generalize rE (nS a b c) rs = er at *
  generalize fo (nS a b c) rs = f at *
  generalize (a : Int) = a at *
  generalize (b : Int) = b at *
  generalize (c : Int) = c at *
  go_enter Tryz.func23, Tryz.ntmps23
  go_wp2_with fail
  generalize w.alloc (.cells #[.int .i64 a, .int .i64 b, .int .i64 c] 23) = w0 at *
  refine HDs.mono ?_
  clear HDs c0 c1 c2
  rintro e w1 ⟨v1, rfl, ds, hD, g1⟩
  obtain ⟨gv, cv, cur, rfl, -⟩ := Ix.own_row hD.row (by have := HM1.out; omega)
  have D1 := hide hD
  have G1 := hide (grown_trans HG0.out g1)
  clear hD g1 HG0
  go_wp2
  go_loopg [12] m1 (fun k i wr => ∃ j : Nat, k + j = m1 ∧ i = .int .i64 j ∧ Hid (w1.grownBy wr none ∧ ∀ q, q < j → ¬ (fr ≤ (q : Int) ∧ g q = true)))
  case atStart => exact ⟨0, by omega, rfl, grown_refl _ _, fun q hq => by omega⟩
  case round =>
    obtain ⟨j, hkj, rfl, HL⟩ := hrel
    by_cases hk : 0 < gk
    · have h1 : (0 : Int) ≤ (j : Int) := by omega
      have h2 : (j : Int) < (m1 : Int) := by omega
      have hjb : j ≤ 10000 := by have := HM1.out; omega
      have HGK := hide hk
      have hD := D1.out.then HL.out.1
      obtain ⟨⟨dk, uk⟩, hdk⟩ : ∃ x, ds[j]? = some x := ⟨ds[j]'(by rw [hD.len]; omega), List.getElem?_eq_getElem _⟩
      have ck := hD.cell hdk
      have HCl := hide (HSm.out wr _ _ _ j (grown_trans G1.out HL.out.1) (hD.bk j _ hdk))
      dsimp only at ck HCl
      clear hD hdk hk
      by_cases hf : fr ≤ (j : Int)
      · have HF := hide hf
        have f1 : decide (fr ≤ (j : Int)) = true := decide_eq_true hf
        have f2 : ¬ (j : Int) < fr := by omega
        go_wp2_with fail
        refine HCl.out.mono ?_
        clear HCl ck
        rintro e wz ⟨rfl, gz⟩
        have HGz := hide gz
        clear gz
        cases hgj : g j with
        | true =>
          have HE : Hid (fiR g fr m = some j) := fiR_some (by have := HM1.out; omega) HF.out hgj HL.out.2
          have HG := hide (grown_trans G1.out (grown_trans HL.out.1 HGz.out))
          clear hgj HL HGz
          go_wp2
          go_ret2
          exact ⟨by rw [HE.out]; rfl, HG.out⟩
        | false =>
          have HN : Hid (w1.grownBy wz none ∧ ∀ q, q < j + 1 → ¬ (fr ≤ (q : Int) ∧ g q = true)) := ⟨grown_trans HL.out.1 HGz.out, fun q hq => by
            by_cases e : q = j
            · subst e; rw [hgj]; simp
            · exact HL.out.2 q (by omega)⟩
          clear hgj HL HGz
          go_wp2
          go_roundg (gk - 1)
          case measure => have := HGK.out; omega
          case rel => exact ⟨j + 1, by have := HGK.out; omega, by go_num, HN.out⟩
      · have f1 : decide (fr ≤ (j : Int)) = false := decide_eq_false hf
        have f2 : (j : Int) < fr := by omega
        have HN : Hid (w1.grownBy wr none ∧ ∀ q, q < j + 1 → ¬ (fr ≤ (q : Int) ∧ g q = true)) := ⟨HL.out.1, fun q hq h => by
          by_cases e : q = j
          · subst e; exact hf h.1
          · exact HL.out.2 q (by omega) h⟩
        clear HCl ck HL
        go_wp2
        go_roundg (gk - 1)
        case measure => have := HGK.out; omega
        case rel => exact ⟨j + 1, by have := HGK.out; omega, by go_num, HN.out⟩
    · obtain rfl : j = m1 := by omega
      have HE : Hid (fiR g fr m = none) := fiR_none (fun q hq => HL.out.2 q (by have := HM1.out; omega))
      have HG := hide (grown_trans G1.out HL.out.1)
      clear HL hkj hk
      go_wp2
      go_ret2
      exact ⟨by rw [HE.out]; rfl, HG.out⟩
end Go.Proofs.YtinkkocleognbaaGreatDoor
