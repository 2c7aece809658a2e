/- Lists of frames, read: the contract of SameFrames. -/
import Derived.Test.YtoeehajdmdmemabDoorFk
namespace Go.Proofs.YtoeehajdmdmemabDoor
open Go.RowKit
attribute [local go_sem ↓] Go.wp_at_zero Go.wp_at_succ

/-- The frame x, laid at the place j of a row at the head of block g. -/
structure FrC (w : World) (g j : Nat) (x : El) : Prop where
  c0 : w.cell? ⟨g, j * 3, none⟩ = some (.int .u64 x.f.e)
  c1 : w.cell? ⟨g, j * 3 + 1, none⟩ = some (.int .u64 x.f.s)
  c2 : w.cell? ⟨g, j * 3 + 2, none⟩ = some x.v
  body : ∃ bo bc, x.v = .slice bo x.f.b.length bc ∧ At w bo x.f.b
  short : x.f.b.length ≤ 32
def FsR (w : World) (ao : Option Addr) (ys : List El) : Prop := ∀ j x, ys[j]? = some x → ∃ g, ao = some ⟨g, 0, none⟩ ∧ FrC w g j x
theorem FrC.grown {w w' : World} {g j : Nat} {x : El} (h : FrC w g j x) (hg : w.grownBy w' none) : FrC w' g j x := by
  obtain ⟨bo, bc, e, ha⟩ := h.body
  exact ⟨hg.cell h.c0 (by simp), hg.cell h.c1 (by simp), hg.cell h.c2 (by simp), ⟨bo, bc, e, ha.kept hg (fun _ _ e => by cases e)⟩, h.short⟩
theorem FsR.grown {w w' : World} {ao : Option Addr} {ys : List El} (h : FsR w ao ys) (hg : w.grownBy w' none) : FsR w' ao ys := fun j x hx => by
  obtain ⟨g, ha, hc⟩ := h j x hx
  exact ⟨g, ha, hc.grown hg⟩
theorem FsAt.read {w : World} {base : Nat} {v : Value} {ys : List El} (h : FsAt w base v ys) : ∃ ao cap, v = .slice ao ys.length cap ∧ FsR w ao ys ∧ ys.length ≤ cap := by
  rcases h.own.2 with ⟨rfl, h0⟩ | ⟨g, cap, cur, rfl, hb, hg, hc, hm, hs, ht⟩
  · have : ys = [] := List.eq_nil_of_length_eq_zero h0
    subst this
    exact ⟨none, 0, rfl, (fun j x hx => by simp at hx), Nat.le_refl _⟩
  · refine ⟨some ⟨g, 0, none⟩, cap, rfl, fun j x hx => ⟨g, rfl, ?_⟩, hc⟩
    have hjl := (List.getElem?_eq_some_iff.1 hx).1
    obtain ⟨h1, h2, h3⟩ := fcl_at ys j x hx
    have hce : ∀ k u, (fcl ys)[k]? = some u → w.cell? ⟨g, k, none⟩ = some u := fun k u hu => by
      have := h.own.cells (g := g) rfl k u hu
      rwa [Addr.add_lit, Nat.zero_add] at this
    have hx' := h.each x (List.mem_of_getElem? hx)
    obtain ⟨bo, bc, e, q1, q2, q3, q4, q5, q6⟩ := own_at hx'.1.own
    exact ⟨hce _ _ (by rw [Nat.mul_comm]; exact h1), hce _ _ (by rw [Nat.mul_comm]; exact h2), hce _ _ (by rw [Nat.mul_comm]; exact h3), ⟨bo, bc, e, q4⟩, hx'.2.2.2⟩
theorem frs_at {l : List El} {j : Nat} {x : El} (h : l[j]? = some x) : (frs l)[j]? = some x.f := by simp [frs, h]

set_option maxHeartbeats 1000000 in
theorem sameFrs (ao bo : Option Addr) (n c d : Nat) (xs ys : List El) (w : World) (hf : frs xs = frs ys) (hn : xs.length = n) (ha : FsR w ao xs) (hb : FsR w bo ys) (hm : n ≤ 1000000000000000000) :
    Calls Tryd.prog 8 #[.slice ao n c, .slice bo n d] w fun r w' => r = .returned (.bool true) ∧ w.grownBy w' none := by
  have HA := hide (And.intro hf (And.intro hn (And.intro ha hb)))
  clear hf hn ha hb
  go_enter Tryd.func8, Tryd.ntmps8
  go_wp2
  go_loopg [5] n (fun k i wr => ∃ j : Nat, k + j = n ∧ i = .int .i64 j ∧ w.grownBy wr none)
  case atStart => exact ⟨0, by omega, rfl, grown_refl _ _⟩
  case round =>
    obtain ⟨j, hkj, rfl, hg⟩ := hrel
    by_cases hk : 0 < gk
    · obtain ⟨hf, hn, ha, hb⟩ := HA.out
      have hjx : j < xs.length := by omega
      have hjy : j < ys.length := by rw [← frs_length, ← hf, frs_length]; exact hjx
      obtain ⟨ga, rfl, hca⟩ := ha j xs[j] (by simp [hjx])
      obtain ⟨gb, rfl, hcb⟩ := hb j ys[j] (by simp [hjy])
      have hfe : xs[j].f = ys[j].f := by
        have h1 := frs_at (l := xs) (j := j) (x := xs[j]) (by simp [hjx])
        have h2 := frs_at (l := ys) (j := j) (x := ys[j]) (by simp [hjy])
        rw [hf, h2] at h1
        simpa using h1.symm
      have hca' := hca.grown hg
      have hcb' := hcb.grown hg
      generalize xs[j] = x at *
      generalize ys[j] = y at *
      rcases x with ⟨xa, f, xv, xl, xh⟩
      rcases y with ⟨ya, f', yv, yl, yh⟩
      simp only at hfe
      subst hfe
      obtain ⟨vo, vc, hv, hva⟩ := hca'.body
      obtain ⟨uo, uc, hu, hua⟩ := hcb'.body
      simp only at hv hu
      subst hv
      subst hu
      obtain ⟨a0, a1, a2, -, hsh⟩ := hca'
      obtain ⟨b0, b1, b2, -, -⟩ := hcb'
      simp only at a0 a1 a2 b0 b1 b2 hva hua hsh
      have h1 : (0 : Int) ≤ (j : Int) := by omega
      have h2 : (j : Int) < (n : Int) := by omega
      have HV := hide (And.intro hva hua)
      clear hf hn ha hb hca hcb hva hua
      have HS : Hid (Calls Tryd.prog 16 #[.agg #[.int .u64 f.e, .int .u64 f.s, .slice vo f.b.length vc], .agg #[.int .u64 f.e, .int .u64 f.s, .slice uo f.b.length uc]] wr.drew fun r w' => r = .returned (.bool true) ∧ wr.drew.grownBy w' none) := sameFr f.e f.s vo uo _ vc uc f.b wr.drew rfl HV.out.1 HV.out.2 (by omega)
      go_wp2
      go_region_with (go_at_call 16; refine HS.out.mono ?_; rintro r w1 ⟨rfl, hg1⟩)
      all_goals
        go_wp2
        go_roundg (gk - 1)
        case measure => omega
        case rel => exact ⟨j + 1, by omega, by go_num, grown_trans hg (grown_trans (grown_drew _ _) hg1)⟩
    · have hj : j = n := by omega
      subst hj
      go_wp2
      go_ret
      exact ⟨rfl, hg⟩
end Go.Proofs.YtoeehajdmdmemabDoor
