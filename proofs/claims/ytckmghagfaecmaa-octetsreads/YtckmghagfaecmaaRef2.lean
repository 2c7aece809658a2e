/- The contracts of the document's own reader: Take, Number. -/
import Derived.Test.YtckmghagfaecmaaRef
namespace Go.Proofs.Ytckmghagfaecmaa
open Go.RowKit
attribute [local go_sem ↓] Go.wp_at_zero Go.wp_at_succ

/-- What Take of the document's reader leaves. -/
def DTook (w w' : World) (d : Nat) (b : List Int) (bo : Option Addr) (cap at_ : Nat) (e n : Int) (v : Value) : Prop :=
  ∃ at' e', w'.ownsRow w.heap.size 5 1 v (takeF (restF b at_ e) e n).1.length ((takeF (restF b at_ e) e n).1.map (Value.int .u8)) ∧ RfAt w' d b bo cap at' e' ∧ w.grownBy w' (some d) ∧ restF b at' e' = (takeF (restF b at_ e) e n).2.1 ∧ e' = (takeF (restF b at_ e) e n).2.2

theorem drow_err {w : World} {d at_ cap : Nat} {b : List Int} {bo : Option Addr} {e : Int} (h : RfAt w d b bo cap at_ e) (hoff : b ≠ [] → Off bo d) (E : Int) : RfAt (w.setCell ⟨d, 2, none⟩ (.int .i64 E)) d b bo cap at_ E :=
  ⟨row_setCell h.1 2 _, ⟨at_kept h.2.1.1 hoff (grown_setCell w d 2 _), h.2.1.2⟩, h.2.2⟩
theorem takeF_none (b : List Int) (at_ : Nat) (e n : Int) (h : e ≠ 0 ∨ n < 0 ∨ (b.length : Int) - (at_ : Int) < n) (hat : at_ ≤ b.length) : (takeF (restF b at_ e) e n).1 = [] := by
  unfold takeF
  split
  · rfl
  · rename_i he
    have he0 : e = 0 := by simpa using he
    subst he0
    split
    · rfl
    · split
      · rfl
      · rename_i h1 h2
        simp [restF] at h2
        omega

set_option maxHeartbeats 2000000 in
theorem dtake_any (d at_ cap : Nat) (b : List Int) (bo : Option Addr) (e n : Int) (w : World) (h : RfAt w d b bo cap at_ e) (hoff : b ≠ [] → Off bo d) (hb : b.length ≤ 140737488355328) (hm1 : -9223372036854775808 ≤ n) (hm2 : n ≤ 9223372036854775807) :
    Calls Try.prog 32 #[.pointer (some ⟨d, 0, none⟩), .int .i64 n] w fun r w' => ∃ v, r = .returned v ∧ DTook w w' d b bo cap at_ e n v := by
  have c0 := h.c0
  have c1 := h.c1
  have c2 := h.c2
  have f1 : w.frozen? ⟨d, 1, none⟩ = false := free_row h.1 _
  have f2 : w.frozen? ⟨d, 2, none⟩ = false := free_row h.1 _
  have hle := h.2.2
  obtain ⟨at', e', ha', hT, hcase⟩ := restF_take b at_ e n h.2.2
  have HT := hide (And.intro hT hoff)
  have H := hide h
  have hG := takeF_none b at_ e n
  have HG := hide hG
  clear hT hoff h hG
  rcases hcase with ⟨he, rfl, rfl⟩ | ⟨rfl, hn, rfl, rfl⟩ | ⟨rfl, hn, hl, rfl, rfl⟩ | ⟨rfl, hn, hl, rfl, rfl⟩
  · have he' : (e' == 0) = false := beq_eq_false_iff_ne.2 he
    have he2 : (e' != 0) = true := by simpa using he
    have hnil := HG.out (Or.inl he) hle
    have HN := hide hnil
    clear hnil
    go_enter Try.func32, Try.ntmps32
    go_wp2
    go_quiet (fail)
    go_wp2
    go_ret
    refine ⟨_, rfl, at', e', ?_, H.out, grown_drewN _ _ _, ?_, ?_⟩
    · rw [HN.out]; exact World.ownsRow_nil _ _ _ _
    · rw [HT.out.1]
    · rw [HT.out.1]
  · have hnil := HG.out (Or.inr (Or.inl hn)) hle
    have HN := hide hnil
    clear hnil
    have c2' : (w.setCell ⟨d, 2, none⟩ (.int .i64 2)).cell? ⟨d, 2, none⟩ = some (.int .i64 2) := (drow_err H.out HT.out.2 2).c2
    go_enter Try.func32, Try.ntmps32
    go_wp2
    go_quiet (fail)
    go_wp2
    go_ret
    refine ⟨_, rfl, at', 2, ?_, drow_err H.out HT.out.2 2, ?_, ?_, ?_⟩
    · rw [HN.out]; exact World.ownsRow_nil _ _ _ _
    · exact grown_trans (grown_setCell w d 2 _) (grown_drewN _ _ _)
    · rw [HT.out.1]
    · rw [HT.out.1]
  · have hnil := HG.out (Or.inr (Or.inr hl)) hle
    have HN := hide hnil
    clear hnil
    generalize hbl : b.length = N at *
    have HBL := hide hbl
    clear hbl
    have hwr : IntKind.i64.wrap ((N : Int) - (at' : Int)) = (N : Int) - (at' : Int) := by rw [IntKind.wrap_i64]; omega
    have hd0 : decide (n < 0) = false := by simp; omega
    go_enter Try.func32, Try.ntmps32
    go_wp2
    go_quiet (fail)
    go_wp2
    go_ret
    refine ⟨_, rfl, at', 4, ?_, drow_err (w := w.drewN _) H.out HT.out.2 4, ?_, ?_, ?_⟩
    · rw [HN.out]; exact World.ownsRow_nil _ _ _ _
    · exact grown_trans (grown_drewN w _ _) (grown_setCell _ d 2 _)
    · rw [HT.out.1]
    · rw [HT.out.1]
  · obtain ⟨k, rfl⟩ := Int.eq_ofNat_of_zero_le hn
    simp only [Int.toNat_natCast] at HT ha'
    have hGk : (takeF (restF b at_ 0) 0 (k : Int)).1 = (b.drop at_).take k := by
      have h1 : ¬ ((k : Int) < 0) := by omega
      have h2 : ¬ (((b.length - at_ : Nat) : Int) < (k : Int)) := by omega
      simp [takeF, restF, h1, h2]
    have hkl : ((b.drop at_).take k).length = k := by simp; omega
    have hcap := H.out.2.1.2.1
    have hcm := H.out.2.1.2.2.1
    unfold maxLen at hcm
    have hatS : At w (cutA bo at_ cap) ((b.drop at_).take k) := (H.out.2.1.1.cut at_ cap hcap).take k
    have hnilS : cutA bo at_ cap = none → k = 0 ∧ cap - at_ = 0 := by
      intro e
      have hbo : bo = none := by
        unfold cutA at e
        split at e
        · exact e
        · cases bo with
          | none => rfl
          | some x => simp at e
      have := H.out.2.1.2.2.2 hbo
      omega
    have HS := hide (And.intro hGk (And.intro hkl (And.intro hatS hnilS)))
    clear hGk hkl hatS hnilS
    generalize hbl : b.length = N at *
    have HBL := hide hbl
    clear hbl
    have hwr : IntKind.i64.wrap ((N : Int) - (at_ : Int)) = (N : Int) - (at_ : Int) := by rw [IntKind.wrap_i64]; omega
    have hwr2 : IntKind.i64.wrap ((at_ : Int) + (k : Int)) = (at_ : Int) + (k : Int) := by rw [IntKind.wrap_i64]; omega
    have hd0 : decide ((k : Int) < 0) = false := by simp
    have hd1 : decide ((N : Int) - (at_ : Int) < (k : Int)) = false := by simp; omega
    have hsl : ∀ w', (Instr.slice 32 (.slice bo N cap) (some (.int .i64 (at_ : Int))) (some (.int .i64 ((at_ : Int) + (k : Int)))) none).run Try.prog w' = .ok (.slice (cutA bo at_ cap) k (cap - at_)) w' := fun w' => by
      have h9 := slice_lh bo N cap at_ (at_ + k) (by omega) (by omega) w'
      rw [Nat.add_sub_cancel_left, Int.natCast_add] at h9
      exact h9
    go_enter Try.func32, Try.ntmps32
    go_wp2
    go_quiet (fail)
    go_wp2
    go_region_held3 (fun w' => w'.cell? ⟨d, 0, none⟩ = some (.slice bo N cap) ∧ w'.cell? ⟨d, 1, none⟩ = some (.int .i64 (at_ : Int))) (go_keep) ((refine step_append_at rfl (.tmp 45) (.tmp 60) rfl w.heap.size (.slice none 0 0) 0 [] rfl (World.ownsRow_nil _ _ _ _) (cutA bo at_ cap) k (cap - at_) ((b.drop at_).take k) rfl HS.out.2.1 HS.out.2.2.1 HS.out.2.2.2 (by omega) (Nat.le_refl _) ?_; intro v2 w2 hown2 hg2; have hgA : w.grownBy w2 none := grown_trans (grown_trans (grown_drewN w _ none) (grown_drew _ none)) hg2; have k0 := hgA.cell c0 (by simp); have k1 := hgA.cell c1 (by simp); have kf := (World.frozen?_of_block (a := ⟨d, 1, none⟩) (hgA.block d H.out.lt (by simp))).trans f1))
    obtain ⟨ao3, cap3, rfl, hr3⟩ := own_at (xs := (b.drop at_).take k) (by simpa using hown2)
    clear hr3
    have HO := hide (And.intro hown2 hgA)
    clear hown2 hg2 hgA
    go_wp2
    go_ret
    obtain ⟨hown2, hgA⟩ := HO.out
    have hdb : w2.heap[d]? = some (.cells (drow bo b.length cap at_ 0).toArray 62 (0, 0)) := (hgA.block d H.out.lt (by simp)).trans H.out.1
    have hgs := grown_setCell w2 d 1 (.int .i64 ((at_ : Int) + (k : Int)))
    refine ⟨_, rfl, at_ + k, 0, ?_, ⟨?_, ⟨at_kept (H.out.2.1.1.kept hgA (by simp)) HT.out.2 hgs, H.out.2.1.2⟩, by rw [HBL.out]; omega⟩, grown_trans (grown_none hgA _) hgs, ?_, ?_⟩
    · rw [HS.out.1, HS.out.2.1]
      have h9 := hown2.kept hgs (Or.inr (fun e => by have := (hown2.lt d e).1; have := H.out.lt; omega))
      simpa using h9
    · rw [row_setCell hdb]
      simp [drow]
    · rw [HT.out.1]
    · rw [HT.out.1]

set_option maxHeartbeats 1000000 in
theorem dnum_any (d at_ cap size : Nat) (b : List Int) (bo : Option Addr) (e S : Int) (w : World) (h : RfAt w d b bo cap at_ e) (hoff : b ≠ [] → Off bo d) (hB : Byt b) (hb : b.length ≤ 140737488355328) (hS : S = (size : Int)) (h8 : size ≤ 8) :
    Calls Try.prog 31 #[.pointer (some ⟨d, 0, none⟩), .int .i64 S] w fun r w' => r = .returned (.int .u64 (leV (takeF (restF b at_ e) e S).1)) ∧ ∃ v, DTook w w' d b bo cap at_ e S v := by
  have htk := dtake_any d at_ cap b bo e S w h hoff hb (by omega) (by omega)
  have hGl : ((takeF (restF b at_ e) e S).1.length : Int) ≤ S := by have := (takeF_given (restF b at_ e) e S).1; omega
  have hGB : Byt (takeF (restF b at_ e) e S).1 := (takeF_bytes (by unfold restF; split; exact hB.drop _; intro x hx; cases hx) e S).1
  have hG8 : (takeF (restF b at_ e) e S).1.length ≤ 8 := by omega
  have HK := hide htk
  clear htk hGl hS
  obtain ⟨G, hGe⟩ : ∃ G, (takeF (restF b at_ e) e S).1 = G := ⟨_, rfl⟩
  rw [hGe] at hGB hG8 ⊢
  have HGe := hide hGe
  clear hGe
  obtain ⟨m, hm⟩ : ∃ m, G.length = m := ⟨_, rfl⟩
  rw [hm] at hG8
  have Hm := hide hm
  clear hm
  go_enter Try.func31, Try.ntmps31
  go_wp2_with fail
  refine HK.out.mono ?_
  rintro r w1 ⟨v, rfl, hD⟩
  have hown : w1.ownsRow w.heap.size 5 1 v m (G.map (Value.int .u8)) := by
    obtain ⟨at', e', hown, hrest⟩ := hD
    rw [HGe.out, Hm.out] at hown
    exact hown
  have HD := hide hD
  clear hD
  obtain ⟨ao', cap', rfl, hl, hnc, hcm, hat', hnil', h5⟩ := own_at hown
  have HA := hide hat'
  clear hown hl hnc hcm hat' hnil' h5
  go_wp2_with fail
  refine (value_any ao' m cap' G _ Hm.out HA.out hGB hG8).mono ?_
  rintro r w2 ⟨rfl, rfl⟩
  go_wp2
  go_ret
  exact ⟨rfl, _, HD.out⟩
end Go.Proofs.Ytckmghagfaecmaa
