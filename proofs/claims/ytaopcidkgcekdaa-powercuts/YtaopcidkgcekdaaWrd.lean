/- What is written, as a code; fates copied. -/
import Derived.Test.YtaopcidkgcekdaaSurv0
namespace Go.Proofs.Ytaopcidkgcekdaa
open Go.RowKit Ap
attribute [local go_sem ↓] Go.wp_at_zero Go.wp_at_succ

def wcode (n size : Nat) (a : Int) (L : Nat) : Int := if 0 ≤ a ∧ a < (n : Int) then (if L = size then 0 else 3) else 50
def wabs (n size : Nat) (a : Int) (xs : List Nat) (P : List Pr) : List Pr := if 0 ≤ a ∧ a < (n : Int) then (if xs.length = size then P ++ [(a.toNat, xs)] else P) else P
theorem cell_kept {w w' : World} {T : Nat → Prop} {a : Addr} {v : Value} (hk : Kept w w' T) (hc : w.cell? a = some v) (hT : ¬ T a.block) : w'.cell? a = some v := by
  have hb : w'.heap[a.block]? = w.heap[a.block]? := hk.block a.block (cell_lt hc) hT
  rw [← hc]; simp [World.cell?, hb]
theorem FatesAt.offT {w w' : World} {fo : Option Addr} {F : List (Int × Int)} {T : Nat → Prop} (h : FatesAt w fo F) (hk : Kept w w' T) (hT : ∀ a, fo = some a → 0 < F.length → ¬ T a.block) : FatesAt w' fo F := by
  intro j p hj
  obtain ⟨b, o, e, c1, c2⟩ := h j p hj
  have hl : 0 < F.length := Nat.lt_of_le_of_lt (Nat.zero_le _) (List.getElem?_eq_some_iff.1 hj).1
  have hb : w'.heap[b]? = w.heap[b]? := hk.block b (cell_lt c1) (hT ⟨b, o, none⟩ e hl)
  exact ⟨b, o, e, by rw [← c1]; simp [World.cell?, hb], by rw [← c2]; simp [World.cell?, hb]⟩
section
variable {w0 w : World} {n size : Nat} {d r : Nat}
theorem wr_disk {k : Dk} {D : List Nat} {W : List Wt} (hd : k.d = d) (h : DkS w0 w k n size D W) (hW : W.length ≤ 1000) (a : Int) (ao : Option Addr) (L cap : Nat) (xs : List Nat) (hat : At w ao xs) (hx : xs.length = L) :
    Calls Try.prog 35 #[.pointer (some ⟨d, 0, none⟩), .int .i64 a, .slice ao L cap] w fun e w' => ∃ k' W', e = .returned (.int .i64 (wcode n size a L)) ∧ DkS w0 w' k' n size D W' ∧ Moved w w' k k' W W' ∧ abs W' = wabs n size a xs (abs W) ∧ W'.length ≤ W.length + 1 := by
  by_cases ha : 0 ≤ a ∧ a < (n : Int)
  · by_cases hl : L = size
    · obtain ⟨s, rfl⟩ := Int.eq_ofNat_of_zero_le ha.1
      subst hl
      refine (writeS hd h (by omega) s (by omega) ao cap xs hat hx).mono ?_
      rintro e w' ⟨rfl, k', h1, h2, h3, h4⟩
      refine ⟨k', _, by rw [wcode, if_pos ha, if_pos rfl], h3, h4.moved, ?_, by simp⟩
      rw [wabs, if_pos ha, if_pos hx]
      simp [abs]
    · subst hd
      refine (write_long h.disk a ao L cap ha hl).mono ?_
      rintro e w' ⟨rfl, hg⟩
      exact ⟨k, W, by rw [wcode, if_pos ha, if_neg hl], h.then hg, (Moved.refl w k W).new hg, by rw [wabs, if_pos ha, if_neg (by omega)], by omega⟩
  · subst hd
    refine (write_far h.disk a _ ha).mono ?_
    rintro e w' ⟨rfl, hg⟩
    exact ⟨k, W, by rw [wcode, if_neg ha], h.then hg, (Moved.refl w k W).new hg, by rw [wabs, if_neg ha], by omega⟩
end
set_option maxHeartbeats 1000000 in
theorem copyFates_any (fo : Option Addr) (fc : Nat) (F : List (Int × Int)) (w : World) (hF : FIn w fo fc F) :
    Calls Try.prog 20 #[.slice fo F.length fc] w fun e w' => ∃ fo' cap', e = .returned (.slice fo' F.length cap') ∧ FatesAt w' fo' F ∧ (∀ a, fo' = some a → 0 < F.length → w.heap.size ≤ a.block) ∧ w.grownBy w' none := by
  have HF := hide hF
  clear hF
  obtain ⟨n, hn⟩ : ∃ n, n = F.length := ⟨_, rfl⟩
  rw [← hn]
  have HN := hide hn.symm
  clear hn
  go_enter Try.func20, Try.ntmps20
  go_wp2_with (at_builtin; refine wpList_append_fates rfl (.tmp 4) (.tmp 5) rfl w.heap.size (.slice none 0 0) 0 [] rfl (World.ownsRow_nil _ _ _ _) fo n fc F rfl HN.out HF.out.at_ (fun e => by have := HF.out.nil e; rw [HN.out] at this; exact this) (by have := HF.out.size; have := HN.out; omega) (Nat.le_refl _) ?_)
  intro v' w' hown hg
  have hg2 : w.grownBy w' none := hg
  obtain ⟨ao, cap, rfl, h1, h2, h3⟩ := own_form hown
  have HH : Hid (FatesAt w' ao F ∧ (∀ a, ao = some a → 0 < F.length → w.heap.size ≤ a.block) ∧ w.grownBy w' none) := by
    refine ⟨?_, ?_, hg2⟩
    · by_cases hz : 0 < n
      · obtain ⟨g, rfl⟩ := h1 hz
        exact own_fates hown
      · intro j p hj
        have := (List.getElem?_eq_some_iff.1 hj).1
        have := HN.out
        omega
    · intro a e hl
      subst e
      exact (own_block hown a.block rfl).1
  clear hown hg hg2 h1 h2 h3
  go_wp2
  go_ret
  exact ⟨_, _, rfl, HH.out.1, fun a e hl => HH.out.2.1 a e (by rw [HN.out]; exact hl), HH.out.2.2⟩
end Go.Proofs.Ytaopcidkgcekdaa
