/- The document's cabin: number, Text, Parse; copies. -/
import Derived.Test.YtomoclicbjkpoaaDoorDa
import Derived.Laws.IdiomStrings
namespace Go.Proofs.YtomoclicbjkpoaaDoor
open Go.RowKit Cx
attribute [local go_sem ↓] Go.wp_at_zero Go.wp_at_succ

/-- Digits of m, none of 0. -/
def dgs (m : Nat) : List UInt8 := if m = 0 then [] else Lib.decDigits m
theorem dgs_step {m : Nat} (h : 0 < m) : dgs m = dgs (m / 10) ++ [UInt8.ofNat (48 + m % 10)] := by
  unfold dgs
  rw [if_neg (by omega)]
  by_cases h1 : m < 10
  · rw [if_pos (by omega), Lib.decDigits_one h1, Nat.mod_eq_of_lt h1]; rfl
  · rw [if_neg (by omega), Lib.decDigits, dif_neg h1]
theorem dgs_dg {n : Nat} (h : 0 < n) (h2 : n < 100) : dgs n = dg n := by unfold dgs; rw [if_neg (by omega), dg_dec h2]
theorem u8_digit {m : Nat} : 48 + (m : Int) % 10 = ((UInt8.ofNat (48 + m % 10)).toNat : Int) := by
  have h : ∀ q : Fin 10, 48 + (q.1 : Int) = ((UInt8.ofNat (48 + q.1)).toNat : Int) := by decide +kernel
  have h2 := h ⟨m % 10, Nat.mod_lt _ (by omega)⟩
  simp only at h2
  rw [← h2]; omega
theorem conv_digit (m : Nat) (w : World) : (convert 74 9 (.slice (some ⟨w.heap.size, 0, none⟩) 1 1)).run Tryd.prog (w.alloc (.cells #[.int .u8 (48 + (m : Int) % 10)] 5)) = .ok (.string ⟨[UInt8.ofNat (48 + m % 10)].toArray⟩) (w.alloc (.cells #[.int .u8 (48 + (m : Int) % 10)] 5)) := by
  refine run_convert_bytes_back (P := Tryd.prog) (w.alloc (.cells #[.int .u8 (48 + (m : Int) % 10)] 5)) 74 9 5 ⟨w.heap.size, 0, none⟩ 1 [UInt8.ofNat (48 + m % 10)] Tryd.underlying74 Tryd.underlying5 Tryd.underlying9 ?_
  intro j hj
  have hj0 : j = 0 := by simp at hj; exact hj
  subst hj0
  rw [Addr.add_lit, cell_row (l := [.int .u8 (48 + (m : Int) % 10)]) (heap_alloc_new w _), u8_digit]
  rfl
theorem add_digit (x : UInt8) (a : List UInt8) (ha : a.length ≤ 1000) (w : World) : (Op.stringOp .add ⟨[x].toArray⟩ ⟨a.toArray⟩).run Tryd.prog w = .ok (.string ⟨(x :: a).toArray⟩) w := by
  have e1 := size_str [x]
  have e2 := size_str a
  have := run_string_add_sum (P := Tryd.prog) w ⟨[x].toArray⟩ ⟨a.toArray⟩ (by rw [e1, e2, List.length_singleton]; omega)
  rw [app_str] at this
  exact this
set_option maxRecDepth 100000 in
set_option maxHeartbeats 1000000 in
theorem number_any (n : Nat) (hn : 0 < n) (hn2 : n < 100) (w : World) :
    Calls Tryd.prog 44 #[.int .i64 (n : Int)] w fun e w' => e = .returned (str (dg n)) ∧ w.grownBy w' none := by
  have HD := hide (dgs_dg hn hn2)
  go_enter Tryd.func44, Tryd.ntmps44
  go_wp2
  go_loopg [0, 3] n (fun k v s wr => ∃ (m : Nat) (a : List UInt8), k = m ∧ m < 100 ∧ v = .int .i64 (m : Int) ∧ s = str a ∧ dgs m ++ a = dg n ∧ a.length + m ≤ 100 ∧ w.grownBy wr none)
  case atStart => exact ⟨n, [], rfl, hn2, rfl, rfl, by rw [HD.out, List.append_nil], by simp; omega, grown_refl _ _⟩
  case round =>
    obtain ⟨m, a, rfl, hm, rfl, rfl, hd, hal, hg⟩ := hrel
    by_cases hk : 0 < gk
    · have hs := dgs_step hk
      have h1 : (gk : Int).tmod 10 = ((gk % 10 : Nat) : Int) := tmod_nat gk 10
      have h2 : (gk : Int).tdiv 10 = ((gk / 10 : Nat) : Int) := tdiv_nat gk 10
      have h3 : gk % 10 < 10 := Nat.mod_lt _ (by omega)
      have h4 : gk / 10 < gk := Nat.div_lt_self hk (by omega)
      have h5 : gk / 10 < 100 := by omega
      have hk2 : (0 : Int) < (gk : Int) := by omega
      have hcv := conv_digit gk wr
      have had := add_digit (UInt8.ofNat (48 + gk % 10)) a (by omega)
      have HS := hide (And.intro hs (And.intro hd (And.intro hg hn)))
      clear hs hd hg hn hn2
      unfold str
      obtain ⟨sx, hsx⟩ : ∃ sx, sx = (⟨[UInt8.ofNat (48 + gk % 10)].toArray⟩ : ByteArray) := ⟨_, rfl⟩
      rw [← hsx] at hcv had
      obtain ⟨sa, hsa⟩ : ∃ sa, sa = (⟨a.toArray⟩ : ByteArray) := ⟨_, rfl⟩
      rw [← hsa] at had
      rw [← hsa]
      obtain ⟨sy, hsy⟩ : ∃ sy, sy = (⟨(UInt8.ofNat (48 + gk % 10) :: a).toArray⟩ : ByteArray) := ⟨_, rfl⟩
      rw [← hsy] at had
      have HY := hide hsy
      clear hsx hsa hsy
      go_wp2
      go_roundg (gk / 10)
      case measure => exact h4
      case rel =>
        refine ⟨gk / 10, UInt8.ofNat (48 + gk % 10) :: a, rfl, h5, by go_num, by unfold str; rw [HY.out], ?_, by rw [List.length_cons]; omega, grown_trans HS.out.2.2.1 (grown_alloc _ _)⟩
        rw [← HS.out.2.1, HS.out.1]; simp
    · have h0 : gk = 0 := by omega
      subst h0
      have e1 : dgs 0 = [] := rfl
      rw [e1, List.nil_append] at hd
      have HG := hide (And.intro hg hd)
      clear hg hd e1 hn hn2
      unfold str
      go_wp2
      go_ret
      exact ⟨by rw [← HG.out.2]; rfl, HG.out.1⟩
end Go.Proofs.YtomoclicbjkpoaaDoor
