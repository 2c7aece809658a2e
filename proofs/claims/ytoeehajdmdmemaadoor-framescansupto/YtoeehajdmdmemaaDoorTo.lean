/- The contracts of told and SameInts. -/
import Derived.Test.YtoeehajdmdmemaaDoorFl
namespace Go.Proofs.YtoeehajdmdmemaaDoor
open Go.RowKit Go.Shelf
attribute [local go_sem] Oper.semAt_some

theorem Tryd.info3 : (Tryd.prog.info? 3).map (fun i => (i.zero, i.size, i.bytes)) = some (some (.int .i64 0), 1, 8) := by kernel_rfl
theorem eqlNil45 (w : World) (f : Nat) (lb : Array Value) : (binOp .eql 45 (.func (.func f) #[] lb) .nilFunc).run Tryd.prog w = .ok (.bool false) w := by kernel_rfl

/-- Where each of some frames begins. -/
def plc (fs : List Fr) : List Nat := (List.range fs.length).map fun i => fend (fs.take i)
theorem plc_length (fs : List Fr) : (plc fs).length = fs.length := by simp [plc]
theorem plc_snoc (fs : List Fr) (f : Fr) : plc (fs ++ [f]) = plc fs ++ [fend fs] := by
  unfold plc
  rw [List.length_append, List.length_singleton, List.range_succ, List.map_append]
  congr 1
  · apply List.map_congr_left
    intro i hi
    rw [List.mem_range] at hi
    rw [List.take_append_of_le_length (by omega)]
  · simp
theorem plc_at (fs : List Fr) (i : Nat) (h : i < fs.length) : (plc fs)[i]? = some (fend (fs.take i)) := by simp [plc, h]
def ints (ns : List Nat) : List Value := ns.map fun (k : Nat) => Value.int .i64 (k : Int)
theorem ints_snoc (ns : List Nat) (k : Nat) : ints (ns ++ [k]) = ints ns ++ [.int .i64 (k : Int)] := by simp [ints]
/-- Numbers, read. -/
def IsR (w : World) (ao : Option Addr) (ns : List Nat) : Prop := ∀ (j k : Nat), ns[j]? = some k → ∃ g, ao = some ⟨g, 0, none⟩ ∧ w.cell? ⟨g, j, none⟩ = some (.int .i64 (k : Int))
theorem IsR.grown {w w' : World} {ao : Option Addr} {ns : List Nat} (h : IsR w ao ns) (hg : w.grownBy w' none) : IsR w' ao ns := fun j k hk => by
  obtain ⟨g, ha, hc⟩ := h j k hk
  exact ⟨g, ha, hg.cell hc (by simp)⟩
theorem own_ints {w : World} {base n : Nat} {v : Value} {ns : List Nat} (h : w.ownsRow base 3 1 v n (ints ns)) : ∃ ao cap, v = .slice ao n cap ∧ IsR w ao ns ∧ ns.length = n := by
  have hl : ns.length = n := by have := h.1; simp [ints] at this; exact this
  rcases h.2 with ⟨rfl, h0⟩ | ⟨g, cap, cur, rfl, hb, hg, hc, hm, hs, ht⟩
  · have : ns = [] := List.eq_nil_of_length_eq_zero (by omega)
    subst this
    exact ⟨none, 0, by rw [h0], (fun j x hx => by simp at hx), hl⟩
  · refine ⟨some ⟨g, 0, none⟩, cap, rfl, fun j k hk => ⟨g, rfl, ?_⟩, hl⟩
    have := h.cells (g := g) rfl j (.int .i64 (k : Int)) (by simp [ints, hk])
    rwa [Addr.add_lit, Nat.zero_add] at this

set_option maxHeartbeats 1000000 in
theorem sameInts (ao bo : Option Addr) (n c d : Nat) (ns : List Nat) (w : World) (hn : ns.length = n) (ha : IsR w ao ns) (hb : IsR w bo ns) (hm : n ≤ 1000000000000000000) :
    Calls Tryd.prog 30 #[.slice ao n c, .slice bo n d] w fun r w' => r = .returned (.bool true) ∧ w.grownBy w' none := by
  have HA := hide (And.intro hn (And.intro ha hb))
  clear hn ha hb
  go_enter Tryd.func30, Tryd.ntmps30
  go_wp2
  go_loopg [5] n (fun k i wr => ∃ j : Nat, k + j = n ∧ i = .int .i64 j ∧ w.grownBy wr none)
  case atStart => exact ⟨0, by omega, rfl, grown_refl _ _⟩
  case round =>
    obtain ⟨j, hkj, rfl, hg⟩ := hrel
    by_cases hk : 0 < gk
    · obtain ⟨hn, ha, hb⟩ := HA.out
      have hj : j < ns.length := by omega
      obtain ⟨ga, rfl, hca⟩ := ha j ns[j] (by simp [hj])
      obtain ⟨gb, rfl, hcb⟩ := hb j ns[j] (by simp [hj])
      have hca' := hg.cell hca (by simp)
      have hcb' := hg.cell hcb (by simp)
      have h1 : (0 : Int) ≤ (j : Int) := by omega
      have h2 : (j : Int) < (n : Int) := by omega
      generalize ns[j] = x at *
      clear hn ha hb hca hcb hj
      go_wp2
      go_quiet (fail)
      go_wp2
      go_roundg (gk - 1)
      case measure => omega
      case rel => exact ⟨j + 1, by omega, by go_num, grown_trans hg (grown_drewN _ _ _)⟩
    · have hj : j = n := by omega
      subst hj
      go_wp2
      go_ret
      exact ⟨rfl, hg⟩
end Go.Proofs.YtoeehajdmdmemaaDoor
