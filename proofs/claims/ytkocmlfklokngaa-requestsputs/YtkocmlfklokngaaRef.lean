/- The contracts of the document's own reader. -/
import Derived.Test.YtkocmlfklokngaaOver
namespace Go.Proofs.Ytkocmlfklokngaa
open Go.RowKit
attribute [local go_sem ↓] Go.wp_at_zero Go.wp_at_succ

/-- append(s, x...) as one step of a region that draws its order. -/
theorem step_append_at {w : World} {ops : Array Oper} {o : Oper} {a : Act} {K : Act → World → Prop} {Q : Exit → Act → World → Prop} {E : Prop} (hgd : o.guard = none) (s x : Operand)
    (ho : o.op = .call { callee := .builtin .append, args := #[s, x], argTypes := #[27, 27] }) (base : Nat) (v : Value) (n : Nat) (xs : List Value) (hs : a.eval s = v) (hown : w.ownsRow base 5 1 v n xs)
    (ao : Option Addr) (m c : Nat) (ys : List Int) (hx : a.eval x = .slice ao m c) (hm : ys.length = m) (hat : At w ao ys) (hnil : ao = none → m = 0 ∧ c = 0)
    (hbytes : n + m ≤ 140737488355328) (hbase : base ≤ w.heap.size)
    (h : ∀ v' w', w'.ownsRow base 5 1 v' (n + m) (xs ++ ys.map (Value.int .u8)) → w.grownBy w' v.ownBlock → K (a.put o.dst v') w') :
    if Region.wanted o (yielded ops a.tmps) = true then Oper.wp Try.prog o a w K Q else E := by
  have hw : Region.wanted o (yielded ops a.tmps) = true := by simp [Region.wanted, hgd]
  rw [if_pos hw]
  obtain ⟨i0, hi, hz0, hz1, hz2⟩ := info_parts Try.info5
  cases ao with
  | none =>
    obtain ⟨rfl, rfl⟩ := hnil rfl
    have hrun := run_append_owned_none (P := Try.prog) (w := w) base 27 o.type 5 i0 1 Try.underlying27 hi v n xs hown
    unfold Oper.wp
    simp [execOp, ho, resolve, invoke, builtin, hs, hx, hrun, Result.andThen]
    have : ys = [] := List.eq_nil_of_length_eq_zero hm
    subst this
    exact h v w (by simpa using hown) (grown_refl w _)
  | some ad =>
    refine wp_append_own _ s x 27 ho base 5 i0 (.int .u8 0) 1 1 Try.underlying27 hi hz0 hz1 hz2 rfl (by decide) v n xs hs hown ad m c (ys.map (Value.int .u8)) hx (by simp [hm]) ?_ ?_ (by unfold maxLen; omega) (by omega) hbase (fun v' w' h1 h2 _ => h v' w' h1 h2)
    · intro j u hu
      rw [List.getElem?_map] at hu
      cases hj : ys[j]? with
      | none => simp [hj] at hu
      | some y =>
        simp [hj] at hu
        obtain ⟨a', ha', hc'⟩ := hat j y hj
        cases ha'
        rw [← hu]; exact hc'
    · intro u hu; rw [List.mem_map] at hu; obtain ⟨y, _, rfl⟩ := hu; rfl

theorem slice_lh (ao : Option Addr) (len cap l h : Nat) (h1 : l ≤ h) (h2 : h ≤ cap) (w : World) : (Instr.slice 27 (.slice ao len cap) (some (.int .i64 (l : Int))) (some (.int .i64 (h : Int))) none).run Try.prog w = .ok (.slice (cutA ao l cap) (h - l) (cap - l)) w := by
  simp [Instr.slice, run_underlying Try.underlying27, Instr.sliceBounds, Instr.sliceBound, asIntOf, h1, h2, cutA]

/-- The cells of the document's reader; what it still has. -/
def drow (bo : Option Addr) (n cap at_ : Nat) (e : Int) : List Value := [.slice bo n cap, .int .i64 (at_ : Int), .int .i64 e]
def restF (b : List Int) (at_ : Nat) (e : Int) : List Int := if e = 0 then b.drop at_ else []

set_option maxHeartbeats 1000000 in
theorem value_any (ao : Option Addr) (n cap : Nat) (xs : List Int) (w : World) (hn : xs.length = n) (hat : At w ao xs) (hB : Byt xs) (h8 : n ≤ 8) :
    Calls Try.prog 62 #[.slice ao n cap] w fun e w' => e = .returned (.int .u64 (leV xs)) ∧ w' = w := by
  have HA := hide (And.intro hn hat)
  clear hn hat
  go_enter Try.func62, Try.ntmps62
  go_wp2
  go_loopg [3, 4] n (fun k v i wr => k ≤ n ∧ i = .int .i64 ((k : Int) - 1) ∧ v = .int .u64 (leV (xs.drop k)) ∧ wr = w)
  case atStart => exact ⟨Nat.le_refl _, by simp, by rw [List.drop_eq_nil_of_le (by have := HA.out.1; omega)]; rfl, rfl⟩
  case round =>
    obtain ⟨hkn, rfl, rfl, rfl⟩ := hrel
    cases gk with
    | succ i =>
      obtain ⟨hn, hat⟩ := HA.out
      have hi : i < xs.length := by omega
      obtain ⟨a, rfl, hc⟩ := hat i xs[i] (by simp [hi])
      have hd : xs.drop i = xs[i] :: xs.drop (i + 1) := List.drop_eq_getElem_cons hi
      have hb := leV_bound (xs.drop (i + 1)) (hB.drop _)
      have hy := hB xs[i] (by simp)
      have hbl : leV (xs.drop (i + 1)) < 72057594037927936 := by
        refine Int.lt_of_lt_of_le hb.2 ?_
        rw [List.length_drop]
        have h4 : (2 : Nat) ^ (8 * (xs.length - (i + 1))) ≤ 2 ^ 56 := Nat.pow_le_pow_right (by omega) (by omega)
        have h5 : ((2 ^ (8 * (xs.length - (i + 1))) : Nat) : Int) ≤ ((2 ^ 56 : Nat) : Int) := Int.ofNat_le.2 h4
        simpa using h5
      have hb0 := hb.1
      have HD : Hid (leV (xs.drop i) = xs[i] + 256 * leV (xs.drop (i + 1))) := by show _ = _; rw [hd, leV]
      clear hb hd hn hat
      generalize leV (xs.drop (i + 1)) = V at *
      generalize xs[i] = X at *
      have hslot : ((i + 1 : Nat) : Int) - 1 = (i : Int) := by omega
      rw [hslot]
      have hge : (0 : Int) ≤ (i : Int) := by omega
      have hlt : (i : Int) < (n : Int) := by omega
      go_wp2
      go_roundg i
      case measure => omega
      case rel =>
        refine ⟨by omega, rfl, ?_, rfl⟩
        rw [HD.out]
        congr 1
        omega
    | zero =>
      go_wp2
      go_ret
      rw [List.drop_zero]
      exact ⟨rfl, rfl⟩

/-- What the document's reader comes to. -/
theorem restF_take (b : List Int) (at_ : Nat) (e n : Int) (h : at_ ≤ b.length) : ∃ at' e', at' ≤ b.length ∧ takeF (restF b at_ e) e n = ((takeF (restF b at_ e) e n).1, restF b at' e', e') ∧
    ((e ≠ 0 ∧ at' = at_ ∧ e' = e) ∨ (e = 0 ∧ n < 0 ∧ at' = at_ ∧ e' = 2) ∨ (e = 0 ∧ 0 ≤ n ∧ (b.length : Int) - (at_ : Int) < n ∧ at' = at_ ∧ e' = 4) ∨ (e = 0 ∧ 0 ≤ n ∧ n ≤ (b.length : Int) - (at_ : Int) ∧ at' = at_ + n.toNat ∧ e' = 0)) := by
  by_cases he : e = 0
  · subst he
    by_cases hn : n < 0
    · exact ⟨at_, 2, h, by simp [takeF, restF, hn], Or.inr (Or.inl ⟨rfl, hn, rfl, rfl⟩)⟩
    · by_cases hl : (b.length : Int) - (at_ : Int) < n
      · have h2 : ((b.length - at_ : Nat) : Int) < n := by omega
        exact ⟨at_, 4, h, by simp [takeF, restF, hn, h2], Or.inr (Or.inr (Or.inl ⟨rfl, by omega, hl, rfl, rfl⟩))⟩
      · have h2 : ¬ ((b.length - at_ : Nat) : Int) < n := by omega
        refine ⟨at_ + n.toNat, 0, by omega, ?_, Or.inr (Or.inr (Or.inr ⟨rfl, by omega, by omega, rfl, rfl⟩))⟩
        simp [takeF, restF, hn, h2]
  · exact ⟨at_, e, h, by simp [takeF, restF, he], Or.inl ⟨he, rfl, rfl⟩⟩

end Go.Proofs.Ytkocmlfklokngaa
