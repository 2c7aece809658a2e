/- Fares: Check, check. -/
import Derived.Test.YtbebblhnhpdpjaaVb
namespace Go.Proofs.Ytbebblhnhpdpjaa
open Go.RowKit
attribute [local go_sem ↓] Go.wp_at_zero Go.wp_at_succ
attribute [local go_sem] run_store_float

def p40 : Nat := 4787326403894837248
def okF : Nat → List Fa → Bool
  | _, [] => true
  | hi, c :: l => within c.1 0 hi && chOk c.2 && okF c.1 l
def mayB (l : List Fa) : Bool := decide (1 ≤ l.length ∧ l.length ≤ 16) && okF 4787326403894837248 l
def fE (l : List Fa) : Int := if mayB l = true then 0 else 260
theorem mayB_long {l : List Fa} (h : l.length = 0 ∨ 16 < l.length) : fE l = 260 := by
  unfold fE mayB
  rw [decide_eq_false (by omega)]; rfl
theorem mayB_mid {l : List Fa} (h : 1 ≤ l.length ∧ l.length ≤ 16) : mayB l = okF 4787326403894837248 l := by
  unfold mayB
  rw [decide_eq_true h]; rfl
theorem okF_drop {hi : Nat} {l : List Fa} {j : Nat} {c : Fa} (h : l[j]? = some c) : okF hi (l.drop j) = (within c.1 0 hi && chOk c.2 && okF c.1 (l.drop (j + 1))) := by
  obtain ⟨hj, he⟩ := List.getElem?_eq_some_iff.1 h
  rw [List.drop_eq_getElem_cons hj, he]; rfl

/-- The loop's own copy of a fare. -/
theorem box_fa (w : World) (u v : Value) : (w.alloc (.cells #[u, v] 48)).cell? ⟨w.heap.size, 0, none⟩ = some u ∧ (w.alloc (.cells #[u, v] 48)).cell? ⟨w.heap.size, 1, none⟩ = some v ∧ w.grownBy (w.alloc (.cells #[u, v] 48)) none := by
  have h : (w.alloc (.cells #[u, v] 48)).heap[w.heap.size]? = some (.cells [u, v].toArray 48 (0, 0)) := heap_alloc_new w _
  exact ⟨by rw [cell_row h]; rfl, by rw [cell_row h]; rfl, grown_alloc w _⟩
theorem fE_yes {l : List Fa} (h : mayB l = true) : fE l = 0 := by unfold fE; rw [h]; rfl
theorem fE_no {l : List Fa} (h : mayB l = false) : fE l = 260 := by unfold fE; rw [h]; rfl
theorem okF_end (hi : Nat) {l : List Fa} {j : Nat} (h : l.length ≤ j) : okF hi (l.drop j) = true := by rw [List.drop_eq_nil_of_le h]; rfl

set_option maxHeartbeats 1000000 in
theorem check_any (ao : Option Addr) (cap n : Nat) (l : List Fa) (w : World) (hn : n = l.length) (hb : FasAt w ao l) (hs : n ≤ 140737488355328) :
    Calls Try.prog 11 #[.slice ao n cap] w fun e w' => e = .returned (.int .i64 (fE l)) ∧ w.grownBy w' none := by
  have HB := hide hb
  have HN := hide hn
  clear hb hn
  by_cases hl : n = 0 ∨ 16 < n
  · have hf := mayB_long (l := l) (by have := HN.out; omega)
    rw [hf]
    by_cases h0 : n = 0
    · subst h0
      go_enter Try.func11, Try.ntmps11
      go_wp2
      go_ret
      exact ⟨rfl, grown_refl _ _⟩
    · have h1 : 16 < n := by omega
      have h2 : (16 : Int) < (n : Int) := by omega
      have h3 : ((n : Int) == 0) = false := by simp; omega
      go_enter Try.func11, Try.ntmps11
      go_wp2
      go_ret
      exact ⟨rfl, grown_refl _ _⟩
  · have h1 : 1 ≤ n ∧ n ≤ 16 := by omega
    have h2 : ¬ (16 : Int) < (n : Int) := by omega
    have h3 : ((n : Int) == 0) = false := by simp; omega
    have h4 : (n : Int) ≤ 16 := by omega
    have HM := hide (mayB_mid (l := l) (by have := HN.out; omega))
    clear hl
    go_enter Try.func11, Try.ntmps11
    go_wp2
    go_loopg [3, 16] n (fun k s i wr => ∃ m hi : Nat, k + m = n ∧ i = .int .i64 (m : Int) ∧ s = .float .f64 hi ∧ Hid (w.grownBy wr none) ∧ Hid (okF 4787326403894837248 l = okF hi (l.drop m)))
    case atStart => exact ⟨0, 4787326403894837248, by omega, rfl, rfl, hide (grown_refl _ _), hide rfl⟩
    case round =>
      obtain ⟨m, hi, hkm, rfl, rfl, HG, HO⟩ := hrel
      by_cases hgo : 0 < gk
      · have hlt : m < n := by omega
        obtain ⟨c, hc⟩ : ∃ c, l[m]? = some c := ⟨_, List.getElem?_eq_getElem (by have := HN.out; omega)⟩
        obtain ⟨p, cs⟩ := c
        obtain ⟨b, off, bo, bc, rfl, hfa⟩ := (HB.out.grown HG.out) m (p, cs) hc
        have c0 := hfa.c0
        have c1 := hfa.c1
        have HF := hide hfa
        have HD := hide (okF_drop (hi := hi) hc)
        have hi0 : (m : Int) < (n : Int) := by omega
        dsimp only at c0 c1
        obtain ⟨x0, x1, x2⟩ := box_fa wr (.float .f64 p) (.slice bo cs.length bc)
        have HG2 := hide (grown_trans HG.out x2)
        have HS := hide (hfa.sin.grown x2)
        have X := hide x0
        have Y := hide x1
        clear hfa hc x2 x0 x1
        go_wp2_with fail
        refine (within_any p 0 hi _).mono ?_
        rintro e w' ⟨rfl, hw'⟩
        obtain rfl := hw'
        have x0 := X.out
        have x1 := Y.out
        generalize wr.alloc (.cells #[.float .f64 p, .slice bo cs.length bc] 48) = w1 at *
        cases hwi : within p 0 hi
        · have HN := hide (fE_no (l := l) (by rw [HM.out, HO.out, HD.out, hwi]; rfl))
          go_wp2
          go_ret
          exact ⟨by rw [HN.out]; rfl, HG2.out⟩
        · go_wp2_with fail
          refine (chances_any bo bc cs.length cs _ rfl HS.out).mono ?_
          rintro e w' ⟨rfl, hw'⟩
          obtain rfl := hw'
          cases hch : chOk cs
          · have HN := hide (fE_no (l := l) (by rw [HM.out, HO.out, HD.out, hwi, hch]; rfl))
            go_wp2
            go_ret
            exact ⟨by rw [HN.out]; rfl, HG2.out⟩
          · have HO2 : Hid (okF 4787326403894837248 l = okF p (l.drop (m + 1))) := hide (by rw [HO.out, HD.out, hwi, hch]; rfl)
            go_wp2
            go_roundg (gk - 1)
            case measure => omega
            case rel => exact ⟨m + 1, p, by omega, by go_num, rfl, HG2, HO2⟩
      · have hm : m = n := by omega
        subst hm
        have HY := hide (fE_yes (l := l) (by rw [HM.out, HO.out, okF_end _ (by have := HN.out; omega)]))
        go_wp2
        go_ret
        exact ⟨by rw [HY.out]; rfl, HG.out⟩

def cE (l : List Fa) (seats : Int) : Int := if mayB l = true then (if seats < 0 ∨ 1024 < seats then 2 else 0) else 260
theorem wrong_any (ao : Option Addr) (cap n : Nat) (l : List Fa) (seats : Int) (w : World) (hn : n = l.length) (hb : FasAt w ao l) (hs : n ≤ 140737488355328) :
    Calls Try.prog 38 #[.slice ao n cap, .int .i64 seats] w fun e w' => e = .returned (.int .i64 (cE l seats)) ∧ w.grownBy w' none := by
  have C := hide (check_any ao cap n l w hn hb hs)
  clear hn hb
  go_enter Try.func38, Try.ntmps38
  go_wp2_with fail
  refine C.out.mono ?_
  rintro e w1 ⟨rfl, hg⟩
  have HG := hide hg
  clear hg C
  cases hm : mayB l
  · rw [fE_no hm]
    have HE : Hid (cE l seats = 260) := hide (by unfold cE; rw [hm]; rfl)
    go_wp2
    go_ret
    exact ⟨by rw [HE.out]; rfl, HG.out⟩
  · rw [fE_yes hm]
    by_cases h1 : seats < 0
    · have HE : Hid (cE l seats = 2) := hide (by unfold cE; rw [hm, if_pos rfl, if_pos (Or.inl h1)])
      go_wp2
      go_ret
      exact ⟨by rw [HE.out]; rfl, HG.out⟩
    · by_cases h2 : 1024 < seats
      · have HE : Hid (cE l seats = 2) := hide (by unfold cE; rw [hm, if_pos rfl, if_pos (Or.inr h2)])
        have h3 : 0 ≤ seats := by omega
        go_wp2
        go_ret
        exact ⟨by rw [HE.out]; rfl, HG.out⟩
      · have HE : Hid (cE l seats = 0) := hide (by unfold cE; rw [hm, if_pos rfl, if_neg (by omega)])
        have h3 : 0 ≤ seats := by omega
        have h4 : seats ≤ 1024 := by omega
        go_wp2
        go_ret
        exact ⟨by rw [HE.out]; rfl, HG.out⟩
end Go.Proofs.Ytbebblhnhpdpjaa
