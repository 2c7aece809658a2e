/- Texts joined: Qd, Qe. -/
import Derived.Test.YtnnmaknjhfjojaaGreatDoorJrAg
import Derived.Test.YtnnmaknjhfjojaaGreatDoorJrAk
import Derived.Test.YtnnmaknjhfjojaaGreatDoorJrAd
/- What Runs tells, in all cases; rows of bytes alike. -/
namespace Go.Proofs.YtnnmaknjhfjojaaGreatDoor
open Go.RowKit Cx Pn
attribute [local go_sem ↓] Go.wp_at_zero Go.wp_at_succ

set_option maxHeartbeats 1000000 in
theorem sameB_eq (g1 g2 n c d : Nat) (xs : List Int) (w : World) (hn : xs.length = n) (h1 : w.heap[g1]? = some (.cells (xs.map (Value.int .u8)).toArray 5)) (h2 : w.heap[g2]? = some (.cells (xs.map (Value.int .u8)).toArray 5)) (hm : n ≤ 4611686018427387904) :
    Calls Tryz.prog 12 #[.slice (some ⟨g1, 0, none⟩) n c, .slice (some ⟨g2, 0, none⟩) n d] w fun e w' => e = .returned (.bool true) ∧ w.grownBy w' none := by
  have HA := hide (And.intro hn (And.intro h1 h2))
  clear hn h1 h2
  go_enter Tryz.func12, Tryz.ntmps12
  go_wp2
  go_loopg [5] n (fun k i wr => ∃ j : Nat, k + j = n ∧ i = .int .i64 j ∧ w.grownBy wr none)
  case atStart => exact ⟨0, by omega, rfl, grown_refl _ _⟩
  case round =>
    obtain ⟨j, hkj, rfl, hg⟩ := hrel
    by_cases hk : 0 < gk
    · obtain ⟨hn, h1, h2⟩ := HA.out
      have hj : j < xs.length := by omega
      have hget : (xs.map (Value.int .u8))[j]? = some (.int .u8 xs[j]) := by simp [hj]
      have hca : wr.cell? ⟨g1, j, none⟩ = some (.int .u8 xs[j]) := by rw [cell_row (heap_kept h1 hg (by simp))]; exact hget
      have hcb : wr.cell? ⟨g2, j, none⟩ = some (.int .u8 xs[j]) := by rw [cell_row (heap_kept h2 hg (by simp))]; exact hget
      have q1 : (0 : Int) ≤ (j : Int) := by omega
      have q2 : (j : Int) < (n : Int) := by omega
      clear hget
      generalize xs[j] = x at *
      clear hn h1 h2 hj
      go_wp2
      go_quiet (fail)
      go_wp2
      go_roundg (gk - 1)
      case measure => omega
      case rel => exact ⟨j + 1, by omega, by go_num, grown_trans hg (grown_drewN _ _ _)⟩
    · have hj : j = n := by omega
      subst hj
      go_wp2
      go_ret
      exact ⟨rfl, hg⟩

/-- What is told of a cabin and a set with that bound: a code, and the runs. -/
def rE (R W : Int) (L : List Int) (B : Nat) : Int := if Ok R W L then (if (B : Int) = R * W then 0 else 3) else 2
def rP (R W : Int) (L : List Int) (B : Nat) (T : List Int) : List (Nat × Nat) := if Ok R W L ∧ (B : Int) = R * W then dr (fr (tkL B T)) (bg W.toNat L) B else []
theorem rP_len (R W : Int) (L : List Int) (B : Nat) (T : List Int) : (rP R W L B T).length ≤ B := by
  unfold rP
  split
  · exact dr_len _ _ _
  · exact Nat.zero_le _
theorem ok_nat {R W : Int} {L : List Int} (ho : Ok R W L) : ∃ r c : Nat, R = r ∧ W = c := ⟨R.toNat, W.toNat, by have := ho.1; omega, by have := ho.2.2.1; omega⟩
theorem runs_all (R W : Int) (ao : Option Addr) (n cap : Nat) (L : List Int) (b g B : Nat) (T : List Int) (w : World) (hc : CbIn w ao n cap L) (hs : Bt.SetAt w b g (tkL B T)) (hT : Bt.Tab w) :
    Calls Tryz.prog 8 #[cbV R W (.slice ao n cap), .pointer (some ⟨b, 0, none⟩)] w fun e w' => ∃ v, e = .returned (.tuple #[v, .int .i64 (rE R W L B)]) ∧ w'.ownsRow w.heap.size 64 2 v (rP R W L B T).length (spC (rP R W L B T)) ∧ w.grownBy w' none := by
  have hl := tkL_len B T
  unfold rE rP
  by_cases ho : Ok R W L
  · obtain ⟨r, c, rfl, rfl⟩ := ok_nat ho
    by_cases hb : (B : Int) = (r : Int) * (c : Int)
    · have hBM : B = r * c := by
        have : (B : Int) = ((r * c : Nat) : Int) := by rw [hb]; simp
        omega
      rw [if_pos ho, if_pos hb, if_pos ⟨ho, hb⟩]
      have h := runs_ok r c ao n cap L b g (tkL B T) w hc ho hs hT (by rw [hl, hBM])
      rw [← hBM] at h
      exact h
    · rw [if_pos ho, if_neg hb, if_neg (fun h => hb h.2)]
      refine (runs_err (.slice none 0 0) 3 r c ao n cap (some ⟨b, 0, none⟩) w (by omega) fun w' hg => blocksOf_long r c ao n cap L b g (tkL B T) w' (hc.grown hg) ho (Set_grown hs hg) (by rw [hl]; exact hb)).mono ?_
      rintro e w' ⟨rfl, hg⟩
      exact ⟨_, rfl, World.ownsRow_nil _ _ _ _, hg⟩
  · rw [if_neg ho, if_neg (fun h => ho h.1)]
    refine (runs_err (.slice none 0 0) 2 R W ao n cap (some ⟨b, 0, none⟩) w (by omega) fun w' hg => blocksOf_bad R W ao n cap L _ w' (hc.grown hg) ho).mono ?_
    rintro e w' ⟨rfl, hg⟩
    exact ⟨_, rfl, World.ownsRow_nil _ _ _ _, hg⟩
theorem rruns_all (R W : Int) (ao : Option Addr) (n cap : Nat) (L : List Int) (B : Nat) (to : Option Addr) (m tc : Nat) (T : List Int) (w : World) (hc : CbIn w ao n cap L) (ht : CbIn w to m tc T) :
    Calls Tryz.prog 9 #[cbV R W (.slice ao n cap), .int .i64 (B : Int), .slice to m tc] w fun e w' => ∃ v, e = .returned (.tuple #[v, .int .i64 (rE R W L B)]) ∧ w'.ownsRow w.heap.size 64 2 v (rP R W L B T).length (spC (rP R W L B T)) ∧ w.grownBy w' none := by
  unfold rE rP
  by_cases ho : Ok R W L
  · obtain ⟨r, c, rfl, rfl⟩ := ok_nat ho
    by_cases hb : (B : Int) = (r : Int) * (c : Int)
    · have hBM : r * c = B := by
        have : (B : Int) = ((r * c : Nat) : Int) := by rw [hb]; simp
        omega
      rw [if_pos ho, if_pos hb, if_pos ⟨ho, hb⟩]
      exact rruns_ok r c B ao n cap L to m tc T w hc ht ho hBM
    · rw [if_pos ho, if_neg hb, if_neg (fun h => hb h.2)]
      refine (rruns_long r c B ao n cap L _ w hc ho hb).mono ?_
      rintro e w' ⟨rfl, hg⟩
      exact ⟨_, rfl, World.ownsRow_nil _ _ _ _, hg⟩
  · rw [if_neg ho, if_neg (fun h => ho h.1)]
    refine (rruns_bad R W B ao n cap L _ w hc ho).mono ?_
    rintro e w' ⟨rfl, hg⟩
    exact ⟨_, rfl, World.ownsRow_nil _ _ _ _, hg⟩
end Go.Proofs.YtnnmaknjhfjojaaGreatDoor
/- The runs are the document's. -/
namespace Go.Proofs.YtnnmaknjhfjojaaGreatDoor
open Go.RowKit Cx Pn
attribute [local go_sem ↓] Go.wp_at_zero Go.wp_at_succ

theorem box3d {w : World} {g : Nat} {u v x : Value} {t : TypeId} (h : w.heap[g]? = some (.cells #[u, v, x] t)) : w.cell? ⟨g, 0, none⟩ = some u ∧ w.cell? ⟨g, 1, none⟩ = some v ∧ w.cell? ⟨g, 2, none⟩ = some x :=
  ⟨cell_row (l := [u, v, x]) h 0, cell_row (l := [u, v, x]) h 1, cell_row (l := [u, v, x]) h 2⟩
theorem span_below {w w' : World} {base n k : Nat} {v : Value} {xs : List Value} (h : w.ownsRow base 64 2 v n xs) (hg : w.grownBy w' (some k)) (hk : k < base) : w'.ownsRow base 64 2 v n xs := by
  obtain ⟨hl, h⟩ := h
  refine ⟨hl, ?_⟩
  rcases h with h | ⟨g, cap, cur, rfl, hb, hgc, hr⟩
  · exact Or.inl h
  · exact Or.inr ⟨g, cap, cur, rfl, hb, heap_kept hgc hg (fun e => by have := Option.some.inj e; omega), hr⟩
set_option maxRecDepth 40000 in
set_option maxHeartbeats 8000000 in
theorem pruns_any (R W o : Int) (ao : Option Addr) (n cap : Nat) (L : List Int) (to : Option Addr) (m tc : Nat) (T : List Int) (w : World) (hc : CbIn w ao n cap L) (ht : CbIn w to m tc T) (hT : Bt.Tab w) :
    Calls Tryz.prog 3 #[askV R W (.slice ao n cap) (.slice to m tc) o] w fun e w' => e = .returned (.bool true) ∧ w.grownBy w' none := by
  have hG := grown_alloc w (.cells #[.int .i64 R, .int .i64 W, .slice ao n cap, .slice to m tc, .int .i64 o] 26)
  have hX := heap_alloc_new w (.cells #[.int .i64 R, .int .i64 W, .slice ao n cap, .slice to m tc, .int .i64 o] 26)
  have HS := hide (set_any R W o ao n cap L to m tc T _ (hc.grown hG) (ht.grown hG) (by have := Tab.pos hT; have := hG.size; omega))
  have HL := hide (fun w' (hg : w.grownBy w' none) => lentCabin_any R W ao n cap L w' (hc.grown hg))
  have hbl := bdN_le R W L o
  have hlen := tkL_len (bdN R W L o) T
  have hpl := rP_len R W L (bdN R W L o) T
  have HR := hide (fun ao cap b g w' (h1 : CbIn w' ao n cap L) (h2 : Bt.SetAt w' b g (tkL (bdN R W L o) T)) (h3 : Bt.Tab w') => runs_all R W ao n cap L b g (bdN R W L o) T w' h1 h2 h3)
  have HD := hide (fun w' (hg : w.grownBy w' none) => rruns_all R W ao n cap L (bdN R W L o) to m tc T w' (hc.grown hg) (ht.grown hg))
  have hnl := hc.len
  have hsm := hc.sm
  have H0 := hide (And.intro hc (And.intro ht (And.intro hT hnl)))
  generalize bdN R W L o = B at *
  generalize hE : rE R W L B = E at *
  generalize hP : rP R W L B T = P at *
  generalize tkL B T = S at *
  have HX := hide (And.intro hG hX)
  have HLn := hide hlen
  clear hc ht hT hG hX hE hP hlen hnl
  unfold askV at *
  unfold cbV at *
  go_enter Tryz.func3, Tryz.ntmps3
  obtain ⟨b0, b1, b2, b3, b4⟩ := box5 HX.out.2
  go_wp2_with fail
  refine HS.out.mono ?_
  rintro e w3 ⟨b, g, rfl, hset3, hb3, hg3, hgw3⟩
  have G3 := hide (And.intro hset3 (And.intro (heap_kept HX.out.2 hgw3 (by simp)) (grown_trans HX.out.1 hgw3)))
  have hwlt := row_lt G3.out.2.1
  clear HS hset3 hb3 hg3 hgw3 b0 b1 b2 b3 b4
  obtain ⟨b0, b1, b2, b3, b4⟩ := box5 G3.out.2.1
  go_wp2_with fail
  refine (HL.out _ G3.out.2.2).mono ?_
  rintro e w4 ⟨v, rfl, hlent, hg4⟩
  obtain ⟨gl, cl, rfl, hcb4⟩ := hlent.cb (by have := H0.out.2.2.2; omega)
  obtain ⟨gl', cl', hv', hl12, hclm, hglb, hgl, hmk, cur, hcur, hcs⟩ := hlent.all
  injection hv' with hv1 hv2 hv3
  injection hv1 with hv1
  injection hv1 with hv1
  subst hv1
  subst hv3
  rw [H0.out.2.2.2] at hcb4 hl12 ⊢
  have G4 := hide (And.intro (Set_grown G3.out.1 hg4) (And.intro (heap_kept G3.out.2.1 hg4 (by simp)) (And.intro (grown_trans G3.out.2.2 hg4) (And.intro hcb4 (And.intro hmk (And.intro (show ∃ cur, w4.heap[gl]? = some (.cells cur 3 (0, 0)) ∧ cur.size = cl from ⟨cur, hcur, hcs⟩) (And.intro hl12 (And.intro hclm (show w.heap.size ≤ gl by have := G3.out.2.2.size; omega)))))))))
  clear hg4 hlent hcb4 hl12 hclm hglb hgl hmk hcur hcs hv2 b0 b1 b2 b3 b4
  go_wp2_with fail
  have g5 := grown_alloc w4 (.cells #[.int .i64 R, .int .i64 W, .slice (some ⟨gl, 0, none⟩) n cl] 24)
  have x5 := heap_alloc_new w4 (.cells #[.int .i64 R, .int .i64 W, .slice (some ⟨gl, 0, none⟩) n cl] 24)
  obtain ⟨q1, q2, q3, q4, q5, ⟨cur, q6, q7⟩, q8, q9, q10⟩ := G4.out
  have F5 := hide (And.intro (Set_grown q1 g5) (And.intro (heap_kept q2 g5 (by simp)) (And.intro (grown_trans q3 g5) (And.intro (q4.grown g5) (And.intro (q5.grown g5) (And.intro x5 (And.intro q10 (And.intro (heap_kept q6 g5 (by simp)) (And.intro (H0.out.2.2.1.kept (grown_trans q3 g5) (by simp)) (And.intro q7 (And.intro q8 q9)))))))))))
  generalize w4.alloc (.cells #[.int .i64 R, .int .i64 W, .slice (some ⟨gl, 0, none⟩) n cl] 24) = w5 at *
  obtain ⟨lb, hlb⟩ : ∃ lb, lb = w4.heap.size := ⟨_, rfl⟩
  rw [← hlb] at F5 ⊢
  clear g5 x5 q1 q2 q3 q4 q5 q6 q7 q8 q9 q10 hlb G4 G3
  refine (Bt.bytes_any b g S w5 F5.out.1).mono ?_
  rintro e w6 ⟨rfl, hby, hg6⟩
  obtain ⟨nb, hnb⟩ : ∃ nb, nb = (S.length + 7) / 8 := ⟨_, rfl⟩
  rw [← hnb]
  have HNb := hide hnb
  have F6 := hide (And.intro hg6 hby)
  clear hg6 hby hnb
  obtain ⟨l0, l1, l2⟩ := box3d (heap_kept F5.out.2.2.2.2.2.1 F6.out.1 (by simp))
  go_wp2_with fail
  refine (HR.out _ _ b g w6 (F5.out.2.2.2.1.grown F6.out.1) (Set_grown F5.out.1 F6.out.1) (Tab_grown F5.out.2.2.2.2.2.2.2.2.1 F6.out.1)).mono ?_
  rintro e w7 ⟨v1, rfl, hown1, hg7⟩
  obtain ⟨vo1, vc1, rfl⟩ := span_form hown1
  have F7 := hide (And.intro (grown_trans F6.out.1 hg7) (And.intro (heap_kept F6.out.2 hg7 (by simp)) hown1))
  clear hg7 hown1 l0 l1 l2
  obtain ⟨l0, l1, l2⟩ := box3d (heap_kept F5.out.2.2.2.2.2.1 F7.out.1 (by simp))
  go_wp2_with fail
  refine (HR.out _ _ b g w7 (F5.out.2.2.2.1.grown F7.out.1) (Set_grown F5.out.1 F7.out.1) (Tab_grown F5.out.2.2.2.2.2.2.2.2.1 F7.out.1)).mono ?_
  rintro e w8 ⟨v2, rfl, hown2, hg8⟩
  obtain ⟨vo2, vc2, rfl⟩ := span_form hown2
  have hap := Af.own_newer F7.out.2.2 hown2
  have F8 := hide (And.intro (grown_trans F7.out.1 hg8) (And.intro (heap_kept F7.out.2.1 hg8 (by simp)) (And.intro (span_grown F7.out.2.2 hg8) (And.intro hown2 (And.intro hap (And.intro F6.out.1.size hg8.size))))))
  have hs67 := F7.out.1.size
  clear hg8 hown2 hap l0 l1 l2
  obtain ⟨b0, b1, b2, b3, b4⟩ := box5 (heap_kept F5.out.2.1 F8.out.1 (by simp))
  go_wp2_with fail
  refine (HD.out _ (grown_trans F5.out.2.2.1 F8.out.1)).mono ?_
  rintro e w9 ⟨v3, rfl, hown3, hg9⟩
  obtain ⟨vo3, vc3, rfl⟩ := span_form hown3
  have F9 := hide (And.intro (grown_trans F8.out.1 hg9) (And.intro (heap_kept F8.out.2.1 hg9 (by simp)) (And.intro (span_grown F8.out.2.2.1 hg9) (And.intro (span_grown F8.out.2.2.2.1 hg9) hown3))))
  clear hg9 hown3 b0 b1 b2 b3 b4
  have hEE : (E == E) = true := by simp
  go_wp2_with fail
  refine (sameSpans_eq F9.out.2.2.1 F9.out.2.2.2.2 (by omega)).mono ?_
  rintro e w10 ⟨rfl, hg10⟩
  have FA := hide (And.intro (grown_trans F9.out.1 hg10) (And.intro (heap_kept F9.out.2.1 hg10 (by simp)) (And.intro (span_grown F9.out.2.2.1 hg10) (And.intro (span_grown F9.out.2.2.2.1 hg10) (span_grown F9.out.2.2.2.2 hg10)))))
  clear hg10
  go_wp2_with fail
  refine (sameSpans_eq FA.out.2.2.2.1 FA.out.2.2.2.2 (by omega)).mono ?_
  rintro e w11 ⟨rfl, hg11⟩
  have FB := hide (And.intro (grown_trans FA.out.1 hg11) (And.intro (heap_kept FA.out.2.1 hg11 (by simp)) (And.intro (span_grown FA.out.2.2.1 hg11) (span_grown FA.out.2.2.2.1 hg11))))
  clear hg11
  obtain ⟨l0, l1, l2⟩ := box3d (heap_kept F5.out.2.2.2.2.2.1 FB.out.1 (by simp))
  obtain ⟨b0, b1, b2, b3, b4⟩ := box5 (heap_kept F5.out.2.1 FB.out.1 (by simp))
  go_wp2_with fail
  refine (keptCabin_any R W gl cl ao n cap L w11 H0.out.2.2.2 F5.out.2.2.2.2.2.2.2.2.2.2.1 F5.out.2.2.2.2.2.2.2.2.2.2.2 (F5.out.2.2.2.2.1.grown FB.out.1) (H0.out.1.at_.grown (grown_trans F5.out.2.2.1 FB.out.1)) (by omega)).mono ?_
  rintro e w12 ⟨rfl, hg12⟩
  have FC := hide (And.intro (grown_trans FB.out.1 hg12) (And.intro (heap_kept FB.out.2.1 hg12 (by simp)) (And.intro (span_grown FB.out.2.2.1 hg12) (span_grown FB.out.2.2.2 hg12))))
  clear hg12 l0 l1 l2 b0 b1 b2 b3 b4
  go_wp2_with fail
  refine (Bt.bytes_any b g S w12 (Set_grown F5.out.1 FC.out.1)).mono ?_
  rintro e w13 ⟨rfl, hby, hg13⟩
  rw [← HNb.out]
  have FD := hide (And.intro (grown_trans FC.out.1 hg13) (And.intro (heap_kept FC.out.2.1 hg13 (by simp)) (And.intro (span_grown FC.out.2.2.1 hg13) (And.intro (span_grown FC.out.2.2.2 hg13) hby))))
  clear hg13 hby
  go_wp2_with fail
  refine (sameB_eq w12.heap.size w5.heap.size nb nb nb (Bt.bytesL S) w13 (by rw [HNb.out]; exact Bt.bytesL_length S) FD.out.2.2.2.2 FD.out.2.1 (by have := HNb.out; have := HLn.out; omega)).mono ?_
  rintro e w14 ⟨rfl, hg14⟩
  have FE := hide (And.intro (grown_trans FD.out.1 hg14) (And.intro (span_grown FD.out.2.2.1 hg14) (span_grown FD.out.2.2.2.1 hg14)))
  clear hg14
  obtain ⟨l0, l1, l2⟩ := box3d (heap_kept F5.out.2.2.2.2.2.1 FE.out.1 (by simp))
  go_wp2_with fail
  obtain ⟨cur, hcur, hcs⟩ : ∃ cur, w5.heap[gl]? = some (.cells cur 3 (0, 0)) ∧ cur.size = cl := ⟨cur, F5.out.2.2.2.2.2.2.2.1, F5.out.2.2.2.2.2.2.2.2.2.1⟩
  have hgl5 := row_lt hcur
  refine (overCabin_any R W gl cl n w14 ⟨cur, heap_kept hcur FE.out.1 (by simp), hcs⟩ F5.out.2.2.2.2.2.2.2.2.2.2.1 F5.out.2.2.2.2.2.2.2.2.2.2.2 (by omega)).mono ?_
  rintro e w15 ⟨rfl, hg15⟩
  have hb6 := F8.out.2.2.2.2.2.1
  have hb7 := F8.out.2.2.2.2.2.2
  have o1 := span_base (base' := w5.heap.size) (span_below FE.out.2.1 hg15 (by omega)) (by omega)
  have o2 := span_base (base' := w5.heap.size) (span_below FE.out.2.2 hg15 (by omega)) (by omega)
  have G15 := grown_then (grown_trans F5.out.2.2.1 FE.out.1) hg15 (fun k e => by cases e; exact Or.inl F5.out.2.2.2.2.2.2.1)
  have hs15 := Nat.le_trans FE.out.1.size hg15.size
  have hrw : Af.Rw w15 w5.heap.size [.slice vo1 P.length vc1, .slice vo2 P.length vc2] := Af.Rw.cons o1 (by omega) (fun u hu => by rw [List.mem_singleton] at hu; subst hu; exact F8.out.2.2.2.2.1) (Af.Rw.cons o2 (by omega) (fun u hu => by cases hu) (Af.Rw.nil _ _))
  have HAp := hide (Af.apartL_rows w5.heap.size _ w15 hrw hs15 (by simp) (by simp))
  have FF := hide (And.intro G15 (And.intro o1 o2))
  have hs5 := F5.out.2.2.1.size
  clear hg15 o1 o2 G15 hrw hcur hcs l0 l1 l2
  go_wp2_with fail
  refine HAp.out.mono ?_
  rintro e w16 ⟨rfl, hgt⟩
  have G16 := Af.grownT_after FF.out.1 hgt (fun k hT => by
    obtain ⟨i, hi, hk⟩ := hT
    match i, hi, hk with
    | 0, _, hk => exact Nat.le_trans hs5 (FF.out.2.1.lt k hk).1
    | 1, _, hk => exact Nat.le_trans hs5 (FF.out.2.2.lt k hk).1)
  have FG := hide G16
  clear hgt G16 HAp
  go_wp2_with fail
  refine (awake_any w16 (H0.out.2.2.1.kept FG.out (by simp))).mono ?_
  rintro e w17 ⟨rfl, hg17⟩
  have FH := hide (grown_trans FG.out hg17)
  clear hg17
  go_wp2
  go_ret
  exact ⟨rfl, FH.out⟩
end Go.Proofs.YtnnmaknjhfjojaaGreatDoor
