/- A heap that the call made; awake. -/
import Derived.Test.YtkbhjdjdjfdikaaHk
namespace Go.Proofs.Ytkbhjdjdjfdikaa
open Go.RowKit Ap
attribute [local go_sem ↓] Go.wp_at_zero Go.wp_at_succ
/-- The place of the least one. -/
def Top (lt : Int → Int → Bool) (E : List (Nat × Int)) (i : Nat) : Prop := ∃ T, Good lt E T ∧ i = tn T 0
theorem Top.lt {lt : Int → Int → Bool} {E : List (Nat × Int)} {i : Nat} (h : Top lt E i) (hz : 0 < E.length) : i < E.length := by
  obtain ⟨T, hg, rfl⟩ := h
  exact (hg.sub 0 hz).2
/-- A heap that lies in blocks that were not there in w0. -/
structure HO (w0 w : World) (L : Les) (h : Nat) (E : List (Nat × Int)) (N B : Nat) : Prop where
  hs : ∃ p T, p.h = h ∧ HS w L p E T N B ∧ (∀ j, p.own j → w0.heap.size ≤ j)
  grown : w0.grownBy w none
  sl : ∀ j, L.S j → w0.heap.size ≤ j
section
variable {w0 w w' : World} {L : Les} {h : Nat} {E : List (Nat × Int)} {N B : Nat}
theorem HO.step {p q : Hp} {E' : List (Nat × Int)} {T' : List Nat} {N' B' : Nat} (o : HO w0 w L h E N B) (hp : p.h = h) (hown : ∀ j, p.own j → w0.heap.size ≤ j) (h1 : HS w' L q E' T' N' B') (h2 : Hst w w' L p q) : HO w0 w' L h E' N' B' := by
  refine ⟨⟨q, T', h2.h.trans hp, h1, fun j e => ?_⟩, ?_, o.sl⟩
  · rcases h2.own j e with e | e
    · exact hown j e
    · exact Nat.le_trans o.grown.size e
  · have k : Kept w0 w' (fun _ => False) := (Kept.new o.grown _).trans h2.kept (fun i hi e => by
      rcases e with e | e
      · have := o.sl i e; omega
      · have := hown i e; omega)
    exact k.grown (fun _ _ e => e)
theorem HO.then (hL : L.Ok) (o : HO w0 w L h E N B) (g : w.grownBy w' none) : HO w0 w' L h E N B := by
  obtain ⟨p, T, hp, h1, h2⟩ := o.hs
  exact ⟨⟨p, T, hp, h1.then hL g, h2⟩, grown_trans o.grown g, o.sl⟩
theorem HO.mono (o : HO w0 w L h E N B) {B' : Nat} (hB : B ≤ B') : HO w0 w L h E N B' := by
  obtain ⟨p, T, hp, h1, h2⟩ := o.hs
  exact ⟨⟨p, T, hp, h1.mono hB, h2⟩, o.grown, o.sl⟩
theorem ho_new (hL : L.Ok) (hI : L.I w) (g : w0.grownBy w none) (hsl : ∀ j, L.S j → w0.heap.size ≤ j) : Calls Try.prog 22 #[L.fv] w fun e w' => ∃ h, e = .returned (.pointer (some ⟨h, 0, none⟩)) ∧ HO w0 w' L h [] 0 0 := by
  refine (new_any hL hI).mono ?_
  rintro e w' ⟨p, rfl, h1, h2, h3⟩
  exact ⟨p.h, rfl, ⟨p, [], rfl, h1, fun j e => Nat.le_trans g.size (h3 j e)⟩, grown_trans g h2, hsl⟩
theorem ho_push (hL : L.Ok) (o : HO w0 w L h E N B) (hE : E.length < 65536) (hN : N ≤ 100000000) (hB : B ≤ 100000000) (v : Int) (hv : L.ok v) :
    Calls Try.prog 17 #[.pointer (some ⟨h, 0, none⟩), .int .i64 v] w fun e w' => e = .returned (.tuple #[.int .i64 (N : Int), .int .i64 0]) ∧ HO w0 w' L h (E ++ [(N, v)]) (N + 1) (B + 1) := by
  obtain ⟨p, T, rfl, h1, h2⟩ := o.hs
  refine (push_any hL h1 hE hN hB v hv).mono ?_
  rintro e w' ⟨rfl, q, T', h3, h4⟩
  exact ⟨rfl, o.step rfl h2 h3 h4⟩
theorem ho_full (o : HO w0 w L h E N B) (hE : E.length = 65536) (v : Int) : Calls Try.prog 17 #[.pointer (some ⟨h, 0, none⟩), .int .i64 v] w fun e w' => e = .returned (.tuple #[.int .i64 0, .int .i64 6]) ∧ w' = w := by
  obtain ⟨p, T, rfl, h1, h2⟩ := o.hs
  exact push_full h1 hE v
theorem ho_set (hL : L.Ok) (o : HO w0 w L h E N B) (hE : E.length ≤ 65536) (x v : Int) (hx : I64 x) (hv : L.ok v) :
    Calls Try.prog 18 #[.pointer (some ⟨h, 0, none⟩), .int .i64 x, .int .i64 v] w fun e w' => e = .returned (.bool (fi E x).isSome) ∧ HO w0 w' L h ((fi E x).elim E fun i => setI E i v) N B := by
  obtain ⟨p, T, rfl, h1, h2⟩ := o.hs
  refine (set_any hL h1 hE x v (wf_i64 hx.1 hx.2) hv).mono ?_
  rintro e w' ⟨rfl, T', h3, h4⟩
  exact ⟨rfl, o.step rfl h2 h3 h4⟩
theorem ho_drop (hL : L.Ok) (o : HO w0 w L h E N B) (hE : E.length ≤ 65536) (hN : N ≤ 100000000) (hB : B ≤ 100000000) (x : Int) (hx : I64 x) :
    Calls Try.prog 19 #[.pointer (some ⟨h, 0, none⟩), .int .i64 x] w fun e w' => e = .returned (.bool (fi E x).isSome) ∧ HO w0 w' L h ((fi E x).elim E fun i => outE E i) N (B + 1) := by
  obtain ⟨p, T, rfl, h1, h2⟩ := o.hs
  refine (drop_any hL h1 hE hN hB x (wf_i64 hx.1 hx.2)).mono ?_
  rintro e w' ⟨rfl, q, T', h3, h4⟩
  exact ⟨rfl, o.step rfl h2 h3 h4⟩
theorem ho_get (o : HO w0 w L h E N B) (x : Int) (hx : I64 x) : Calls Try.prog 31 #[.pointer (some ⟨h, 0, none⟩), .int .i64 x] w fun e w' => e = .returned (.tuple #[.int .i64 ((fi E x).elim 0 fun i => (en E i).2), .bool (fi E x).isSome]) ∧ w' = w := by
  obtain ⟨p, T, rfl, h1, h2⟩ := o.hs
  exact get_at h1.at_ x (wf_i64 hx.1 hx.2)
theorem ho_len (o : HO w0 w L h E N B) : Calls Try.prog 39 #[.pointer (some ⟨h, 0, none⟩)] w fun e w' => e = .returned (.int .i64 (E.length : Int)) ∧ w' = w := by
  obtain ⟨p, T, rfl, h1, h2⟩ := o.hs
  exact len_at h1.at_
theorem ho_least (hL : L.Ok) (o : HO w0 w L h E N B) (hz : 0 < E.length) : Calls Try.prog 38 #[.pointer (some ⟨h, 0, none⟩)] w fun e w' => ∃ i, Top L.lt E i ∧ e = .returned (.tuple #[.int .i64 (en E i).2, .int .i64 ((en E i).1 : Int), .bool true]) ∧ HO w0 w' L h E N B := by
  obtain ⟨p, T, rfl, h1, h2⟩ := o.hs
  refine h1.least.mono ?_
  rintro e w' ⟨rfl, g⟩
  refine ⟨tn T 0, ⟨T, h1.good, rfl⟩, ?_, o.then hL g⟩
  simp [hz]
theorem ho_least_none (hL : L.Ok) (o : HO w0 w L h E N B) (hz : E.length = 0) : Calls Try.prog 38 #[.pointer (some ⟨h, 0, none⟩)] w fun e w' => e = .returned (.tuple #[.int .i64 0, .int .i64 0, .bool false]) ∧ HO w0 w' L h E N B := by
  obtain ⟨p, T, rfl, h1, h2⟩ := o.hs
  refine h1.least.mono ?_
  rintro e w' ⟨rfl, g⟩
  refine ⟨?_, o.then hL g⟩
  simp [hz]
theorem ho_pop (hL : L.Ok) (o : HO w0 w L h E N B) (hz : 0 < E.length) (hE : E.length ≤ 65536) (hN : N ≤ 100000000) (hB : B ≤ 100000000) : Calls Try.prog 16 #[.pointer (some ⟨h, 0, none⟩)] w fun e w' => ∃ i, Top L.lt E i ∧ e = .returned (.tuple #[.int .i64 (en E i).2, .int .i64 ((en E i).1 : Int), .bool true]) ∧ HO w0 w' L h (outE E i) N (B + 1) := by
  obtain ⟨p, T, rfl, h1, h2⟩ := o.hs
  refine (pop_any hL h1 hE hN hB).mono ?_
  rintro e w' ⟨rfl, q, T', h3, h4⟩
  rw [if_pos hz] at h3
  refine ⟨tn T 0, ⟨T, h1.good, rfl⟩, ?_, o.step rfl h2 h3 h4⟩
  simp [hz]
theorem ho_pop_none (hL : L.Ok) (o : HO w0 w L h E N B) (hz : E.length = 0) (hN : N ≤ 100000000) (hB : B ≤ 100000000) : Calls Try.prog 16 #[.pointer (some ⟨h, 0, none⟩)] w fun e w' => e = .returned (.tuple #[.int .i64 0, .int .i64 0, .bool false]) ∧ HO w0 w' L h E N (B + 1) := by
  obtain ⟨p, T, rfl, h1, h2⟩ := o.hs
  refine (pop_any hL h1 (by omega) hN hB).mono ?_
  rintro e w' ⟨rfl, q, T', h3, h4⟩
  rw [if_neg (by omega)] at h3
  exact ⟨by simp [hz], o.step rfl h2 h3 h4⟩
end
theorem two_least {i : Nat} (h : Top (lessK 0) [(0, 5), (1, 3)] i) : i = 1 := by
  obtain ⟨T, h, rfl⟩ := h
  have h1 := h.right 1 (by decide)
  have h0 := h.right 0 (by decide)
  have e1 : tn T 1 = 1 := by rw [h1]; rfl
  rw [h0]
  show (if ah (lessK 0) (en [(0, 5), (1, 3)] (tn T 1)) (en [(0, 5), (1, 3)] 0) then tn T 1 else 0) = 1
  rw [e1]
  rfl
set_option maxRecDepth 20000 in
set_option maxHeartbeats 4000000 in
theorem awake_any (w : World) : Calls Try.prog 14 #[] w fun e w' => e = .returned (.bool true) ∧ w.grownBy w' none := by
  have ho := orders_any 0 w
  rw [show (0 : Int) % 7 = 0 from rfl] at ho
  obtain ⟨L, hLd⟩ : ∃ L, L = lsK 0 w.heap.size := ⟨_, rfl⟩
  have hL : L.Ok := by rw [hLd]; exact lsK_ok _ _
  have hlt : L.lt = lessK 0 := by rw [hLd]; rfl
  have hok : ∀ x, I64 x → L.ok x := by rw [hLd]; exact fun x h => h
  have hS : ∀ j, L.S j → w.heap.size ≤ j := by rw [hLd]; exact fun j h => h.elim
  rw [← hLd] at ho
  have HL := hide (And.intro hL (And.intro hlt (And.intro hok hS)))
  clear hLd hL hlt hok hS
  have hfv : L.fv = .func (.func L.k) #[] L.cap := rfl
  rw [hfv] at ho
  go_enter Try.func14, Try.ntmps14
  go_wp2_with fail
  refine ho.mono ?_
  clear ho
  rintro e w1 ⟨rfl, hI1, g1⟩
  have hnew := ho_new (w := w1) HL.out.1 hI1 g1 HL.out.2.2.2
  rw [hfv] at hnew
  clear g1 hI1 hfv
  go_wp2_with fail
  refine hnew.mono ?_
  clear hnew
  rintro e w2 ⟨h, rfl, h2⟩
  have hp1 := ho_push HL.out.1 h2 (by decide) (by decide) (by decide) 5 (HL.out.2.2.1 5 (by unfold I64; omega))
  clear h2
  go_wp2_with fail
  refine hp1.mono ?_
  clear hp1
  rintro e w3 ⟨rfl, h3⟩
  have hp2 := ho_push HL.out.1 h3 (by decide) (by decide) (by decide) 3 (HL.out.2.2.1 3 (by unfold I64; omega))
  clear h3
  go_wp2_with fail
  refine hp2.mono ?_
  clear hp2
  rintro e w4 ⟨rfl, h4⟩
  have hp3 := ho_least HL.out.1 h4 (by decide)
  clear h4
  go_wp2_with fail
  refine hp3.mono ?_
  clear hp3
  rintro e w5 ⟨i5, ht5, rfl, h5⟩
  rw [HL.out.2.1] at ht5
  obtain rfl := two_least ht5
  clear ht5
  have hp4 := ho_pop HL.out.1 h5 (by decide) (by decide) (by decide) (by decide)
  clear h5
  simp only [show (en ([] ++ [(0, (5 : Int))] ++ [(0 + 1, 3)]) 1) = (1, 3) from rfl]
  go_wp2_with fail
  refine hp4.mono ?_
  clear hp4
  rintro e w6 ⟨i6, ht6, rfl, h6⟩
  rw [HL.out.2.1] at ht6
  obtain rfl := two_least ht6
  clear ht6
  simp only [show (en ([] ++ [(0, (5 : Int))] ++ [(0 + 1, 3)]) 1) = (1, 3) from rfl]
  rw [show outE ([] ++ [(0, (5 : Int))] ++ [(0 + 1, 3)]) 1 = [(0, 5)] from rfl] at h6
  have hp5 := ho_len h6
  have hp6 := ho_drop HL.out.1 h6 (by decide) (by decide) (by decide) 0 (by unfold I64; omega)
  have H6 := hide h6
  clear h6
  rw [show fi [(0, (5 : Int))] 0 = some 0 from rfl] at hp6
  simp only [Option.isSome, Option.elim, show outE [(0, (5 : Int))] 0 = [] from rfl] at hp6
  simp only [List.length, show ((0 + 1 : Nat) : Int) = 1 from rfl] at hp5
  go_wp2_with fail
  refine hp5.mono ?_
  clear hp5
  rintro e w7 ⟨rfl, hw7⟩
  obtain rfl := hw7.symm
  go_wp2_with fail
  refine hp6.mono ?_
  clear hp6
  rintro e w8 ⟨rfl, h8⟩
  have hp7 := ho_len h8
  simp only [List.length, show ((0 : Nat) : Int) = 0 from rfl] at hp7
  have H8 := hide h8
  clear h8
  go_wp2_with fail
  refine hp7.mono ?_
  clear hp7
  rintro e w9 ⟨rfl, hw9⟩
  obtain rfl := hw9.symm
  go_wp2
  go_ret
  exact ⟨rfl, H8.out.grown⟩
end Go.Proofs.Ytkbhjdjdjfdikaa
