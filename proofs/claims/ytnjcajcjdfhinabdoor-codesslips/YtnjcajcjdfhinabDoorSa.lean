/- CodesSlips: Pick, rows of bytes made of a text, the walk. -/
import Derived.Test.YtnjcajcjdfhinabDoorCf
import Derived.Test.YtnjcajcjdfhinabDoorCs
import Derived.Lib.ConvBytes
import Derived.Lib.AtoiErrMem
namespace Go.Proofs.YtnjcajcjdfhinabDoor
open Go.RowKit Cn
attribute [local go_sem ↓] Go.wp_at_zero Go.wp_at_succ

theorem tmod_neg (x : Int) (n : Nat) (hn : 1 ≤ n) (h : x.tmod (n : Int) < 0) : x.tmod (n : Int) + (n : Int) = x % (n : Int) := by
  have h1 := Int.tmod_eq_emod (a := x) (b := (n : Int))
  have h2 := Int.emod_nonneg x (show (n : Int) ≠ 0 by omega)
  have h3 := Int.emod_lt_of_pos x (show (0 : Int) < (n : Int) by omega)
  rw [h1] at h ⊢
  split at h
  · omega
  · rename_i h4
    rw [if_neg h4]
    simp
theorem tmod_nonneg (x : Int) (n : Nat) (hn : 1 ≤ n) (h : 0 ≤ x.tmod (n : Int)) : x.tmod (n : Int) = x % (n : Int) := by
  have h1 := Int.tmod_eq_emod (a := x) (b := (n : Int))
  have h2 := Int.emod_nonneg x (show (n : Int) ≠ 0 by omega)
  have h3 := Int.emod_lt_of_pos x (show (0 : Int) < (n : Int) by omega)
  rw [h1] at h ⊢
  split
  · omega
  · rename_i h4
    rw [if_neg h4] at h
    simp at h
    omega
set_option maxHeartbeats 400000 in
theorem pick_any (x N : Int) (n : Nat) (w : World) (hN : N = (n : Int)) (hn : 1 ≤ n) (hn2 : n ≤ 4611686018427387904) :
    Calls Tryd.prog 6 #[.int .i64 x, .int .i64 N] w fun e w' => e = .returned (.int .i64 (x % (n : Int))) ∧ w' = w := by
  subst hN
  have h1 : (1 : Int) ≤ (n : Int) := by omega
  have h2 : ((n : Int) == 0) = false := by simp; omega
  have hb := Int.tmod_lt_of_pos x (show (0 : Int) < (n : Int) by omega)
  have hb2 := Int.lt_tmod_of_pos x (show (0 : Int) < (n : Int) by omega)
  have hr1 := tmod_neg x n hn
  have hr2 := tmod_nonneg x n hn
  by_cases hs : x.tmod (n : Int) < 0
  · have hr := hr1 hs
    have HR := hide hr
    clear hr hr1 hr2
    go_enter Tryd.func6, Tryd.ntmps6
    go_wp2
    go_ret
    exact ⟨by rw [← HR.out]; rfl, rfl⟩
  · have hs2 : 0 ≤ x.tmod (n : Int) := by omega
    have hr := hr2 hs2
    have HR := hide hr
    clear hr hr1 hr2
    go_enter Tryd.func6, Tryd.ntmps6
    go_wp2
    go_ret
    exact ⟨by rw [← HR.out]; rfl, rfl⟩
/-- Pick, told as a number of its own. -/
theorem pick_nat (x : Int) (n : Nat) (hn : 1 ≤ n) (hn2 : n ≤ 4611686018427387904) (w : World) :
    Calls Tryd.prog 6 #[.int .i64 x, .int .i64 (n : Int)] w fun e w' => e = .returned (.int .i64 ((x % (n : Int)).toNat : Int)) ∧ w' = w := by
  have h := pick_any x n n w rfl hn hn2
  have h2 := Int.emod_nonneg x (show (n : Int) ≠ 0 by omega)
  rw [Int.toNat_of_nonneg h2]
  exact h


/-- Eight bytes lie in a block of their own. -/
structure B8 (w : World) (g : Nat) (l : List UInt8) : Prop where
  len : l.length = 8
  row : ∃ (c : List Value) (n : Nat), w.heap[g]? = some (.cells c.toArray 5 (n, n + 1)) ∧ 8 ≤ n ∧ ∀ (j : Nat) (x : UInt8), l[j]? = some x → c[j]? = some (.int .u8 (x.toNat : Int))
theorem B8.cell {w : World} {g : Nat} {l : List UInt8} (h : B8 w g l) {j : Nat} {x : UInt8} (hx : l[j]? = some x) : w.cell? ⟨g, j, none⟩ = some (.int .u8 (x.toNat : Int)) := by
  obtain ⟨c, n, h1, h2, h3⟩ := h.row
  rw [cell_row h1]; exact h3 j x hx
theorem B8.any {w : World} {g : Nat} {l : List UInt8} (h : B8 w g l) {j : Nat} (hj : j < 8) : ∃ z : Nat, w.cell? ⟨g, j, none⟩ = some (.int .u8 (z : Int)) :=
  ⟨_, h.cell (List.getElem?_eq_getElem (by rw [h.len]; exact hj))⟩
theorem B8.free {w : World} {g : Nat} {l : List UInt8} (h : B8 w g l) {j : Nat} (hj : j < 8) : w.frozen? ⟨g, j, none⟩ = false := by
  obtain ⟨c, n, h1, h2, h3⟩ := h.row
  simp [World.frozen?, h1]; omega
theorem B8.grown {w w' : World} {g : Nat} {l : List UInt8} (h : B8 w g l) (hg : w.grownBy w' none) : B8 w' g l := by
  obtain ⟨c, n, h1, h2, h3⟩ := h.row
  exact ⟨h.len, c, n, heap_kept h1 hg (by simp), h2, h3⟩
theorem B8.set {w : World} {g : Nat} {l : List UInt8} (h : B8 w g l) (i : Nat) (x : UInt8) : B8 (w.setCell ⟨g, i, none⟩ (.int .u8 (x.toNat : Int))) g (l.set i x) := by
  obtain ⟨c, n, h1, h2, h3⟩ := h.row
  refine ⟨by simp [h.len], c.set i (.int .u8 (x.toNat : Int)), n, row_setCell h1 i _, h2, ?_⟩
  intro j y hy
  rw [List.getElem?_set] at hy ⊢
  by_cases e : i = j
  · subst e
    rw [if_pos rfl] at hy ⊢
    split at hy
    · rename_i hl
      cases hy
      have := h3 i _ (List.getElem?_eq_getElem hl)
      rw [if_pos (List.getElem?_eq_some_iff.1 this).1]
    · cases hy
  · rw [if_neg e] at hy ⊢
    exact h3 j y hy
theorem B8.conv {w : World} {g cap : Nat} {l : List UInt8} (h : B8 w g l) : (convert 26 9 (.slice (some ⟨g, 0, none⟩) 8 cap)).run Tryd.prog w = .ok (.string ⟨l.toArray⟩) w := by
  have := run_convert_bytes_back (P := Tryd.prog) w 26 9 5 ⟨g, 0, none⟩ cap l Tryd.underlying26 Tryd.underlying5 Tryd.underlying9 (fun j hj => by rw [add0]; exact h.cell (List.getElem?_eq_getElem hj))
  rw [h.len] at this
  exact this
theorem B8.made (w : World) (l : List UInt8) (hl : l.length = 8) : B8 (Lib.bytesWorld w 5 ⟨l.toArray⟩) w.heap.size l := by
  have h1 := Lib.bytesWorld_at_new w 5 ⟨l.toArray⟩
  refine ⟨hl, (Lib.bytesCells w 5 ⟨l.toArray⟩).toList, (Lib.bytesCells w 5 ⟨l.toArray⟩).size, by rw [h1], ?_, ?_⟩
  · unfold Lib.bytesCells; simp [hl]
  · intro j x hx
    obtain ⟨hj, he⟩ := List.getElem?_eq_some_iff.1 hx
    unfold Lib.bytesCells
    simp [List.getElem?_append, hj, he]
theorem conv_made (w : World) (l : List UInt8) (hl : l.length = 8) : ∃ cap, (8 ≤ cap) ∧ (convert 9 26 (.string ⟨l.toArray⟩)).run Tryd.prog w = .ok (.slice (some ⟨w.heap.size, 0, none⟩) 8 cap) (Lib.bytesWorld w 5 ⟨l.toArray⟩) := by
  have h := Lib.run_convert_string_bytes (P := Tryd.prog) w 9 26 5 ⟨l.toArray⟩ (u := .string) Tryd.underlying9 Tryd.underlying26 Tryd.underlying5
  rw [size_str, hl] at h
  exact ⟨_, grownCap_ge w 8 0 5, h⟩
theorem lets_index64 {d : Nat} (h : d < 32) (w : World) : (Instr.index 9 (.string ⟨#[50, 51, 52, 53, 54, 55, 56, 57, 65, 66, 67, 68, 69, 70, 71, 72, 74, 75, 76, 77, 78, 80, 81, 82, 83, 84, 85, 86, 87, 88, 89, 90]⟩) (.int .i64 (d : Int))).run Tryd.prog w = .ok (.int .u8 ((lt d).toNat : Int)) w :=
  index_at (l := lets) (lets_at h) w
theorem grown_made (w : World) (s : ByteArray) : w.grownBy (Lib.bytesWorld w 5 s) none := below_grown (Lib.bytesWorld_below _ _ _)
/-- What Parse tells of a text that is the code (q), or none. -/
def Tells (id n e : Nat) (q : Bool) : Prop := (n = id ∧ e = 0 ∧ q = true) ∨ (n = 0 ∧ e = 150 ∧ q = false)
set_option maxRecDepth 100000 in
set_option maxHeartbeats 4000000 in
theorem slips_core (id I K D : Nat) (x y : UInt8) (i k letter : Int) (n1 p1 e1 n2 p2 e2 : Nat) (q1 q2 : Bool) (w : World) (hT : Tab w) (hid : id < 4294967296)
    (hI : I < 8) (hK : K < 8) (hD : D < 32) (gI : (tx id)[I]? = some x) (gK : (tx id)[K]? = some y)
    (P1 : ∀ w, Calls Tryd.prog 6 #[.int .i64 i, .int .i64 8] w fun e w' => e = .returned (.int .i64 (I : Int)) ∧ w' = w)
    (P2 : ∀ w, Calls Tryd.prog 6 #[.int .i64 k, .int .i64 8] w fun e w' => e = .returned (.int .i64 (K : Int)) ∧ w' = w)
    (P3 : ∀ w, Calls Tryd.prog 6 #[.int .i64 letter, .int .i64 32] w fun e w' => e = .returned (.int .i64 (D : Int)) ∧ w' = w)
    (t1 : prs ((tx id).set I (lt D)) = (n1, p1, e1)) (t2 : prs (((tx id).set I y).set K x) = (n2, p2, e2)) (h1 : Tells id n1 e1 q1) (h2 : Tells id n2 e2 q2)
    (hq1 : ((⟨((tx id).set I (lt D)).toArray⟩ : ByteArray).toList == (⟨(tx id).toArray⟩ : ByteArray).toList) = q1) (hq2 : ((⟨(((tx id).set I y).set K x).toArray⟩ : ByteArray).toList == (⟨(tx id).toArray⟩ : ByteArray).toList) = q2) :
    Calls Tryd.prog 3 #[.int .u32 (id : Int), .int .i64 i, .int .i64 k, .int .i64 letter] w fun e w' => e = .returned (.bool true) ∧ w.grownBy w' none := by
  have A := hide (awake_any w hT)
  have T := hide (fun w' (hg : w.grownBy w' none) => text_any id hid w' (hT.grown hg))
  have R1 := hide (fun w' (hg : w.grownBy w' none) => parse_any ((tx id).set I (lt D)) (by rw [List.length_set, tx_len]; decide) w' (hT.grown hg))
  have R2 := hide (fun w' (hg : w.grownBy w' none) => parse_any (((tx id).set I y).set K x) (by rw [List.length_set, List.length_set, tx_len]; decide) w' (hT.grown hg))
  rw [t1] at R1
  rw [t2] at R2
  unfold prsV str at *
  simp only at R1 R2
  have P1 := hide P1
  have P2 := hide P2
  have P3 := hide P3
  have hz := size_str (tx id)
  rw [tx_len] at hz
  have hlen := tx_len id
  have hix := lets_index64 hD
  have HC := hide (fun w => conv_made w (tx id) hlen)
  have HM := hide (fun w => B8.made w (tx id) hlen)
  obtain ⟨l, hl⟩ : ∃ l, l = tx id := ⟨_, rfl⟩
  rw [← hl] at gI gK T R1 R2 HC HM hz hq1 hq2 hlen
  have HG := hide (And.intro gI (And.intro gK hlen))
  have HQ := hide (And.intro hq1 (And.intro hq2 (And.intro h1 h2)))
  have hI1 : (I : Int) < 8 := by omega
  have hI0 : (0 : Int) ≤ (I : Int) := by omega
  have hK1 : (K : Int) < 8 := by omega
  have hK0 : (0 : Int) ≤ (K : Int) := by omega
  have hD0 : (0 : Int) ≤ (D : Int) := by omega
  have hz1 : ((⟨l.toArray⟩ : ByteArray).size : Int) = 8 := by omega
  have hzn : (((⟨l.toArray⟩ : ByteArray).size : Int) == 8) = true := by simp [hz1]
  clear hT hid gI gK hl h1 h2 hq1 hq2 hlen t1 t2 hz
  generalize hsl : (⟨l.toArray⟩ : ByteArray) = sa at *
  have HSL := hide hsl
  clear hsl
  go_enter Tryd.func3, Tryd.ntmps3
  go_wp2_with fail
  refine A.out.mono ?_
  rintro e w1 ⟨rfl, hg1⟩
  have G1 := hide hg1
  clear hg1
  go_wp2_with fail
  refine (T.out _ G1.out).mono ?_
  rintro e w2 ⟨rfl, hg2⟩
  have G2 := hide (grown_trans G1.out hg2)
  clear hg2 G1
  go_wp2_with fail
  refine (P1.out _).mono ?_
  rintro e w3 ⟨rfl, rfl⟩
  go_wp2_with fail
  refine (P2.out _).mono ?_
  rintro e w4 ⟨rfl, rfl⟩
  obtain ⟨cap, hcap, hcv⟩ := HC.out w4
  have hb := HM.out w4
  have G3 := hide (And.intro (grown_trans G2.out (grown_made w4 sa)) hb)
  have hcell := hb.cell HG.out.1
  have hfree := hb.free hI
  clear hb
  have HGS := hide (show w.heap.size ≤ w4.heap.size from G2.out.size)
  obtain ⟨w5, hw5⟩ : ∃ w5, w5 = Lib.bytesWorld w4 5 sa := ⟨_, rfl⟩
  rw [← hw5] at hcv G3 hcell hfree
  have hcap2 : (8 : Int) ≤ (cap : Int) := by omega
  clear hw5
  generalize w4.heap.size = g at *
  go_wp2_with fail
  refine (P3.out _).mono ?_
  rintro e w6 ⟨rfl, rfl⟩
  have hb1 := G3.out.2.set I (lt D)
  have hc1 := hb1.conv (cap := cap)
  have G4 := hide (And.intro (grown_setCell w6 g I (.int .u8 ((lt D).toNat : Int))) hb1)
  obtain ⟨s1, hs1⟩ : ∃ s1, s1 = (⟨(l.set I (lt D)).toArray⟩ : ByteArray) := ⟨_, rfl⟩
  rw [← hs1] at hc1 R1 HQ
  have HS1 := hide hs1
  clear hs1 hb1
  go_wp2_with fail
  refine (R1.out _ (grown_new G3.out.1 G4.out.1 HGS.out)).mono ?_
  rintro e w7 ⟨rfl, hg7⟩
  have hb7 := G4.out.2.grown hg7
  have hc7 := hb7.conv (cap := cap)
  have hss := HS1.out
  rw [← hss] at hc7
  have G7 := hide (grown_trans (grown_new G3.out.1 G4.out.1 HGS.out) hg7)
  obtain ⟨cap', hcap', hcv'⟩ := HC.out w7
  have hb := HM.out w7
  have hcapI : (8 : Int) ≤ (cap' : Int) := by omega
  have b1 := hb.set I y
  have b2 := b1.set K x
  have b3 := hb.set K x
  have cI := hb.cell HG.out.1
  have cK := hb.cell HG.out.2.1
  have fI := hb.free hI
  have fK := hb.free hK
  obtain ⟨z1, cK1⟩ := b1.any hK
  have fK1 := b1.free hK
  obtain ⟨z2, cI1⟩ := b3.any hI
  have fI1 := b3.free hI
  have d2 := (b2.grown (grown_drew _ none)).conv (cap := cap')
  have G8 := hide (And.intro (grown_trans G7.out (grown_made w7 sa)) (And.intro b2 G7.out.size))
  obtain ⟨w8, hw8⟩ : ∃ w8, w8 = Lib.bytesWorld w7 5 sa := ⟨_, rfl⟩
  rw [← hw8] at hcv' cI cK fI fK cK1 fK1 cI1 fI1 d2 G8
  obtain ⟨s2, hs2⟩ : ∃ s2, s2 = (⟨((l.set I y).set K x).toArray⟩ : ByteArray) := ⟨_, rfl⟩
  rw [← hs2] at d2 R2 HQ
  have HS2 := hide hs2
  clear hs2 hw8 hb b1 b2 b3 hb7 hg7 hss
  generalize w7.heap.size = g2 at *
  generalize x.toNat = xn at *
  generalize y.toNat = yn at *
  obtain ⟨hq1, hq2, h1, h2⟩ := HQ.out
  rcases h1 with ⟨rfl, rfl, rfl⟩ | ⟨rfl, rfl, rfl⟩
  · go_wp2
    go_region
    go_wp2_with fail
    have hgx := grown_trans (grown_new (grown_new G8.out.1 (grown_setCell w8 g2 I (.int .u8 (yn : Int))) G8.out.2.2) (grown_setCell _ g2 K (.int .u8 (xn : Int))) G8.out.2.2) (grown_drew _ none)
    refine (R2.out _ hgx).mono ?_
    rintro e w9 ⟨rfl, hg9⟩
    have d9 := ((G8.out.2.1.grown (grown_drew _ none)).grown hg9).conv (cap := cap')
    rw [← HS2.out] at d9
    have G9 := hide (grown_trans hgx hg9)
    clear hg9 hgx
    rcases h2 with ⟨rfl, rfl, rfl⟩ | ⟨rfl, rfl, rfl⟩
    · go_wp2
      go_ret
      exact ⟨rfl, G9.out⟩
    · go_wp2
      go_ret
      exact ⟨rfl, G9.out⟩
  · go_wp2
    go_region
    go_wp2_with fail
    have hgx := grown_trans (grown_new (grown_new G8.out.1 (grown_setCell w8 g2 I (.int .u8 (yn : Int))) G8.out.2.2) (grown_setCell _ g2 K (.int .u8 (xn : Int))) G8.out.2.2) (grown_drew _ none)
    refine (R2.out _ hgx).mono ?_
    rintro e w9 ⟨rfl, hg9⟩
    have d9 := ((G8.out.2.1.grown (grown_drew _ none)).grown hg9).conv (cap := cap')
    rw [← HS2.out] at d9
    have G9 := hide (grown_trans hgx hg9)
    clear hg9 hgx
    rcases h2 with ⟨rfl, rfl, rfl⟩ | ⟨rfl, rfl, rfl⟩
    · go_wp2
      go_ret
      exact ⟨rfl, G9.out⟩
    · go_wp2
      go_ret
      exact ⟨rfl, G9.out⟩
theorem pick_lt (x : Int) (n : Nat) (hn : 1 ≤ n) : (x % (n : Int)).toNat < n := by
  have h2 := Int.emod_nonneg x (show (n : Int) ≠ 0 by omega)
  have h3 := Int.emod_lt_of_pos x (show (0 : Int) < (n : Int) by omega)
  omega
theorem tells_of {id n p e : Nat} {s : List UInt8} (t : prs s = (n, p, e)) (h : (prs s = (id, 0, 0) ∧ s = tx id) ∨ (s ≠ tx id ∧ (prs s).1 = 0 ∧ (prs s).2.2 = 150)) : Tells id n e ((⟨s.toArray⟩ : ByteArray).toList == (⟨(tx id).toArray⟩ : ByteArray).toList) := by
  rcases h with ⟨h1, h2⟩ | ⟨h1, h2, h3⟩
  · rw [t] at h1
    cases h1
    exact Or.inl ⟨rfl, rfl, by rw [h2]; exact str_eq _⟩
  · rw [t] at h2 h3
    exact Or.inr ⟨h2, h3, str_ne h1⟩
theorem codesSlips_any (id : Nat) (hid : id < 4294967296) (i k letter : Int) (w : World) (hT : Tab w) :
    Calls Tryd.prog 3 #[.int .u32 (id : Int), .int .i64 i, .int .i64 k, .int .i64 letter] w fun e w' => e = .returned (.bool true) ∧ w.grownBy w' none := by
  have hI := pick_lt i 8 (by omega)
  have hK := pick_lt k 8 (by omega)
  have hD := pick_lt letter 32 (by omega)
  have P1 := pick_nat i 8 (by omega) (by omega)
  have P2 := pick_nat k 8 (by omega) (by omega)
  have P3 := pick_nat letter 32 (by omega) (by omega)
  generalize (i % ((8 : Nat) : Int)).toNat = I at *
  generalize (k % ((8 : Nat) : Int)).toNat = K at *
  generalize (letter % ((32 : Nat) : Int)).toNat = D at *
  obtain ⟨x, hx⟩ : ∃ x, (tx id)[I]? = some x := ⟨_, List.getElem?_eq_getElem (by rw [tx_len]; exact hI)⟩
  obtain ⟨y, hy⟩ : ∃ y, (tx id)[K]? = some y := ⟨_, List.getElem?_eq_getElem (by rw [tx_len]; exact hK)⟩
  obtain ⟨n1, p1, e1, t1⟩ : ∃ n p e, prs ((tx id).set I (lt D)) = (n, p, e) := ⟨_, _, _, rfl⟩
  obtain ⟨n2, p2, e2, t2⟩ : ∃ n p e, prs (((tx id).set I y).set K x) = (n, p, e) := ⟨_, _, _, rfl⟩
  exact slips_core id I K D x y i k letter n1 p1 e1 n2 p2 e2 _ _ w hT hid hI hK hD hx hy P1 P2 P3 t1 t2 (tells_of t1 (slip_one hid hD)) (tells_of t2 (slip_two hid hx hy)) rfl rfl
end Go.Proofs.YtnjcajcjdfhinabDoor
