/- The walk of FramePuts. -/
import Derived.Test.YtoeehajdmdmemaaDoorFk
namespace Go.Proofs.YtoeehajdmdmemaaDoor
open Go.RowKit
attribute [local go_sem ↓] Go.wp_at_zero Go.wp_at_succ

/-- What Put answers, of any frame. -/
def putL (f : Fr) : List Int := if f.b.length ≤ 32 then f.out else []
def putC (f : Fr) : Int := if f.b.length ≤ 32 then 0 else 3
theorem putL_size (f : Fr) : sizeF (f.b.length : Int) = ((putL f).length : Int) := by
  unfold sizeF putL
  split
  · rw [if_neg (by omega)]; rfl
  · rw [if_pos (by omega), f.out_length]; omega
/-- Bytes that are told: where they lie. -/
structure Told (w w' : World) (v : Value) (L : List Int) : Prop where
  is : ∃ ao cap, v = .slice ao L.length cap ∧ At w' ao L ∧ (∀ a, ao = some a → w.heap.size ≤ a.block ∧ a.block < w'.heap.size)
theorem Told.kept {w w' w'' : World} {v : Value} {L : List Int} {row : Option Nat} (h : Told w w' v L) (hg : w'.grownBy w'' row) (hr : ∀ k, row = some k → k < w.heap.size) : Told w w'' v L := by
  obtain ⟨ao, cap, hv, ha, hl⟩ := h.is
  exact ⟨ao, cap, hv, ha.kept hg (fun a ha e => by have := hr _ e.symm; have := (hl a ha).1; omega), fun a ha => ⟨(hl a ha).1, Nat.lt_of_lt_of_le (hl a ha).2 hg.size⟩⟩

theorem fput_both (f : Fr) (hf : f.Ok) (ao : Option Addr) (n cap : Nat) (w : World) (hn : f.b.length = n) (hat : At w ao f.b) (hc : n ≤ cap) (hcm : cap ≤ maxLen) (hm : n ≤ 140737488355328) (hT : Tab w) :
    Calls Tryd.prog 11 #[frV f.e f.s (.slice ao n cap)] w fun r w' => ∃ v, r = .returned (.tuple #[v, .int .i64 (putC f)]) ∧ Told w w' v (putL f) ∧ w.grownBy w' none := by
  by_cases h : f.b.length ≤ 32
  · refine (fput_any f hf h ao n cap w hn hat hc hcm hT (tab_lt hT)).mono ?_
    rintro r w' ⟨g, rfl, hg, hr, hgr⟩
    refine ⟨_, by unfold putC; rw [if_pos h], ⟨some ⟨g, 0, none⟩, 22 + n, ?_, ?_, ?_⟩, hgr⟩
    · unfold putL; rw [if_pos h, f.out_length, hn]
    · unfold putL; rw [if_pos h]; exact at_row hr
    · intro a ha; cases ha; exact ⟨hg, row_lt hr⟩
  · refine (put_long f.e f.s ao n cap w (by omega) (by omega)).mono ?_
    rintro r w' ⟨rfl, hgr⟩
    refine ⟨_, by unfold putC; rw [if_neg h], ⟨none, 0, ?_, ?_, ?_⟩, hgr⟩
    · unfold putL; rw [if_neg h]; rfl
    · unfold putL; rw [if_neg h]; exact At.nil _ _
    · intro a ha; cases ha
theorem rput_both (f : Fr) (hf : f.Ok) (ao : Option Addr) (n cap : Nat) (w : World) (hn : f.b.length = n) (hat : At w ao f.b) (hnil : ao = none → n = 0 ∧ cap = 0) (hm : n ≤ 140737488355328) :
    Calls Tryd.prog 12 #[frV f.e f.s (.slice ao n cap)] w fun r w' => ∃ v, r = .returned (.tuple #[v, .int .i64 (putC f)]) ∧ Told w w' v (putL f) ∧ w.grownBy w' none := by
  by_cases h : f.b.length ≤ 32
  · refine (rput_any f hf h ao n cap w hn hat hnil).mono ?_
    rintro r w' ⟨v, rfl, ho, hgr⟩
    obtain ⟨vo, vc, rfl, q1, q2, q3, q4, q5, q6⟩ := own_at ho
    refine ⟨_, by unfold putC; rw [if_pos h], ⟨vo, vc, ?_, ?_, ?_⟩, hgr⟩
    · unfold putL; rw [if_pos h, q1]
    · unfold putL; rw [if_pos h]; exact q4
    · intro a ha; exact ⟨(q6 a ha).1, (q6 a ha).2.1⟩
  · refine (rput_long f.e f.s ao n cap w (by omega) (by omega)).mono ?_
    rintro r w' ⟨rfl, hgr⟩
    refine ⟨_, by unfold putC; rw [if_neg h], ⟨none, 0, ?_, ?_, ?_⟩, hgr⟩
    · unfold putL; rw [if_neg h]; rfl
    · unfold putL; rw [if_neg h]; exact At.nil _ _
    · intro a ha; cases ha

/-- What was lent: the bytes and the marks, in the block g. -/
structure LentF (w : World) (g cap n : Nat) (xs : List Int) : Prop where
  len : xs.length = n
  fits : n + 12 ≤ cap
  most : cap ≤ maxLen
  all : At w (some ⟨g, 0, none⟩) (xs ++ marks 1 12)
  cur : ∃ cur, w.heap[g]? = some (.cells cur 5 (0, 0)) ∧ cur.size = cap
theorem LentF.grown {w w' : World} {g cap n : Nat} {xs : List Int} (h : LentF w g cap n xs) (hg : w.grownBy w' none) : LentF w' g cap n xs := by
  obtain ⟨cur, hc, hs⟩ := h.cur
  exact ⟨h.len, h.fits, h.most, h.all.kept hg (fun _ _ e => by cases e), cur, (hg.block _ (row_lt hc) (by simp)).trans hc, hs⟩
theorem LentF.lt {w : World} {g cap n : Nat} {xs : List Int} (h : LentF w g cap n xs) : g < w.heap.size := by obtain ⟨cur, hc, _⟩ := h.cur; exact row_lt hc
theorem LentF.at_ {w : World} {g cap n : Nat} {xs : List Int} (h : LentF w g cap n xs) : At w (some ⟨g, 0, none⟩) xs := by
  have := h.all.take n
  rwa [List.take_left' h.len] at this
theorem LentAt.f {w : World} {B : Nat} {v : Value} {xs : List Int} {n : Nat} (h : LentAt w B v xs) (hn : xs.length = n) : ∃ g cap, v = .slice (some ⟨g, 0, none⟩) n cap ∧ B ≤ g ∧ LentF w g cap n xs := by
  obtain ⟨g, cap, hv, h1, h2, h3, h4, h5, h6⟩ := h.all
  exact ⟨g, cap, by rw [hv, hn], h3, ⟨hn, by omega, h2, h5, h6⟩⟩

set_option maxHeartbeats 2000000 in
theorem puts_any (f : Fr) (hf : f.Ok) (ao : Option Addr) (n cap : Nat) (N : Int) (w : World) (hn : f.b.length = n) (hat : At w ao f.b) (hnil : ao = none → n = 0 ∧ cap = 0) (hm : n ≤ 140737488351232) (hN0 : -9223372036854775808 ≤ N) (hN1 : N ≤ 9223372036854775807) (hT : Tab w) :
    Calls Tryd.prog 3 #[frV f.e f.s (.slice ao n cap), .int .i64 N] w fun r w' => r = .returned (.bool true) ∧ w.grownBy w' none := by
  have HF := hide (And.intro hf (And.intro hn (And.intro hat (And.intro hnil hT))))
  have g1 := World.grownBy_alloc w (.cells #[.int .u64 f.e, .int .u64 f.s, .slice ao n cap] 25) none
  have BX := hide (heap_alloc_new w (.cells [Value.int .u64 f.e, .int .u64 f.s, .slice ao n cap].toArray 25))
  have G1 := hide g1
  unfold frV
  clear hf hn hat hnil hT g1
  go_enter Tryd.func3, Tryd.ntmps3
  go_wp2_with fail
  simp only [List.toArray] at BX
  generalize w.alloc (.cells #[.int .u64 f.e, .int .u64 f.s, .slice ao n cap] 25) = w1 at *
  refine (awake_any w1 (HF.out.2.2.2.2.grown G1.out)).mono ?_
  rintro r w2 ⟨rfl, hg⟩
  have G2 := hide (grown_trans G1.out hg)
  have BX2 := hide ((hg.block _ (row_lt BX.out) (by simp)).trans BX.out)
  clear hg G1 BX
  obtain ⟨c0, c1, c2⟩ := box_cells BX2.out
  go_wp2_with fail
  refine (lentFr f.e f.s ao n cap f.b w2 HF.out.2.1 (HF.out.2.2.1.kept G2.out (fun _ _ e => by cases e)) HF.out.2.2.2.1 (by omega)).mono ?_
  rintro r w3 ⟨v, rfl, hl, hg⟩
  obtain ⟨gv, vc, rfl, l3, hlf⟩ := hl.f HF.out.2.1
  unfold frV
  have ga := World.grownBy_alloc w3 (.cells #[.int .u64 f.e, .int .u64 f.s, .slice (some ⟨gv, 0, none⟩) n vc] 25) none
  have BY := hide (heap_alloc_new w3 (.cells [Value.int .u64 f.e, .int .u64 f.s, .slice (some ⟨gv, 0, none⟩) n vc].toArray 25))
  have hg' := grown_trans hg ga
  have G4 := hide (grown_trans G2.out hg')
  have BX4 := hide ((hg'.block _ (row_lt BX2.out) (by simp)).trans BX2.out)
  have HL := hide (hlf.grown ga)
  have HLs : Hid (w.heap.size ≤ gv ∧ gv < w3.heap.size) := ⟨by have := G2.out.size; omega, hlf.lt⟩
  clear hl hg ga hg' l3 hlf G2 BX2 c0 c1 c2
  simp only [List.toArray] at BY
  obtain ⟨C, hC⟩ : ∃ C, C = w3.heap.size := ⟨_, rfl⟩
  rw [← hC] at BY HLs
  go_wp2_with fail
  rw [← hC]
  clear hC
  generalize w3.alloc (.cells #[.int .u64 f.e, .int .u64 f.s, .slice (some ⟨gv, 0, none⟩) n vc] 25) = w4 at *
  refine (fput_both f HF.out.1 (some ⟨gv, 0, none⟩) n vc w4 HF.out.2.1 HL.out.at_ (by have := HL.out.fits; omega) HL.out.most (by omega) (HF.out.2.2.2.2.grown G4.out)).mono ?_
  rintro r w5 ⟨v, rfl, ht, hg⟩
  obtain ⟨bo, bc, rfl, _⟩ := ht.is
  have G5 := hide (grown_trans G4.out hg)
  have BX5 := hide ((hg.block _ (row_lt BX4.out) (by simp)).trans BX4.out)
  have BY5 := hide ((hg.block _ (row_lt BY.out) (by simp)).trans BY.out)
  have HL5 := hide (HL.out.grown hg)
  have HT5 := hide ht
  have HLs4 : Hid (gv < w4.heap.size) := HL.out.lt
  clear ht hg G4 BX4 BY HL
  obtain ⟨c0, c1, c2⟩ := box_cells BX5.out
  go_wp2_with fail
  refine (rput_both f HF.out.1 ao n cap w5 HF.out.2.1 (HF.out.2.2.1.kept G5.out (fun _ _ e => by cases e)) HF.out.2.2.2.1 (by omega)).mono ?_
  rintro r w6 ⟨v, rfl, ht, hg⟩
  obtain ⟨ro, rc, rfl, _⟩ := ht.is
  have G6 := hide (grown_trans G5.out hg)
  have BX6 := hide ((hg.block _ (row_lt BX5.out) (by simp)).trans BX5.out)
  have BY6 := hide ((hg.block _ (row_lt BY5.out) (by simp)).trans BY5.out)
  have HL6 := hide (HL5.out.grown hg)
  have HT6 := hide (HT5.out.kept hg (fun _ e => by cases e))
  have HR6 := hide ht
  have HLs5 : Hid (gv < w5.heap.size) := HL5.out.lt
  clear ht hg G5 BX5 BY5 HL5 HT5 c0 c1 c2
  obtain ⟨c0, c1, c2⟩ := box_cells BX6.out
  obtain ⟨d0, d1, d2⟩ := box_cells BY6.out
  go_wp2_with fail
  refine (keptFr f.e f.s gv vc ao n cap f.b w6 HF.out.2.1 HL6.out.fits HL6.out.most HL6.out.all (HF.out.2.2.1.kept G6.out (fun _ _ e => by cases e)) (by omega)).mono ?_
  rintro r w7 ⟨rfl, hg⟩
  have G7 := hide (grown_trans G6.out hg)
  have BX7 := hide ((hg.block _ (row_lt BX6.out) (by simp)).trans BX6.out)
  have BY7 := hide ((hg.block _ (row_lt BY6.out) (by simp)).trans BY6.out)
  have HL7 := hide (HL6.out.grown hg)
  have HT7 := hide (HT6.out.kept hg (fun _ e => by cases e))
  have HR7 := hide (HR6.out.kept hg (fun _ e => by cases e))
  clear hg G6 BX6 BY6 HL6 HT6 HR6 c0 c1 c2 d0 d1 d2
  obtain ⟨d0, d1, d2⟩ := box_cells BY7.out
  go_wp2_with fail
  refine (overFr f.e f.s gv vc n w7 HL7.out.cur HL7.out.fits HL7.out.most (by omega)).mono ?_
  rintro r w8 ⟨rfl, hg⟩
  have G8 := hide (grown_then G7.out hg (fun j e => by cases e; exact Or.inl HLs.out.1))
  obtain ⟨cur, hcur, _⟩ := HL7.out.cur
  have hBne : gv ≠ w.heap.size := by
    intro e
    rw [e, BX7.out] at hcur
    cases hcur
  have BX8 := hide ((hg.block _ (row_lt BX7.out) (by simp; omega)).trans BX7.out)
  have HT8 := hide (HT7.out.kept hg (fun k e => by cases e; exact HLs4.out))
  have HR8 := hide (HR7.out.kept hg (fun k e => by cases e; exact HLs5.out))
  clear hg G7 BX7 BY7 HL7 HT7 HR7 d0 d1 d2 hcur hBne
  obtain ⟨c0, c1, c2⟩ := box_cells BX8.out
  have hPL := hide (putL_size f)
  rw [HF.out.2.1] at hPL
  have hPLm : (putL f).length ≤ 54 := by
    have := hPL.out
    unfold sizeF at this
    split at this <;> omega
  go_wp2_with fail
  obtain ⟨bo', bc', hv1, ha1, _⟩ := HT8.out.is
  obtain ⟨ro', rc', hv2, ha2, _⟩ := HR8.out.is
  cases hv1
  cases hv2
  refine (same_eq bo ro _ bc rc (putL f) w8 rfl ha1 ha2 (by omega)).mono ?_
  rintro r w9 ⟨rfl, hg⟩
  have G9 := hide (grown_trans G8.out hg)
  have BX9 := hide ((hg.block _ (row_lt BX8.out) (by simp)).trans BX8.out)
  clear hg G8 BX8 c0 c1 c2 ha1 ha2 HT8 HR8
  go_wp2_with fail
  refine (size_any N w9 hN0 hN1).mono ?_
  rintro r w10 ⟨rfl, hg⟩
  have G10 := hide (grown_trans G9.out hg)
  have BX10 := hide ((hg.block _ (row_lt BX9.out) (by simp)).trans BX9.out)
  clear hg G9 BX9
  go_wp2_with fail
  refine (rsize_any N w10 hN0 hN1).mono ?_
  rintro r w11 ⟨rfl, rfl⟩
  obtain ⟨c0, c1, c2⟩ := box_cells BX10.out
  go_wp2_with fail
  refine (size_any (n : Int) w11 (by omega) (by omega)).mono ?_
  rw [hPL.out]
  rintro r w12 ⟨rfl, hg⟩
  have G12 := hide (grown_trans G10.out hg)
  clear hg G10 BX10 c0 c1 c2
  go_wp2
  go_ret
  exact ⟨rfl, G12.out⟩
end Go.Proofs.YtoeehajdmdmemaaDoor
