/- The walk of FrameGets. -/
import Derived.Test.YtoeehajdmdmemaaDoorPu
namespace Go.Proofs.YtoeehajdmdmemaaDoor
open Go.RowKit
attribute [local go_sem ↓] Go.wp_at_zero Go.wp_at_succ

/-- What Get answers has a short body. -/
theorem getF_short {xs : List Int} (hB : Byt xs) : (getF xs).f.b.length ≤ 32 := by
  by_cases h : (getF xs).c = 0
  · exact (getF_ok hB h).2.1
  · rw [(getF_err h).1]; simp [noFr]
/-- A row of bytes of its own, as told bytes. -/
theorem own_told {w w' : World} {base : Nat} {v : Value} {xs : List Int} {n : Nat} (h : w'.ownsRow base 5 1 v n (xs.map (Value.int .u8))) (hb : w.heap.size ≤ base) (hn : xs.length = n) : Told w w' v xs := by
  obtain ⟨vo, vc, rfl, q1, q2, q3, q4, q5, q6⟩ := own_at h
  exact ⟨vo, vc, by rw [hn], q4, fun a ha => ⟨Nat.le_trans hb (q6 a ha).1, (q6 a ha).2.1⟩⟩

set_option maxHeartbeats 2000000 in
theorem gets_any (xs : List Int) (ao : Option Addr) (n cap : Nat) (w : World) (h : Src w ao n cap xs) (hm : n ≤ 140737488351232) :
    Calls Tryd.prog 4 #[.slice ao n cap] w fun r w' => r = .returned (.bool true) ∧ w.grownBy w' none := by
  have H := hide h
  clear h
  go_enter Tryd.func4, Tryd.ntmps4
  go_wp2_with fail
  refine (awake_any w H.out.tab).mono ?_
  rintro r w2 ⟨rfl, hg⟩
  have G2 := hide hg
  clear hg
  go_wp2_with fail
  refine (lent_any ao n cap xs w2 H.out.len (H.out.grown G2.out).lies H.out.nil (by omega)).mono ?_
  rintro r w3 ⟨v, rfl, hl, hg⟩
  obtain ⟨gv, vc, rfl, l3, hlf⟩ := hl.f H.out.len
  have G3 := hide (grown_trans G2.out hg)
  have HL3 := hide hlf
  have HLs : Hid (w.heap.size ≤ gv) := by have := G2.out.size; show _ ≤ _; omega
  clear hl hg l3 hlf G2
  go_wp2_with fail
  refine (fget_any xs H.out.byt (some ⟨gv, 0, none⟩) n vc w3 H.out.len HL3.out.at_ (fun e => by cases e) (by have := HL3.out.fits; omega) (by omega) (H.out.tab.grown G3.out)).mono ?_
  rintro r w4 ⟨v, rfl, hv, hg⟩
  have hT := own_told (w := w3) hv (Nat.le_refl _) rfl
  have hsh := getF_short H.out.byt
  obtain ⟨vo, vc', rfl, _⟩ := hT.is
  obtain ⟨G, hG⟩ : ∃ G, G = getF xs := ⟨_, rfl⟩
  rw [← hG] at hT hsh ⊢
  have ga := World.grownBy_alloc w4 (.cells #[.int .u64 G.f.e, .int .u64 G.f.s, .slice vo G.f.b.length vc'] 25) none
  have BX := hide (heap_alloc_new w4 (.cells [Value.int .u64 G.f.e, .int .u64 G.f.s, .slice vo G.f.b.length vc'].toArray 25))
  have hg' := grown_trans hg ga
  have G5 := hide (grown_trans G3.out hg')
  have HL5 := hide (HL3.out.grown hg')
  have HT5 := hide (hT.kept ga (fun _ e => by cases e))
  have HLs3 : Hid (gv < w3.heap.size) := HL3.out.lt
  have HGd := hide hG
  clear hv hg ga hg' G3 HL3 hT hG
  simp only [List.toArray] at BX
  unfold frV
  go_wp2_with fail
  obtain ⟨B, hB⟩ : ∃ B, B = w4.heap.size := ⟨_, rfl⟩
  rw [← hB] at BX ⊢
  clear hB
  generalize w4.alloc (.cells #[.int .u64 G.f.e, .int .u64 G.f.s, .slice vo G.f.b.length vc'] 25) = w5 at *
  refine (rget_any xs H.out.byt ao n cap w5 H.out.len (H.out.grown G5.out).lies H.out.nil H.out.fits (by omega)).mono ?_
  rintro r w6 ⟨v, rfl, hv, hg⟩
  have hT := own_told (w := w5) hv (Nat.le_refl _) rfl
  rw [← HGd.out] at hT ⊢
  obtain ⟨uo, uc, hu, _⟩ := hT.is
  subst hu
  have ga := World.grownBy_alloc w6 (.cells #[.int .u64 G.f.e, .int .u64 G.f.s, .slice uo G.f.b.length uc] 25) none
  have BY := hide (heap_alloc_new w6 (.cells [Value.int .u64 G.f.e, .int .u64 G.f.s, .slice uo G.f.b.length uc].toArray 25))
  have hg' := grown_trans hg ga
  have G7 := hide (grown_trans G5.out hg')
  have HL7 := hide (HL5.out.grown hg')
  have HT7 := hide (HT5.out.kept hg' (fun _ e => by cases e))
  have HU7 := hide (hT.kept ga (fun _ e => by cases e))
  have BX7 := hide ((hg'.block _ (row_lt BX.out) (by simp)).trans BX.out)
  have HLs5 : Hid (gv < w5.heap.size) := HL5.out.lt
  clear hv hg ga hg' G5 HL5 HT5 hT BX
  simp only [List.toArray] at BY
  unfold frV
  go_wp2_with fail
  obtain ⟨C, hC⟩ : ∃ C, C = w6.heap.size := ⟨_, rfl⟩
  rw [← hC] at BY ⊢
  clear hC
  generalize w6.alloc (.cells #[.int .u64 G.f.e, .int .u64 G.f.s, .slice uo G.f.b.length uc] 25) = w7 at *
  refine (kept_any gv vc ao n cap xs w7 H.out.len HL7.out.fits HL7.out.most HL7.out.all (H.out.grown G7.out).lies (by omega)).mono ?_
  rintro r w8 ⟨rfl, hg⟩
  have G8 := hide (grown_trans G7.out hg)
  have HL8 := hide (HL7.out.grown hg)
  have HT8 := hide (HT7.out.kept hg (fun _ e => by cases e))
  have HU8 := hide (HU7.out.kept hg (fun _ e => by cases e))
  have BX8 := hide ((hg.block _ (row_lt BX7.out) (by simp)).trans BX7.out)
  have BY8 := hide ((hg.block _ (row_lt BY.out) (by simp)).trans BY.out)
  clear hg G7 HL7 HT7 HU7 BX7 BY
  go_wp2_with fail
  refine (over_any gv vc n w8 HL8.out.cur HL8.out.fits HL8.out.most (by omega)).mono ?_
  rintro r w9 ⟨rfl, hg⟩
  obtain ⟨cur, hcur, _⟩ := HL8.out.cur
  have hBne : gv ≠ B := by intro e; rw [e, BX8.out] at hcur; cases hcur
  have hCne : gv ≠ C := by intro e; rw [e, BY8.out] at hcur; cases hcur
  have G9 := hide (grown_then G8.out hg (fun j e => by cases e; exact Or.inl HLs.out))
  have HT9 := hide (HT8.out.kept hg (fun k e => by cases e; exact HLs3.out))
  have HU9 := hide (HU8.out.kept hg (fun k e => by cases e; exact HLs5.out))
  have BX9 := hide ((hg.block _ (row_lt BX8.out) (by simp; omega)).trans BX8.out)
  have BY9 := hide ((hg.block _ (row_lt BY8.out) (by simp; omega)).trans BY8.out)
  clear hg G8 HL8 HT8 HU8 BX8 BY8 hcur hBne hCne
  obtain ⟨c0, c1, c2⟩ := box_cells BX9.out
  obtain ⟨d0, d1, d2⟩ := box_cells BY9.out
  go_wp2_with fail
  obtain ⟨bo', bc', hv1, ha1, _⟩ := HT9.out.is
  obtain ⟨ro', rc', hv2, ha2, _⟩ := HU9.out.is
  cases hv1
  cases hv2
  refine (sameFr G.f.e G.f.s vo uo _ vc' uc G.f.b w9 rfl ha1 ha2 (by omega)).mono ?_
  rintro r w10 ⟨rfl, hg⟩
  have G10 := hide (grown_trans G9.out hg)
  clear hg G9 c0 c1 c2 d0 d1 d2 ha1 ha2
  go_wp2
  go_ret
  exact ⟨rfl, G10.out⟩
end Go.Proofs.YtoeehajdmdmemaaDoor
