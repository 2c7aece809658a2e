/- DiskCopies answers true. -/
import Derived.Test.YtgcfjphjekkkmaaSep
import Derived.Test.YtgcfjphjekkkmaaKApart2
namespace Go.Proofs.Ytgcfjphjekkkmaa
open Go.RowKit Ap
attribute [local go_sem ↓] Go.wp_at_zero Go.wp_at_succ

/-- ApartBytes of three rows. -/
theorem apart3 (x y a : Nat) (X Y Z : List Nat) (w : World) (hx : w.heap[x]? = some (.cells (bv X).toArray 5 (0, 0))) (hy : w.heap[y]? = some (.cells (bv Y).toArray 5 (0, 0))) (ha : w.heap[a]? = some (.cells (bv Z).toArray 5 (0, 0))) (lx : X.length = 64) (ly : Y.length = 64) (la : Z.length = 64) (xy : x ≠ y) (xa : x ≠ a) (ya : y ≠ a) :
    Calls Try.prog 36 #[.slice (some ⟨w.heap.size, 0, none⟩) 3 3] (w.alloc (.cells #[.slice (some ⟨x, 0, none⟩) 64 64, .slice (some ⟨y, 0, none⟩) 64 64, .slice (some ⟨a, 0, none⟩) 64 64] 46)) fun e w' => e = .returned (.bool true) ∧ Kept w w' (fun i => i = x ∨ i = y ∨ i = a) := by
  have ox : w.ownsRow 0 5 1 (.slice (some ⟨x, 0, none⟩) 64 64) 64 (bv X) := own_of_row hx (by rw [bv_length, lx]) (Nat.zero_le _) (by unfold maxLen; omega)
  have oy : w.ownsRow 0 5 1 (.slice (some ⟨y, 0, none⟩) 64 64) 64 (bv Y) := own_of_row hy (by rw [bv_length, ly]) (Nat.zero_le _) (by unfold maxLen; omega)
  have oa : w.ownsRow 0 5 1 (.slice (some ⟨a, 0, none⟩) 64 64) 64 (bv Z) := own_of_row ha (by rw [bv_length, la]) (Nat.zero_le _) (by unfold maxLen; omega)
  have hR : Rw w 0 [.slice (some ⟨x, 0, none⟩) 64 64, .slice (some ⟨y, 0, none⟩) 64 64, .slice (some ⟨a, 0, none⟩) 64 64] :=
    Rw.cons ox (by decide) (fun u hu => by simp at hu; rcases hu with rfl | rfl <;> right <;> simp [Value.ownBlock, xy, xa])
      (Rw.cons oy (by decide) (fun u hu => by simp at hu; subst hu; right; simp [Value.ownBlock, ya]) (Rw.cons oa (by decide) (fun u hu => by cases hu) (Rw.nil _ _)))
  refine (apartBytes_rows 0 _ w hR (Nat.zero_le _) (by simp) (by simp)).mono ?_
  rintro e w' ⟨rfl, hg⟩
  refine ⟨rfl, ⟨hg.os, hg.tape, hg.output, hg.size, fun i hi hn => hg.block i hi ?_⟩⟩
  rintro ⟨j, hj, e⟩
  have hj : j < 3 := hj
  have : j = 0 ∨ j = 1 ∨ j = 2 := by omega
  rcases this with rfl | rfl | rfl
  · exact hn (.inl (by simpa [Value.ownBlock] using e.symm))
  · exact hn (.inr (.inl (by simpa [Value.ownBlock] using e.symm)))
  · exact hn (.inr (.inr (by simpa [Value.ownBlock] using e.symm)))
/-- The rows of an image from the j-th on. -/
structure From (w : World) (lo hi g : Nat) (R : List (List Nat)) (hs : List Nat) (j : Nat) : Prop where
  row : w.heap[g]? = some (.cells (slv 64 hs).toArray 46 (0, 0))
  len : hs.length = R.length
  rows : ∀ (i h : Nat) (xs : List Nat), j ≤ i → hs[i]? = some h → R[i]? = some xs → w.heap[h]? = some (.cells (bv xs).toArray 5 (0, 0)) ∧ xs.length = 64
  rng : ∀ (i h : Nat), hs[i]? = some h → lo ≤ h ∧ h < hi
  inj : ∀ (i i' h : Nat), hs[i]? = some h → hs[i']? = some h → i = i'
theorem ImgAt.from {w : World} {lo g : Nat} {R : List (List Nat)} {hs : List Nat} (h : ImgAt w lo g 64 R hs) : From w lo w.heap.size g R hs 0 := by
  refine ⟨h.row, h.len, fun i a xs _ h1 h2 => ⟨(h.rows i a xs h1 h2).1, (h.rows i a xs h1 h2).2.1⟩, ?_, ?_⟩
  · intro i a h1
    have hl : i < R.length := by rw [← h.len]; exact (List.getElem?_eq_some_iff.1 h1).1
    obtain ⟨r1, _, r3⟩ := h.rows i a R[i] h1 (List.getElem?_eq_getElem hl)
    exact ⟨r3, row_lt r1⟩
  · intro i i' a h1 h2
    rcases Nat.lt_trichotomy i i' with h3 | h3 | h3
    · exact absurd (h.up i i' a a h1 h2 h3) (Nat.lt_irrefl _)
    · exact h3
    · exact absurd (h.up i' i a a h2 h1 h3) (Nat.lt_irrefl _)
theorem From.grown {w w' : World} {lo hi g j : Nat} {R : List (List Nat)} {hs : List Nat} (h : From w lo hi g R hs j) (hg : w.grownBy w' none) : From w' lo hi g R hs j :=
  ⟨(hg.block _ (row_lt h.row) (by simp)).trans h.row, h.len, fun i a xs h0 h1 h2 => by obtain ⟨r1, r2⟩ := h.rows i a xs h0 h1 h2; exact ⟨(hg.block _ (row_lt r1) (by simp)).trans r1, r2⟩, h.rng, h.inj⟩
theorem From.off {w w' : World} {lo hi g j : Nat} {R : List (List Nat)} {hs : List Nat} {S : Nat → Prop} (h : From w lo hi g R hs j) (hk : Kept w w' S) (hg : ¬ S g) (hr : ∀ (i a : Nat), j + 1 ≤ i → hs[i]? = some a → ¬ S a) : From w' lo hi g R hs (j + 1) :=
  ⟨hk.at h.row hg, h.len, fun i a xs h0 h1 h2 => by obtain ⟨r1, r2⟩ := h.rows i a xs (by omega) h1 h2; exact ⟨hk.at r1 (hr i a h0 h1), r2⟩, h.rng, h.inj⟩
set_option maxRecDepth 20000 in
set_option maxHeartbeats 8000000 in
theorem copies_any (ao bo : Option Addr) (m cap m2 cap2 : Nat) (os qs : List OpD) (w : World) (hm : os.length = m) (hm2 : m ≤ 140737488355328) (ho : OpsAt w ao os) (hq : qs.length = m2) (hq2 : m2 ≤ 140737488355328) (hqs : OpsAt w bo qs) :
    Calls Try.prog 8 #[.slice ao m cap, .slice bo m2 cap2] w fun e w' => e = .returned (.bool true) ∧ w.grownBy w' none := by
  have H0 := hide (And.intro hm (And.intro ho (And.intro hq hqs)))
  clear hm ho hq hqs
  go_enter Try.func8, Try.ntmps8
  go_wp2_with fail
  refine (awake_any _).mono ?_
  rintro e w1 ⟨rfl, g1⟩
  have H1 := hide g1
  clear g1
  go_wp2_with fail
  refine (newS 4 64 w w1 H1.out may_4_64).mono ?_
  rintro e w2 ⟨k, rfl, d2, -, -⟩
  have D2 := hide d2
  clear d2 H1
  obtain ⟨d, hd⟩ : ∃ d, d = k.d := ⟨_, rfl⟩
  rw [← hd]
  have HD := hide hd.symm
  clear hd
  go_wp2_with fail
  refine (does_any HD.out D2.out (by simp) ao m cap os H0.out.1 hm2 H0.out.2.1).mono ?_
  rintro e w3 ⟨rfl, k3, D3, W3, d3, m3, e3, l3⟩
  have DD3 := hide (And.intro (m3.d.trans HD.out) (And.intro d3 l3))
  clear d3 m3 e3 l3 D2
  go_upto_if 30 with fail
  go_cut [33, 34] (fun s33 s34 wx => ∃ kA DA WA, Hid (kA.d = d ∧ DkS w wx kA 4 64 DA WA ∧ WA.length ≤ 300))
  case first =>
    by_cases hmz : 0 < m
    · go_wp2_with fail
      refine (fill_any (m : Int) 64 (by omega) _).mono ?_
      rintro e w4 ⟨rfl, a4, g4⟩
      have A4 := hide (And.intro a4 g4)
      clear a4 g4
      go_wp2_with fail
      refine (writeS DD3.out.1 (DD3.out.2.1.then A4.out.2) (by have := DD3.out.2.2; simp at this; omega) 1 (by omega) (some ⟨_, 0, none⟩) 64 (fills (m : Int) 64) (at_row A4.out.1) (fills_length _ _)).mono ?_
      rintro e w5 ⟨rfl, k5, e5, -, d5, -⟩
      have A5 := hide (And.intro e5 d5)
      clear e5 d5
      go_wp2_with fail
      go_meet
      case rel => exact ⟨k5, D3, _, hide ⟨A5.out.1, A5.out.2, by have := DD3.out.2.2; simp at this ⊢; omega⟩⟩
    · have hmz : m = 0 := by omega
      subst hmz
      go_wp2_with fail
      go_meet
      case rel => exact ⟨k3, D3, W3, hide ⟨DD3.out.1, DD3.out.2.1, by have := DD3.out.2.2; simp at this; omega⟩⟩
  case rest =>
    obtain ⟨kA, DA, WA, HA⟩ := hcut
    clear DD3 HD
    generalize wc = u0 at *
    go_wp2_with fail
    refine (copyS HA.out.1 HA.out.2.1).mono ?_
    rintro e u1 ⟨kc, rfl, c1, s1, g1⟩
    obtain ⟨dc, hdc⟩ : ∃ dc, dc = kc.d := ⟨_, rfl⟩
    rw [← hdc]
    have S1 := hide (And.intro (HA.out.2.1.then g1) (And.intro c1 (And.intro s1 hdc.symm)))
    clear c1 s1 g1 hdc
    go_wp2_with fail
    refine (imageS HA.out.1 S1.out.1).mono ?_
    rintro e u2 ⟨hw, rfl, i2, g2⟩
    have S2 := hide (And.intro (S1.out.1.then g2) (And.intro (S1.out.2.1.then g2) (And.intro i2 (And.intro (S1.out.1.disk.lt kA.db (.inl (.inr (.inl rfl)))) (S1.out.2.1.disk.lt kc.db (.inl (.inr (.inl rfl))))))))
    clear i2 g2
    generalize u1.heap.size = gw at *
    go_wp2_with fail
    refine (waitingS HA.out.1 S2.out.1).mono ?_
    rintro e u3 ⟨rfl, rfl⟩
    go_wp2_with fail
    refine (waitingS S1.out.2.2.2 S2.out.2.1).mono ?_
    rintro e u4 ⟨rfl, rfl⟩
    go_wp2_with fail
    refine (imageS S1.out.2.2.2 S2.out.2.1).mono ?_
    rintro e u5 ⟨hc5, rfl, i5, g5⟩
    have S5 := hide (And.intro (S2.out.1.then g5) (And.intro (S2.out.2.1.then g5) (And.intro (S2.out.2.2.1.grown g5) i5)))
    clear i5 g5
    generalize u4.heap.size = gc5 at *
    go_wp2_with fail
    refine (sameRows_eq (some ⟨gc5, 0, none⟩) (some ⟨gw, 0, none⟩) 4 4 4 (secs 4 64 DA) u5 (secs_length _ _ _) (S5.out.2.2.2.rowsAt (by omega)) (S5.out.2.2.1.rowsAt (by omega)) (by omega)).mono ?_
    rintro e u6 ⟨rfl, q6, rfl⟩
    go_wp2_with fail
    refine (does_any S1.out.2.2.2 (S5.out.2.1.then (grown_drewN _ q6 _)) (by have := HA.out.2.2; omega) bo m2 cap2 qs H0.out.2.2.1 hq2 H0.out.2.2.2).mono ?_
    rintro e u7 ⟨rfl, kc7, DC, WC, c7, m7, e7, l7⟩
    have m7' : Moved u5 u7 kc kc7 WA WC := Moved.pre (grown_drewN _ q6 _) m7
    have s7 := S1.out.2.2.1.moved S5.out.1.disk m7'
    have S7 := hide (And.intro (S5.out.1.other S1.out.2.2.1 m7' c7.grown) (And.intro c7 (And.intro s7 (And.intro (m7.d.trans S1.out.2.2.2) (And.intro (S5.out.2.2.1.moved S5.out.2.1.disk m7' S2.out.2.2.2.2) (And.intro e7 m7.db))))))
    clear c7 m7 m7' s7 e7 l7
    go_wp2_with fail
    refine (imageS S7.out.2.2.2.1 S7.out.2.1).mono ?_
    rintro e u8 ⟨ht, rfl, i8, g8⟩
    have S8 := hide (And.intro (S7.out.1.then g8) (And.intro (S7.out.2.1.then g8) (And.intro (S7.out.2.2.2.2.1.grown g8) (And.intro i8 (And.intro (S7.out.1.disk.lt kA.db (.inl (.inr (.inl rfl)))) (S7.out.2.1.disk.lt kc7.db (.inl (.inr (.inl rfl)))))))))
    clear i8 g8
    generalize u7.heap.size = gt at *
    go_wp2_with fail
    refine (waitingS S7.out.2.2.2.1 S8.out.2.1).mono ?_
    rintro e u9 ⟨rfl, rfl⟩
    go_wp2_with fail
    refine (waitingS HA.out.1 S8.out.1).mono ?_
    rintro e u10 ⟨rfl, rfl⟩
    go_wp2_with fail
    refine (imageS HA.out.1 S8.out.1).mono ?_
    rintro e u11 ⟨hd11, rfl, i11, g11⟩
    have S11 := hide (And.intro (S8.out.1.then g11) (And.intro (S8.out.2.1.then g11) (And.intro (S8.out.2.2.1.grown g11) (And.intro (S8.out.2.2.2.1.grown g11) i11))))
    clear i11 g11
    generalize u10.heap.size = gd11 at *
    go_wp2_with fail
    refine (sameRows_eq (some ⟨gd11, 0, none⟩) (some ⟨gw, 0, none⟩) 4 4 4 (secs 4 64 DA) u11 (secs_length _ _ _) (S11.out.2.2.2.2.rowsAt (by omega)) (S11.out.2.2.1.rowsAt (by omega)) (by omega)).mono ?_
    rintro e u12 ⟨rfl, q12, rfl⟩
    go_wp2_with fail
    refine (does_any HA.out.1 (S11.out.1.then (grown_drewN _ q12 _)) (by have := HA.out.2.2; omega) bo m2 cap2 qs H0.out.2.2.1 hq2 H0.out.2.2.2).mono ?_
    rintro e u13 ⟨rfl, kA13, DD, WD, c13, m13, e13, l13⟩
    have m13' : Moved u11 u13 kA kA13 WA WD := Moved.pre (grown_drewN _ q12 _) m13
    have heq := e13.trans S7.out.2.2.2.2.2.1.symm
    obtain ⟨hDD, hWW⟩ := Prod.mk.inj heq
    subst hDD
    have hlen : WD.length = WC.length := by rw [← abs_length, hWW, abs_length]
    have s13 := S7.out.2.2.1.symm.moved S11.out.2.1.disk m13'
    have S13 := hide (And.intro c13 (And.intro (S11.out.2.1.other S7.out.2.2.1.symm m13' c13.grown) (And.intro (m13.d.trans HA.out.1) (And.intro (S11.out.2.2.2.1.moved S11.out.1.disk m13' S8.out.2.2.2.2.1) (And.intro hWW hlen)))))
    clear c13 m13 m13' s13 e13 l13 heq hWW hlen
    go_wp2_with fail
    obtain ⟨X, hX⟩ : ∃ X, X = found 64 DD WC 1 := ⟨_, rfl⟩
    have hXD : found 64 DD WD 1 = X := by rw [hX]; exact found_abs S13.out.2.2.2.2.1
    have hXl : X.length = 64 := by
      rw [hX]
      unfold found
      cases hl : lastOf WC 1 with
      | none => exact secOf_length S13.out.2.1.disk.len (by omega)
      | some x => exact (S13.out.2.1.disk.waits x (lastOf_mem hl).1).2.1
    have HXX := hide (And.intro hX (And.intro hXD hXl))
    clear hX hXD hXl
    have HRd : Hid (∀ wx, DkS w wx kA13 4 64 DD WD → Calls Try.prog 32 #[.pointer (some ⟨d, 0, none⟩), .int .i64 1] wx fun e w' => e = .returned (.tuple #[.slice (some ⟨wx.heap.size, 0, none⟩) 64 64, .int .i64 0]) ∧ w'.heap[wx.heap.size]? = some (.cells (bv X).toArray 5 (0, 0)) ∧ wx.grownBy w' none) := fun wx hx => by
      have := readS S13.out.2.2.1 hx 1 (by omega); rw [HXX.out.2.1] at this; exact this
    refine (HRd.out _ S13.out.1).mono ?_
    rintro e u14 ⟨rfl, a14, g14⟩
    have S14 := hide (And.intro (S13.out.1.then g14) (And.intro (S13.out.2.1.then g14) (And.intro (S13.out.2.2.2.1.grown g14) a14)))
    have LA := hide (fun i (hi : foot kA13 WD i) => S13.out.1.disk.lt i hi)
    have LG := hide (And.intro (row_lt S13.out.2.2.2.1.row) S13.out.2.2.2.1.from.rng)
    clear a14 g14
    generalize u13.heap.size = ga0 at *
    go_wp2_with fail
    refine (readS S7.out.2.2.2.1 S14.out.2.1 1 (by omega)).mono ?_
    rintro e u15 ⟨rfl, a15, g15⟩
    rw [← HXX.out.1] at a15
    have LBo := hide (row_lt S14.out.2.2.2)
    have S15 := hide (And.intro (S14.out.1.then g15) (And.intro (S14.out.2.1.then g15) (And.intro (S14.out.2.2.1.grown g15) (And.intro ((g15.block _ (row_lt S14.out.2.2.2) (by simp)).trans S14.out.2.2.2) a15))))
    clear a15 g15
    generalize u14.heap.size = gb at *
    have HWt := hide (waitingS S13.out.2.2.1 S15.out.1)
    rw [S13.out.2.2.2.2.2] at HWt
    go_wp2_with fail
    refine HWt.out.mono ?_
    rintro e u16 ⟨rfl, rfl⟩
    go_wp2_with fail
    refine (imageS S13.out.2.2.1 S15.out.1).mono ?_
    rintro e u17 ⟨hd17, rfl, i17, g17⟩
    have S17 := hide (And.intro (S15.out.1.then g17) (And.intro (S15.out.2.1.then g17) (And.intro (S15.out.2.2.1.grown g17) (And.intro ((g17.block _ (row_lt S15.out.2.2.2.1) (by simp)).trans S15.out.2.2.2.1) (And.intro ((g17.block _ (row_lt S15.out.2.2.2.2) (by simp)).trans S15.out.2.2.2.2) i17)))))
    clear i17 g17 HWt
    generalize u16.heap.size = gd17 at *
    go_wp2_with fail
    refine (sameRows_eq (some ⟨gd17, 0, none⟩) (some ⟨gt, 0, none⟩) 4 4 4 (secs 4 64 DD) u17 (secs_length _ _ _) (S17.out.2.2.2.2.2.rowsAt (by omega)) (S17.out.2.2.1.rowsAt (by omega)) (by omega)).mono ?_
    rintro e u18 ⟨rfl, q18, rfl⟩
    go_wp2_with fail
    refine (imageS S7.out.2.2.2.1 (S17.out.2.1.then (grown_drewN _ q18 _))).mono ?_
    rintro e u19 ⟨hd19, rfl, i19, g19'⟩
    have g19 := grown_trans (grown_drewN u17 q18 none) g19'
    have S19 := hide (And.intro (S17.out.1.then g19) (And.intro (S17.out.2.1.then g19) (And.intro (S17.out.2.2.1.grown g19) (And.intro ((g19.block _ (row_lt S17.out.2.2.2.1) (by simp)).trans S17.out.2.2.2.1) (And.intro ((g19.block _ (row_lt S17.out.2.2.2.2.1) (by simp)).trans S17.out.2.2.2.2.1) i19)))))
    clear i19 g19 g19'
    generalize (u17.drewN q18).heap.size = gd19 at *
    go_wp2_with fail
    refine (sameRows_eq (some ⟨gd19, 0, none⟩) (some ⟨gt, 0, none⟩) 4 4 4 (secs 4 64 DD) u19 (secs_length _ _ _) (S19.out.2.2.2.2.2.rowsAt (by omega)) (S19.out.2.2.1.rowsAt (by omega)) (by omega)).mono ?_
    rintro e u20 ⟨rfl, q20, rfl⟩
    go_wp2_with fail
    refine (sameBytes_eq (some ⟨ga0, 0, none⟩) (some ⟨gb, 0, none⟩) 64 64 64 X (u19.drewN q20) HXX.out.2.2 (at_row (w := u19.drewN q20) S19.out.2.2.2.1) (at_row (w := u19.drewN q20) S19.out.2.2.2.2.1) (by omega)).mono ?_
    rintro e u21 ⟨rfl, q21, rfl⟩
    have g21 : u19.grownBy ((u19.drewN q20).drewN q21) none := grown_trans (grown_drewN _ _ _) (grown_drewN _ _ _)
    have S21 := hide (And.intro (S19.out.1.then g21) (And.intro (S19.out.2.2.1.grown g21) (And.intro ((g21.block _ (row_lt S19.out.2.2.2.1) (by simp)).trans S19.out.2.2.2.1) ((g21.block _ (row_lt S19.out.2.2.2.2.1) (by simp)).trans S19.out.2.2.2.2.1))))
    clear g21
    generalize (u19.drewN q20).drewN q21 = v0 at *
    go_wp2_with fail
    refine (imageS S13.out.2.2.1 S21.out.1).mono ?_
    rintro e v1 ⟨hx, rfl, i1, g1⟩
    have T1 := hide (And.intro (S21.out.1.then g1) (And.intro (S21.out.2.1.grown g1) (And.intro ((g1.block _ (row_lt S21.out.2.2.1) (by simp)).trans S21.out.2.2.1) (And.intro ((g1.block _ (row_lt S21.out.2.2.2) (by simp)).trans S21.out.2.2.2) i1))))
    have LX := hide (And.intro (row_lt S21.out.2.2.1) (And.intro (row_lt S21.out.2.2.2) (And.intro (row_lt S21.out.2.1.row) S21.out.2.1.from.rng)))
    clear i1 g1
    generalize v0.heap.size = gx at *
    go_wp2_with fail
    refine (imageS S13.out.2.2.1 T1.out.1).mono ?_
    rintro e v2 ⟨hy, rfl, i2, g2⟩
    have T2 := hide (And.intro (T1.out.1.then g2) (And.intro (T1.out.2.1.grown g2) (And.intro ((g2.block _ (row_lt T1.out.2.2.1) (by simp)).trans T1.out.2.2.1) (And.intro ((g2.block _ (row_lt T1.out.2.2.2.1) (by simp)).trans T1.out.2.2.2.1) (And.intro (T1.out.2.2.2.2.from.grown g2) i2.from)))))
    have LY := hide (row_lt T1.out.2.2.2.2.row)
    clear i2 g2
    generalize v1.heap.size = gy at *
    go_wp2_with fail
    obtain ⟨H, hH⟩ : ∃ H, H = v2.heap.size := ⟨_, rfl⟩
    rw [← hH] at T2
    have LH : Hid (gy < H ∧ H ≤ v2.heap.size) := ⟨by rw [hH]; exact row_lt T2.out.2.2.2.2.2.row, Nat.le_of_eq hH⟩
    clear hH
    have HL0 : Hid (w.heap.size ≤ ga0) := by have h1 := T2.out.1.own kA13.d (.inl rfl); have h2 := LA.out kA13.d (.inl (.inl rfl)); show _ ≤ _; omega
    go_loopg [12, 18] 4 (fun q s12 i wr => ∃ j : Nat, q + j = 4 ∧ i = .int .i64 j ∧ ∃ ga, s12 = .slice (some ⟨ga, 0, none⟩) 64 64 ∧ Hid (DkS w wr kA13 4 64 DD WD ∧ ImgAt wr gt gt 64 (secs 4 64 DD) ht ∧ wr.heap[ga]? = some (.cells (bv X).toArray 5 (0, 0)) ∧ wr.heap[gb]? = some (.cells (bv X).toArray 5 (0, 0)) ∧ From wr gx gy gx (secs 4 64 DD) hx j ∧ From wr gy H gy (secs 4 64 DD) hy j ∧ (ga = ga0 ∨ H ≤ ga) ∧ H ≤ wr.heap.size))
    case atStart => exact ⟨0, by omega, rfl, ga0, rfl, hide ⟨T2.out.1, T2.out.2.1, T2.out.2.2.1, T2.out.2.2.2.1, T2.out.2.2.2.2.1, T2.out.2.2.2.2.2, Or.inl rfl, LH.out.2⟩⟩
    case round =>
      obtain ⟨j, hkj, rfl, ga, rfl, HR⟩ := hrel
      by_cases hk : 0 < gk
      · have hj : j < 4 := by omega
        obtain ⟨r1, r2, r3, r4, r5, r6, r7, r8⟩ := HR.out
        obtain ⟨x, hxj⟩ : ∃ x, hx[j]? = some x := ⟨_, List.getElem?_eq_getElem (by rw [r5.len, secs_length]; exact hj)⟩
        obtain ⟨y, hyj⟩ : ∃ y, hy[j]? = some y := ⟨_, List.getElem?_eq_getElem (by rw [r6.len, secs_length]; exact hj)⟩
        have hRj := secs_get 4 64 DD j hj
        obtain ⟨x1, x2⟩ := r5.rows j x _ (Nat.le_refl _) hxj hRj
        obtain ⟨y1, y2⟩ := r6.rows j y _ (Nat.le_refl _) hyj hRj
        obtain ⟨x3, x4⟩ := r5.rng j x hxj
        obtain ⟨y3, y4⟩ := r6.rng j y hyj
        have xg : x ≠ gx := fun e => by have := r5.row; rw [← e, x1] at this; simp at this
        have yg : y ≠ gy := fun e => by have := r6.row; rw [← e, y1] at this; simp at this
        have l1 := LX.out.1
        have l2 := LX.out.2.1
        have l3 := LH.out.1
        have l4 := LBo.out
        have l5 := LY.out
        have xa : x ≠ ga := by rcases r7 with e | e <;> omega
        have ya : y ≠ ga := by rcases r7 with e | e <;> omega
        have cx : wr.cell? ⟨gx, j, none⟩ = some (.slice (some ⟨x, 0, none⟩) 64 64) := by rw [cell_row r5.row, slv, List.getElem?_map, hxj]; rfl
        have cy : wr.cell? ⟨gy, j, none⟩ = some (.slice (some ⟨y, 0, none⟩) 64 64) := by rw [cell_row r6.row, slv, List.getElem?_map, hyj]; rfl
        have HAp : Hid (∀ q, Calls Try.prog 36 #[.slice (some ⟨wr.heap.size, 0, none⟩) 3 3] ((wr.drewN q).alloc (.cells #[.slice (some ⟨x, 0, none⟩) 64 64, .slice (some ⟨y, 0, none⟩) 64 64, .slice (some ⟨ga, 0, none⟩) 64 64] 46)) fun e w' => e = .returned (.bool true) ∧ Kept wr w' (fun i => i = x ∨ i = y ∨ i = ga)) := fun q =>
          (apart3 x y ga _ _ X (wr.drewN q) x1 y1 r3 x2 y2 HXX.out.2.2 (by omega) xa ya).mono (fun e w' ⟨h1, h2⟩ => ⟨h1, ⟨h2.os, h2.tape, h2.output, h2.size, h2.block⟩⟩)
        have HN : Hid (∀ w2, Kept wr w2 (fun i => i = x ∨ i = y ∨ i = ga) → DkS w w2 kA13 4 64 DD WD ∧ ImgAt w2 gt gt 64 (secs 4 64 DD) ht ∧ w2.heap[gb]? = some (.cells (bv X).toArray 5 (0, 0)) ∧ From w2 gx gy gx (secs 4 64 DD) hx (j + 1) ∧ From w2 gy H gy (secs 4 64 DD) hy (j + 1) ∧ H ≤ w2.heap.size) := by
          intro w2 hk2
          have hlo : ∀ i, i < ga0 → ¬ (i = x ∨ i = y ∨ i = ga) := fun i hi => by rcases r7 with e | e <;> omega
          have hL0 := HL0.out
          refine ⟨⟨r1.disk.kept hk2 (fun i hi => hlo i (LA.out i hi)), r1.own, kept_new r1.grown hk2 (fun i hi => by rcases r7 with e | e <;> omega)⟩, r2.off hk2 (hlo _ LG.out.1) (fun a ha => by obtain ⟨i, hi⟩ := List.getElem?_of_mem ha; exact hlo _ (LG.out.2 i a hi).2), hk2.at r4 (by rcases r7 with e | e <;> omega), r5.off hk2 (by rcases r7 with e | e <;> omega) ?_, r6.off hk2 (by rcases r7 with e | e <;> omega) ?_, Nat.le_trans r8 hk2.size⟩
          · intro i a hi ha
            obtain ⟨a1, a2⟩ := r5.rng i a ha
            have ne : a ≠ x := fun e => by rw [e] at ha; have := r5.inj i j x ha hxj; omega
            rcases r7 with e | e <;> omega
          · intro i a hi ha
            obtain ⟨a1, a2⟩ := r6.rng i a ha
            have ne : a ≠ y := fun e => by rw [e] at ha; have := r6.inj i j y ha hyj; omega
            rcases r7 with e | e <;> omega
        have h1 : (0 : Int) ≤ (j : Int) := by omega
        have h2 : (j : Int) < 4 := by omega
        have HCK : Hid (∀ w2 : World, Kept wr w2 (fun i => i = x ∨ i = y ∨ i = ga) → w2.cell? ⟨gx, j, none⟩ = some (.slice (some ⟨x, 0, none⟩) 64 64) ∧ w2.cell? ⟨gy, j, none⟩ = some (.slice (some ⟨y, 0, none⟩) 64 64)) := fun w2 hk2 => by
          have f5 := (HN.out w2 hk2).2.2.2.1.row
          have f6 := (HN.out w2 hk2).2.2.2.2.1.row
          exact ⟨by rw [cell_row f5, slv, List.getElem?_map, hxj]; rfl, by rw [cell_row f6, slv, List.getElem?_map, hyj]; rfl⟩
        clear r1 r2 r3 r4 r5 r6 r7 r8 hxj hyj hRj x1 x2 x3 x4 y1 y2 y3 y4 xg yg xa ya l1 l2 l3 l4 l5
        go_wp2_with fail
        go_region_held3 (fun w' => w'.cell? ⟨gx, j, none⟩ = some (.slice (some ⟨x, 0, none⟩) 64 64) ∧ w'.cell? ⟨gy, j, none⟩ = some (.slice (some ⟨y, 0, none⟩) 64 64)) (first | exact ⟨cx, cy⟩ | assumption | go_keep) ((go_at_call 36; refine (HAp.out _).mono ?_; rintro e w2 ⟨rfl, hk2⟩; have hS2 := HCK.out w2 hk2; have K2 := hide hk2; clear hk2))
        have N2 := hide (HN.out w2 K2.out)
        clear hS2 cx cy
        go_wp2_with fail
        refine (HRd.out w2 N2.out.1).mono ?_
        rintro e w4 ⟨rfl, a4, g4⟩
        have A4 := hide (And.intro a4 g4)
        clear a4 g4
        go_wp2
        go_roundg (gk - 1)
        case measure => omega
        case rel =>
          obtain ⟨n1, n2, n3, n4, n5, n6⟩ := N2.out
          obtain ⟨a4, g4⟩ := A4.out
          exact ⟨j + 1, by omega, by go_num, w2.heap.size, rfl, hide ⟨n1.then g4, n2.grown g4, a4, (g4.block _ (row_lt n3) (by simp)).trans n3, n4.grown g4, n5.grown g4, Or.inr n6, Nat.le_trans n6 g4.size⟩⟩
      · have hj4 : j = 4 := by omega
        subst hj4
        have HR2 := hide HR.out
        clear HR hkj hk
        go_wp2_with fail
        refine (imageS S13.out.2.2.1 HR2.out.1).mono ?_
        rintro e w2 ⟨hz, rfl, i2, g2⟩
        have A2 := hide (And.intro i2 (And.intro (HR2.out.2.1.grown g2) (And.intro ((g2.block _ (row_lt HR2.out.2.2.1) (by simp)).trans HR2.out.2.2.1) (And.intro ((g2.block _ (row_lt HR2.out.2.2.2.1) (by simp)).trans HR2.out.2.2.2.1) (grown_trans HR2.out.1.grown g2)))))
        clear i2 g2
        generalize wr.heap.size = gz at *
        go_wp2_with fail
        refine (sameRows_eq (some ⟨gz, 0, none⟩) (some ⟨gt, 0, none⟩) 4 4 4 (secs 4 64 DD) w2 (secs_length _ _ _) (A2.out.1.rowsAt (by omega)) (A2.out.2.1.rowsAt (by omega)) (by omega)).mono ?_
        rintro e w3 ⟨rfl, q3, rfl⟩
        go_wp2_with fail
        refine (sameBytes_eq (some ⟨ga, 0, none⟩) (some ⟨gb, 0, none⟩) 64 64 64 X (w2.drewN q3) HXX.out.2.2 (at_row (w := w2.drewN q3) A2.out.2.2.1) (at_row (w := w2.drewN q3) A2.out.2.2.2.1) (by omega)).mono ?_
        rintro e w4 ⟨rfl, q4, rfl⟩
        go_wp2
        go_ret
        exact ⟨rfl, grown_trans A2.out.2.2.2.2 (grown_drewN _ _ _)⟩
end Go.Proofs.Ytgcfjphjekkkmaa
