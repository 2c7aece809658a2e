/- Texts joined: Sp0. -/
import Derived.Test.YtnonghacjfgnmaaJbAo
import Derived.Test.YtnonghacjfgnmaaJpAd
/- Three regions of one device. -/
namespace Go.Proofs.Ytnonghacjfgnmaa
open Go.RowKit Ap
attribute [local go_sem ↓] Go.wp_at_zero Go.wp_at_succ

/-- Two regions of the sectors 1 to 3, one of 4 and 5; Q is what the first show. -/
structure SpS (w0 w : World) (b r1 r2 r3 : Nat) (k : Dk) (W : List Wt) (c : Nat) (Q : List Nat) : Prop where
  dev : Dev w0 w 6 64 b (frD c) k (zs (6 * 64)) W
  g1 : RgAt w r1 b 1 3
  g2 : RgAt w r2 b 1 3
  g3 : RgAt w r3 b 4 2
  qlen : Q.length = 192
  sh : now 64 (zs (6 * 64)) (abs W) = splice (zs (6 * 64)) 64 Q
section
variable {w0 w w' : World} {b r1 r2 r3 c : Nat} {k k' : Dk} {W W' : List Wt} {Q : List Nat}
theorem SpS.then (h : SpS w0 w b r1 r2 r3 k W c Q) (hg : w.grownBy w' none) : SpS w0 w' b r1 r2 r3 k W c Q :=
  ⟨h.dev.then hg, h.g1.grown hg, h.g2.grown hg, h.g3.grown hg, h.qlen, h.sh⟩
theorem SpS.goes {c' : Nat} {Q' : List Nat} (h : SpS w0 w b r1 r2 r3 k W c Q) (hd : Dev w0 w' 6 64 b (frD c') k' (zs (6 * 64)) W') (hk : Kept w w' (fun i => k.own i ∨ i = b)) (hq : Q'.length = 192) (hs : now 64 (zs (6 * 64)) (abs W') = splice (zs (6 * 64)) 64 Q') : SpS w0 w' b r1 r2 r3 k' W' c' Q' := by
  have f1 := h.dev.far h.g1.head (by decide) (by decide) (by decide) (by decide)
  have f2 := h.dev.far h.g2.head (by decide) (by decide) (by decide) (by decide)
  have f3 := h.dev.far h.g3.head (by decide) (by decide) (by decide) (by decide)
  exact ⟨hd, h.g1.kept hk (fun e => e.elim f1.1 f1.2), h.g2.kept hk (fun e => e.elim f2.1 f2.2), h.g3.kept hk (fun e => e.elim f3.1 f3.2), hq, hs⟩
/-- A foreign block is written. -/
theorem SpS.row {g : Nat} (h : SpS w0 w b r1 r2 r3 k W c Q) (hg : w.grownBy w' (some g)) (hf : ¬ foot k W g) (hb : g ≠ b) (hl : w0.heap.size ≤ g) (hr : g ≠ r1 ∧ g ≠ r2 ∧ g ≠ r3) : SpS w0 w' b r1 r2 r3 k W c Q :=
  ⟨h.dev.row hg hf hb hl, h.g1.same (hg.block _ h.g1.lt (fun e => hr.1 (Option.some.inj e).symm)), h.g2.same (hg.block _ h.g2.lt (fun e => hr.2.1 (Option.some.inj e).symm)), h.g3.same (hg.block _ h.g3.lt (fun e => hr.2.2 (Option.some.inj e).symm)), h.qlen, h.sh⟩
theorem SpS.nowlen (h : SpS w0 w b r1 r2 r3 k W c Q) : (now 64 (zs (6 * 64)) (abs W)).length = 6 * 64 := now_len h.dev.disk.disk.len h.dev.disk.disk.fitsW
theorem SpS.write (h : SpS w0 w b r1 r2 r3 k W c Q) (at_ cap : Nat) (ao : Option Addr) (xs : List Nat) (hat : At w ao xs) (hcap : xs.length ≤ cap) (hfit : at_ + xs.length ≤ 192) (hoff : ∀ a, ao = some a → 0 < xs.length → ¬ k.own a.block ∧ a.block ≠ b) (hW : W.length ≤ 800000) (hc : c ≤ 90000) :
    Calls Try.prog 9 #[.pointer (some ⟨r1, 0, none⟩), .int .i64 (at_ : Int), .slice ao xs.length cap] w fun e w' => e = .returned (.int .i64 0) ∧ ∃ k' W' c', SpS w0 w' b r1 r2 r3 k' W' c' (splice Q at_ xs) ∧ c' ≤ c + 7 ∧ W'.length ≤ W.length + 5 ∧ DvM w w' b k k' W W' := by
  have hm := pcn_le (size := 64) (at_ := at_) (n := xs.length) (by omega)
  have hcs := cst_few (size := 64) (at_ := at_) (n := xs.length) (by omega)
  have hl64 : xs.length ≤ 192 := by omega
  refine (gWrite_at h.dev h.g1 (by omega) at_ cap ao xs hat hcap (by omega) hoff (by omega) (by show c + _ < _; omega)).mono ?_
  rintro e w' ⟨x, rfl, hx⟩
  obtain ⟨rfl, k', W', d', m', e', l'⟩ := hx.free (by omega) h.nowlen (by omega)
  refine ⟨rfl, k', W', _, h.goes d' m'.kept ?_ ?_, by omega, by omega, m'⟩
  · rw [length_splice _ _ _ (by rw [h.qlen]; exact hfit), h.qlen]
  · rw [e', h.sh, Nat.one_mul, splice_in _ _ _ _ _ (by rw [h.qlen]; exact hfit) (by rw [h.qlen, zs_length]; omega)]
/-- A read of any of the three. -/
theorem SpS.read (h : SpS w0 w b r1 r2 r3 k W c Q) (r F C : Nat) (hr : RgAt w r b F C) (hFC : F + C ≤ 6) (a m : Nat) (hfit : a + m ≤ C * 64) (hc : c ≤ 90000) (X : List Nat) (hX : bytesAt (splice (zs (6 * 64)) 64 Q) (F * 64 + a) m = X) :
    Calls Try.prog 8 #[.pointer (some ⟨r, 0, none⟩), .int .i64 (a : Int), .int .i64 (m : Int)] w fun e w' => ∃ g, e = .returned (.tuple #[.slice (some ⟨g, 0, none⟩) m m, .int .i64 0]) ∧ (SpS w0 w' b r1 r2 r3 k W (c + pcn 64 a m) Q ∧ w'.heap[g]? = some (.cells (bv X).toArray 5 (0, 0)) ∧ w.heap.size ≤ g ∧ X.length = m ∧ pcn 64 a m ≤ 10 ∧ Kept w w' (fun i => k.own i ∨ i = b)) := by
  have hm := pcn_le (size := 64) (at_ := a) (n := m) (by omega)
  have hw := gRead_at h.dev hr hFC a m (by omega) (by show c + _ ≤ _; omega)
  rw [h.sh, hX] at hw
  refine hw.mono ?_
  rintro e w' ⟨v, x, rfl, hx⟩
  have hx0 : x = 0 := by rw [hx.code, rgo_free]
  subst hx0
  obtain ⟨g, rfl, l5, n5, l6⟩ := hx.ok rfl
  have hd5 := hx.dev
  rw [rgo_free] at hd5
  exact ⟨g, rfl, h.goes hd5 hx.kept h.qlen h.sh, n5, l5, l6, by omega, hx.kept⟩
theorem sp_in (Q : List Nat) (hq : Q.length = 192) (a m : Nat) (h : a + m ≤ 192) : bytesAt (splice (zs (6 * 64)) 64 Q) (1 * 64 + a) m = (Q.drop a).take m := by
  apply List.ext_getElem?
  intro i
  rw [bytesAt_get, splice_get _ _ _ _ (by rw [hq, zs_length]; omega), List.getElem?_take, List.getElem?_drop, hq]
  by_cases hi : i < m
  · rw [if_pos hi, if_pos hi, if_pos (by omega)]; congr 1; omega
  · rw [if_neg hi, if_neg hi]
theorem sp_out (Q : List Nat) (hq : Q.length = 192) : bytesAt (splice (zs (6 * 64)) 64 Q) (4 * 64 + 0) 128 = zs 128 := by
  apply List.ext_getElem?
  intro i
  rw [bytesAt_get, splice_get _ _ _ _ (by rw [hq, zs_length]; omega), hq]
  simp only [zs, List.getElem?_replicate]
  by_cases hi : i < 128
  · rw [if_pos hi, if_neg (by omega), if_pos (by omega), if_pos hi]
  · rw [if_neg hi, if_neg hi]
/-- The blocks that are looked at. -/
def spF (b r1 r2 r3 : Nat) (k : Dk) (W : List Wt) (i : Nat) : Prop := (foot k W i ∨ i = b) ∨ (i = r1 ∨ i = r2 ∨ i = r3)
theorem SpS.lt (h : SpS w0 w b r1 r2 r3 k W c Q) : ∀ i, spF b r1 r2 r3 k W i → i < w.heap.size := by
  rintro i ((hf | rfl) | rfl | rfl | rfl)
  · exact h.dev.disk.disk.lt i hf
  · exact h.dev.dev.lt
  · exact h.g1.lt
  · exact h.g2.lt
  · exact h.g3.lt
theorem SpS.other {S : Nat → Prop} (h : SpS w0 w b r1 r2 r3 k W c Q) (hk : Kept w w' S) (hS : ∀ i, spF b r1 r2 r3 k W i → ¬ S i) (hl : ∀ i, S i → w0.heap.size ≤ i) : SpS w0 w' b r1 r2 r3 k W c Q :=
  ⟨⟨⟨h.dev.disk.disk.kept hk (fun i hi => hS i (.inl (.inl hi))), h.dev.disk.own, kept_new h.dev.disk.grown hk hl⟩, h.dev.dev.kept hk (hS _ (.inl (.inr rfl))), h.dev.low⟩, h.g1.kept hk (hS _ (.inr (.inl rfl))), h.g2.kept hk (hS _ (.inr (.inr (.inl rfl)))), h.g3.kept hk (hS _ (.inr (.inr (.inr rfl)))), h.qlen, h.sh⟩
theorem at_cutA {w : World} {g a m cap : Nat} {Q : List Nat} (h : At w (some ⟨g, 0, none⟩) Q) (hc : Q.length ≤ cap) (_hf : a + m ≤ Q.length) : At w (some ⟨g, cutO a cap, none⟩) ((Q.drop a).take m) := by
  unfold cutO
  split
  · have : (Q.drop a).take m = [] := List.eq_nil_of_length_eq_zero (by simp; omega)
    rw [this]
    exact At.nil _ _
  · have := (at_from h a).take m
    rw [Addr.add_lit, Nat.zero_add] at this
    exact this
end
set_option maxRecDepth 20000 in
set_option maxHeartbeats 16000000 in
theorem spares_any (ao : Option Addr) (m cap : Nat) (os : List Pt) (at_ n : Int) (w : World) (hm : os.length = m) (ho : PtsAt w ao os) (hmm : m ≤ 140737488355328) :
    Calls Try.prog 7 #[.slice ao m cap, .int .i64 at_, .int .i64 n] w fun e w' => e = .returned (.bool true) ∧ w.grownBy w' none := by
  have HO := hide (And.intro hm ho)
  clear hm ho
  go_enter Try.func7, Try.ntmps7
  go_wp2_with fail
  refine (device_any w w 5 0 (grown_refl _ _)).mono ?_
  rintro e w1 ⟨p, rfl, p1, p2, ⟨p3, p4, p5, p6, p7⟩, p8, p9⟩
  obtain ⟨b, s, k, D, W, c, t, q⟩ := p
  simp only at p3 p4 p5 p6 p7
  subst p3 p5 p6 p7
  have D1 : Hid (Dev w w1 6 64 b (frD 0) k (zs (6 * 64)) []) := p1.dev
  clear p1 p2 p4 p8 p9
  go_wp2_with fail
  refine (gnew_at D1.out 1 3 (by unfold spanOk; omega)).mono ?_
  rintro e w2 ⟨r1, rfl, q2, _, g2⟩
  have D2 := hide (And.intro (D1.out.then g2) q2)
  clear q2 g2 D1
  go_wp2_with fail
  refine (gnew_at D2.out.1 1 3 (by unfold spanOk; omega)).mono ?_
  rintro e w3 ⟨r2, rfl, q3, _, g3⟩
  have D3 := hide (And.intro (D2.out.1.then g3) (And.intro (D2.out.2.grown g3) q3))
  clear q3 g3 D2
  go_wp2_with fail
  refine (gnew_at D3.out.1 4 2 (by unfold spanOk; omega)).mono ?_
  rintro e w4 ⟨r3, rfl, q4, _, g4⟩
  have S4 : Hid (SpS w w4 b r1 r2 r3 k [] 0 (zs 192)) := ⟨D3.out.1.then g4, D3.out.2.1.grown g4, D3.out.2.2.grown g4, q4, zs_length _, by show zs (6 * 64) = _; rw [zs_splice _ _ _ (by omega)]⟩
  clear q4 g4 D3
  go_wp2
  go_loopg [16] (min m 200) (fun q i wr => ∃ j : Nat, q + j = min m 200 ∧ i = .int .i64 j ∧ Hid (∃ k W c Q, SpS w wr b r1 r2 r3 k W c Q ∧ c ≤ 7 * j ∧ W.length ≤ 5 * j))
  case atStart => exact ⟨0, by omega, rfl, hide ⟨_, _, _, _, S4.out, by omega, by simp⟩⟩
  case round =>
    clear S4
    obtain ⟨j, hkj, rfl, HR⟩ := hrel
    by_cases hk : 0 < gk
    · have hj : j < m ∧ j < 200 := by omega
      obtain ⟨o, hoj⟩ : ∃ o, os[j]? = some o := ⟨_, List.getElem?_eq_getElem (by have := HO.out.1; omega)⟩
      obtain ⟨kj, Wj, cj, Q, hB, hc, hW⟩ := HR.out
      obtain ⟨bb, off, bo, bc, hao, hst⟩ := HO.out.2 j o hoj
      subst hao
      have hstr := hst.grown hB.dev.disk.grown
      have c0 := hstr.c0
      have c1 := hstr.c1
      have SI := hide hstr.sin
      have AT0 := hide (hst.sin.ptB 192).at_
      have BB := hide hB
      have hj0 : (0 : Int) ≤ (j : Int) := by omega
      have hj1 : (j : Int) < (m : Int) := by omega
      have hj2 : (j : Int) < 200 := by omega
      clear hstr hst hB hoj HR
      have hft : Hid (Calls Try.prog 29 #[.agg #[.int .i64 o.at_, .slice bo o.B.length bc], .int .i64 192] wr fun e w' => e = .returned (.tuple #[.int .i64 (ptAt o 192 : Int), .slice bo (ptB o 192).length bc]) ∧ wr.grownBy w' none) := fits_any o bo bc 192 wr SI.out (by omega)
      go_wp2_with fail
      refine hft.out.mono ?_
      rintro e w5 ⟨rfl, g5⟩
      have B5 := hide (And.intro (BB.out.then g5) ((SI.out.ptB 192).grown g5))
      clear g5 c0 c1 BB SI hft
      have hpf := pt_fit o 192
      generalize ptAt o 192 = kk at *
      generalize ptB o 192 = xs at *
      go_wp2_with fail
      refine (lent_any bo xs.length bc xs w5 rfl B5.out.2.at_ B5.out.2.nil (by have := B5.out.2.size; omega)).mono ?_
      rintro e w6 ⟨v, rfl, l6, g6⟩
      obtain ⟨g, cap6, rfl, x1, x2, x3, x4, x5, cur, x6, x7⟩ := l6.all
      have B6 := hide (And.intro (B5.out.1.then g6) (And.intro x5 (And.intro x3 (And.intro x4 (And.intro x6 x7)))))
      have hlt : Hid (∀ i, (foot kj Wj i ∨ i = b) ∨ (i = r1 ∨ i = r2 ∨ i = r3) → i < w5.heap.size) := by
        rintro i ((hf | rfl) | rfl | rfl | rfl)
        · exact B5.out.1.dev.disk.disk.lt i hf
        · exact B5.out.1.dev.dev.lt
        · exact B5.out.1.g1.lt
        · exact B5.out.1.g2.lt
        · exact B5.out.1.g3.lt
      have hat6 : Hid (At w6 (some ⟨g, 0, none⟩) xs) := fun i u hu => x5 i u (by rw [List.getElem?_append_left (List.getElem?_eq_some_iff.1 hu).1]; exact hu)
      have hlw : Hid (w.heap.size ≤ w5.heap.size) := B5.out.1.dev.disk.grown.size
      clear l6 g6 x3 x4 x5 x6 x7 B5
      have hg7 : ¬ kj.own g ∧ g ≠ b := ⟨fun hf => by have h1 := hlt.out _ (.inl (.inl (.inl hf))); have h2 := B6.out.2.2.1; omega, fun hf => by have h1 := hlt.out _ (.inl (.inr hf)); have h2 := B6.out.2.2.1; omega⟩
      go_wp2_with fail
      refine (B6.out.1.write kk cap6 (some ⟨g, 0, none⟩) xs hat6.out (by omega) hpf (fun a e _ => by cases e; exact hg7) (by omega) (by omega)).mono ?_
      rintro e w7 ⟨rfl, k7, W7, c7, b7, l1, l2, m7⟩
      have hnf : Hid (¬ foot k7 W7 g) := fun hf => by
        rcases m7.foot hf with e | e
        · have h1 := hlt.out _ (.inl (.inl e)); have h2 := B6.out.2.2.1; omega
        · have := B6.out.2.2.2.1; omega
      have B7 := hide (And.intro b7 (And.intro (at_off B6.out.2.1 m7.kept (fun a e _ hs => by cases e; exact hs.elim hg7.1 hg7.2)) (m7.other B6.out.2.2.2.2.1 hg7.1 hg7.2)))
      have hcs := hide B6.out.2.2.2.2.2
      have hgw := hide B6.out.2.2.1
      clear b7 m7 B6 hat6
      go_wp2_with fail
      refine (kept_any g cap6 bo xs.length bc xs w7 rfl x1 x2 B7.out.2.1 (AT0.out.grown B7.out.1.dev.disk.grown) (by omega)).mono ?_
      rintro e w8 ⟨rfl, g8⟩
      have B8 := hide (And.intro (B7.out.1.then g8) ((g8.block _ (row_lt B7.out.2.2) (by simp)).trans B7.out.2.2))
      clear g8 B7
      go_wp2_with fail
      refine (over_any g cap6 xs.length w8 ⟨cur, B8.out.2, hcs.out⟩ x1 x2 (by omega)).mono ?_
      rintro e w9 ⟨rfl, g9⟩
      have B9 : Hid (SpS w w9 b r1 r2 r3 k7 W7 c7 (splice Q kk xs)) := by
        have h2 := hgw.out
        have h3 := hlw.out
        have n1 : g ≠ r1 := fun e => by have h1 := hlt.out g (.inr (.inl e)); omega
        have n2 : g ≠ r2 := fun e => by have h1 := hlt.out g (.inr (.inr (.inl e))); omega
        have n3 : g ≠ r3 := fun e => by have h1 := hlt.out g (.inr (.inr (.inr e))); omega
        exact B8.out.1.row g9 hnf.out hg7.2 (by omega) ⟨n1, n2, n3⟩
      clear g9 B8 hnf hlt
      go_wp2
      go_roundg (gk - 1)
      case measure => omega
      case rel => exact ⟨j + 1, by omega, by go_num, hide ⟨k7, W7, c7, _, B9.out, by omega, by omega⟩⟩
    · obtain ⟨kj, Wj, cj, Q, hB, hc, hW⟩ := HR.out
      have BB := hide hB
      have hcj : cj ≤ 1400 := by omega
      have HF : Hid (∀ i, spF b r1 r2 r3 kj Wj i → i < wr.heap.size) := hB.lt
      have hQ : Hid (Q.length = 192) := hB.qlen
      have hwl : Hid (w.heap.size ≤ wr.heap.size) := hB.dev.disk.grown.size
      clear hB HR
      obtain ⟨N0, hN0⟩ : ∃ N0, N0 = wr.heap.size := ⟨_, rfl⟩
      rw [← hN0] at HF hwl
      have HN0 := hide hN0
      clear hN0
      obtain ⟨a1, ha1⟩ : ∃ a1, a1 = ptAt ⟨at_, []⟩ 192 := ⟨_, rfl⟩
      have HP1 : Hid (∀ w, Calls Try.prog 31 #[.int .i64 at_, .int .i64 193] w fun e w' => e = .returned (.int .i64 (a1 : Int)) ∧ w' = w) := fun w => by
        have := pick_any at_ 193 193 w (by omega) (by omega) (by omega)
        rw [ha1, ptAt_cast]
        exact this
      have hal : a1 ≤ 192 := by rw [ha1]; exact ptAt_le _ _
      obtain ⟨n1, hn1⟩ : ∃ n1, n1 = ptAt ⟨n, []⟩ (192 - a1) := ⟨_, rfl⟩
      have HP2 : Hid (∀ w, Calls Try.prog 31 #[.int .i64 n, .int .i64 (193 - (a1 : Int))] w fun e w' => e = .returned (.int .i64 (n1 : Int)) ∧ w' = w) := fun w => by
        have := pick_any n (193 - (a1 : Int)) (192 - a1 + 1) w (by omega) (by omega) (by omega)
        rw [hn1, ptAt_cast]
        exact this
      have hnl : a1 + n1 ≤ 192 := by have := ptAt_le ⟨n, []⟩ (192 - a1); omega
      clear ha1 hn1
      have hjs : (m : Int) ≤ (j : Int) ∨ ((j : Int) < (m : Int) ∧ (200 : Int) ≤ (j : Int)) := by omega
      rcases hjs with hjs | ⟨hjs, hjt⟩
      all_goals
        go_wp2_with fail
        refine (HP1.out _).mono ?_
        rintro e w' ⟨rfl, rfl⟩
        go_wp2_with fail
        refine (HP2.out _).mono ?_
        rintro e w' ⟨rfl, rfl⟩
        go_wp2_with fail
        refine (BB.out.read r1 1 3 BB.out.g1 (by omega) a1 n1 (by omega) (by omega) _ (sp_in Q hQ.out a1 n1 hnl)).mono ?_
        rintro e w5 ⟨gA, rfl, h5⟩
        have B5 := hide h5
        have lA : N0 ≤ gA := by rw [HN0.out]; exact h5.2.2.1
        have lA2 : gA < w5.heap.size := row_lt h5.2.1
        have pc5 := h5.2.2.2.2.1
        clear h5
        generalize pcn 64 a1 n1 = pc at *
        generalize hX : (Q.drop a1).take n1 = X at *
        have HXe := hide hX
        clear hX
        have hsd : Hid (∀ g, N0 ≤ g → ¬ (kj.own g ∨ g = b)) := fun g hg e => by
          have := HF.out g (.inl (e.imp .inl id))
          omega
        go_wp2_with fail
        have hr2 := B5.out.1.read r2 1 3 B5.out.1.g2 (by omega) a1 n1 (by omega) (by omega) _ (sp_in Q hQ.out a1 n1 hnl)
        rw [HXe.out] at hr2
        refine hr2.mono ?_
        clear hr2
        rintro e w6 ⟨gB, rfl, h6⟩
        have lB : w5.heap.size ≤ gB := h6.2.2.1
        have lB2 : gB < w6.heap.size := row_lt h6.2.1
        have pc6 := h6.2.2.2.2.1
        have B6 := hide (And.intro h6.1 (And.intro (h6.2.2.2.2.2.at B5.out.2.1 (hsd.out gA lA)) (And.intro h6.2.1 B5.out.2.2.2.1)))
        clear h6 B5
        generalize pcn 64 a1 n1 = pd at *
        go_wp2_with fail
        have hr3 := B6.out.1.read r1 1 3 B6.out.1.g1 (by omega) 0 192 (by omega) (by omega) Q (by rw [sp_in Q hQ.out 0 192 (by omega), List.drop_zero, List.take_of_length_le (by rw [hQ.out]; omega)])
        refine hr3.mono ?_
        clear hr3
        rintro e w7 ⟨gC, rfl, h7⟩
        have lC : w6.heap.size ≤ gC := h7.2.2.1
        have lC2 : gC < w7.heap.size := row_lt h7.2.1
        have pc7 := h7.2.2.2.2.1
        have B7 := hide (And.intro h7.1 (And.intro (h7.2.2.2.2.2.at B6.out.2.1 (hsd.out gA lA)) (And.intro (h7.2.2.2.2.2.at B6.out.2.2.1 (hsd.out gB (by omega))) (And.intro h7.2.1 B6.out.2.2.2))))
        clear h7 B6
        generalize pcn 64 0 192 = pe at *
        go_wp2_with fail
        refine (copyBytes_any (some ⟨gC, 0, none⟩) 192 192 Q w7 hQ.out (at_row B7.out.2.2.2.1) (fun e => by cases e) (by omega)).mono ?_
        rintro e w8 ⟨v, rfl, o8, g8⟩
        obtain ⟨ao8, cap8, rfl, x1, x2, x3, x4, x5, x6⟩ := own_at o8
        obtain ⟨gW, rfl⟩ : ∃ gW, ao8 = some ⟨gW, 0, none⟩ := by
          cases ao8 with
          | none => have := (x5 rfl).1; omega
          | some a => exact ⟨a.block, by rw [← (x6 a rfl).1]⟩
        have lW : w7.heap.size ≤ gW := (x6 _ rfl).2.1
        have hblk : ∀ {i : Nat} {o : Obj}, w7.heap[i]? = some o → w8.heap[i]? = some o := fun ho => (g8.block _ (row_lt ho) (by simp)).trans ho
        have B8 := hide (And.intro (B7.out.1.then g8) (And.intro (hblk B7.out.2.1) (And.intro (hblk B7.out.2.2.1) (And.intro (hblk B7.out.2.2.2.1) (And.intro B7.out.2.2.2.2 x4)))))
        have hsl := slice_lhC gW 192 cap8 a1 (a1 + n1) (by omega) (by omega)
        rw [show a1 + n1 - a1 = n1 by omega, show ((a1 + n1 : Nat) : Int) = (a1 : Int) + (n1 : Int) by omega] at hsl
        clear o8 g8 x3 x4 x5 x6 B7 hblk
        go_wp2_with fail
        refine (sameBytes_eq (some ⟨gA, 0, none⟩) (some ⟨gB, 0, none⟩) n1 n1 n1 X w8 B8.out.2.2.2.2.1 (at_row B8.out.2.1) (at_row B8.out.2.2.1) (by omega)).mono ?_
        rintro e w9 ⟨rfl, q9, rfl⟩
        have hgd := grown_drewN w8 q9 none
        have hblk : ∀ {i : Nat} {o : Obj}, w8.heap[i]? = some o → (w8.drewN q9).heap[i]? = some o := fun ho => ho
        have B9 := hide (And.intro (B8.out.1.then hgd) (And.intro (hblk B8.out.2.1) (And.intro (hblk B8.out.2.2.1) (And.intro (hblk B8.out.2.2.2.1) (And.intro B8.out.2.2.2.2.1 (B8.out.2.2.2.2.2.grown hgd))))))
        have z9 : w7.heap.size ≤ gW ∧ gW < (w8.drewN q9).heap.size := ⟨lW, by
          obtain ⟨a, e, hcx⟩ := (B8.out.2.2.2.2.2.grown hgd) 0 _ (List.getElem?_eq_getElem (show 0 < Q.length by have := hQ.out; omega))
          cases e
          have := cell_lt hcx
          rwa [addr_add_block] at this⟩
        clear hgd hblk B8
        generalize w8.drewN q9 = w9 at *
        go_wp2_with fail
        have hs2 := sameBytes_eq (some ⟨gA, 0, none⟩) (some ⟨gW, cutO a1 cap8, none⟩) n1 n1 (cap8 - a1) ((Q.drop a1).take n1) w9 (by rw [HXe.out]; exact B9.out.2.2.2.2.1) (by rw [HXe.out]; exact at_row B9.out.2.1) (at_cutA B9.out.2.2.2.2.2 (by have := hQ.out; omega) (by have := hQ.out; omega)) (by omega)
        refine hs2.mono ?_
        clear hs2
        rintro e w10 ⟨rfl, q10, rfl⟩
        have hgd := grown_drewN w9 q10 none
        have hblk : ∀ {i : Nat} {o : Obj}, w9.heap[i]? = some o → (w9.drewN q10).heap[i]? = some o := fun ho => ho
        have B10 := hide (And.intro (B9.out.1.then hgd) (And.intro (hblk B9.out.2.1) (And.intro (hblk B9.out.2.2.1) (And.intro (hblk B9.out.2.2.2.1) (And.intro B9.out.2.2.2.2.1 (B9.out.2.2.2.2.2.grown hgd))))))
        have z10 : gW < (w9.drewN q10).heap.size := z9.2
        clear hgd hblk B9 hsl
        generalize w9.drewN q10 = w10 at *
        go_wp2_with fail
        have hA6 : w10.ownsRow 0 5 1 (.slice (some ⟨gA, 0, none⟩) n1 n1) n1 (bv X) := own_of_row B10.out.2.1 (by rw [bv_length, B10.out.2.2.2.2.1]) (Nat.zero_le _) (by unfold maxLen; omega)
        have hB6 : w10.ownsRow 0 5 1 (.slice (some ⟨gB, 0, none⟩) n1 n1) n1 (bv X) := own_of_row B10.out.2.2.1 (by rw [bv_length, B10.out.2.2.2.2.1]) (Nat.zero_le _) (by unfold maxLen; omega)
        have hC6 : w10.ownsRow 0 5 1 (.slice (some ⟨gC, 0, none⟩) 192 192) 192 (bv Q) := own_of_row B10.out.2.2.2.1 (by rw [bv_length, hQ.out]) (Nat.zero_le _) (by unfold maxLen; omega)
        have nAB : gA ≠ gB := by omega
        have nAC : gA ≠ gC := by omega
        have nBC : gB ≠ gC := by omega
        have hR : Rw w10 0 [.slice (some ⟨gA, 0, none⟩) n1 n1, .slice (some ⟨gB, 0, none⟩) n1 n1, .slice (some ⟨gC, 0, none⟩) 192 192] :=
          Rw.cons hA6 (by omega) (fun u hu => by simp at hu; right; rcases hu with rfl | rfl <;> simp [Value.ownBlock, nAB, nAC]) (Rw.cons hB6 (by omega) (fun u hu => by simp at hu; subst hu; right; simp [Value.ownBlock, nBC]) (Rw.cons hC6 (by omega) (fun u hu => by cases hu) (Rw.nil _ _)))
        have hap := apartBytes_rows 0 _ w10 hR (Nat.zero_le _) (by simp) (by simp)
        clear hR hA6 hB6 hC6
        refine hap.mono ?_
        clear hap
        rintro e w11 ⟨rfl, hg11⟩
        have hT : ∀ i, (∃ t, t < 3 ∧ (([.slice (some ⟨gA, 0, none⟩) n1 n1, .slice (some ⟨gB, 0, none⟩) n1 n1, .slice (some ⟨gC, 0, none⟩) 192 192] : List Value).getD t undef).ownBlock = some i) → i = gA ∨ i = gB ∨ i = gC := by
          rintro i ⟨t, ht, e⟩
          have : t = 0 ∨ t = 1 ∨ t = 2 := by omega
          rcases this with rfl | rfl | rfl
          · left; simpa [Value.ownBlock] using e.symm
          · right; left; simpa [Value.ownBlock] using e.symm
          · right; right; simpa [Value.ownBlock] using e.symm
        have hK : Kept w10 w11 (fun i => i = gA ∨ i = gB ∨ i = gC) := ⟨hg11.os, hg11.tape, hg11.output, hg11.size, fun i hi hn => hg11.block i hi (fun e => hn (hT i e))⟩
        have B11 : Hid (SpS w w11 b r1 r2 r3 kj Wj (cj + pc + pd + pe) Q ∧ At w11 (some ⟨gW, 0, none⟩) Q) := by
          refine ⟨B10.out.1.other hK (fun i hi e => ?_) (fun i e => ?_), at_off B10.out.2.2.2.2.2 hK (fun a e _ hs => ?_)⟩
          · have := HF.out i hi
            rcases e with e | e | e <;> omega
          · have := hwl.out
            rcases e with e | e | e <;> omega
          · cases e
            rcases hs with e | e | e
            · have e : gW = gA := e
              omega
            · have e : gW = gB := e
              omega
            · have e : gW = gC := e
              omega
        have z11 : gW < w11.heap.size := Nat.lt_of_lt_of_le z10 hg11.size
        clear hg11 hT hK B10
        have hc11 : cj + pc + pd + pe ≤ 2000 := by omega
        generalize cj + pc + pd + pe = c11 at *
        go_wp2_with fail
        have hr4 := B11.out.1.read r2 1 3 B11.out.1.g2 (by omega) 0 192 (by omega) (by omega) Q (by rw [sp_in Q hQ.out 0 192 (by omega), List.drop_zero, List.take_of_length_le (by rw [hQ.out]; omega)])
        refine hr4.mono ?_
        clear hr4
        rintro e w12 ⟨gN, rfl, h12⟩
        have lN : w11.heap.size ≤ gN := h12.2.2.1
        have hatW : At w12 (some ⟨gW, 0, none⟩) Q := at_off B11.out.2 h12.2.2.2.2.2 (fun a e _ hs => by cases e; exact hsd.out gW (by omega) hs)
        have B12 := hide (And.intro h12.1 (And.intro hatW h12.2.1))
        have pc12 := h12.2.2.2.2.1
        clear h12 B11 hatW
        generalize pcn 64 0 192 = pf at *
        go_wp2_with fail
        have hr5 := B12.out.1.read r3 4 2 B12.out.1.g3 (by omega) 0 128 (by omega) (by omega) (zs 128) (sp_out Q hQ.out)
        refine hr5.mono ?_
        clear hr5
        rintro e w13 ⟨gR, rfl, h13⟩
        have hatW : At w13 (some ⟨gW, 0, none⟩) Q := at_off B12.out.2.1 h13.2.2.2.2.2 (fun a e _ hs => by cases e; exact hsd.out gW (by omega) hs)
        have B13 := hide (And.intro h13.1 (And.intro hatW (And.intro (h13.2.2.2.2.2.at B12.out.2.2 (hsd.out gN (by omega))) h13.2.1)))
        clear h13 B12 hatW
        go_wp2_with fail
        refine (sameBytes_eq (some ⟨gN, 0, none⟩) (some ⟨gW, 0, none⟩) 192 192 cap8 Q w13 hQ.out (at_row B13.out.2.2.1) B13.out.2.1 (by omega)).mono ?_
        rintro e w14 ⟨rfl, q14, rfl⟩
        have B14 : Hid (w.grownBy (w13.drewN q14) none ∧ (w13.drewN q14).heap[gR]? = some (.cells (bv (zs 128)).toArray 5 (0, 0))) := ⟨grown_trans B13.out.1.dev.disk.grown (grown_drewN _ _ _), B13.out.2.2.2⟩
        clear B13
        generalize w13.drewN q14 = w14 at *
        have hmk : ∀ w : World, (Instr.makeSlice 31 (.int .i64 128) (.int .i64 128)).run Try.prog w = .ok (.slice (some ⟨w.heap.size, 0, none⟩) 128 128) (w.alloc (.cells (bv (zs 128)).toArray 5)) := fun w => make_bytes 128 (by omega) w
        have g15 := World.grownBy_alloc w14 (.cells (bv (zs 128)).toArray 5) none
        have n15 : (w14.alloc (.cells (bv (zs 128)).toArray 5)).heap[w14.heap.size]? = some (.cells (bv (zs 128)).toArray 5 (0, 0)) := heap_alloc_new w14 _
        have B15 := hide (And.intro (grown_trans B14.out.1 g15) (And.intro ((g15.block _ (row_lt B14.out.2) (by simp)).trans B14.out.2) n15))
        clear g15 n15 B14
        go_wp2_with fail
        generalize w14.alloc (.cells (bv (zs 128)).toArray 5) = w15 at *
        generalize w14.heap.size = gZ at *
        refine (sameBytes_eq (some ⟨gR, 0, none⟩) (some ⟨gZ, 0, none⟩) 128 128 128 (zs 128) w15 (zs_length _) (at_row B15.out.2.1) (at_row B15.out.2.2) (by omega)).mono ?_
        rintro e w16 ⟨rfl, q16, rfl⟩
        have G16 := hide (grown_trans B15.out.1 (grown_drewN w15 q16 none))
        clear B15 hmk
        generalize w15.drewN q16 = w16 at *
        go_wp2_with fail
        refine (awake_any _).mono ?_
        rintro e w17 ⟨rfl, g17⟩
        have G17 := hide (grown_trans G16.out g17)
        clear g17
        go_wp2
        go_ret
        exact ⟨rfl, G17.out⟩
end Go.Proofs.Ytnonghacjfgnmaa
