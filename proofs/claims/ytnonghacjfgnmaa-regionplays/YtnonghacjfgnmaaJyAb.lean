/- Texts joined: Qg4. -/
import Derived.Test.YtnonghacjfgnmaaJyAa
/- The document's region: its write. -/
namespace Go.Proofs.Ytnonghacjfgnmaa
open Go.RowKit Ap
attribute [local go_sem ↓] Go.wp_at_zero Go.wp_at_succ

section
variable {w w' : World} {r c F C lo n size : Nat} {s : Dv} {q : Rk}
/-- A sector that no piece yet has written. -/
theorem finds_pcs (P : List Pr) (R : List (List Nat)) (size F at_ : Nat) (B : List Nat) (j : Nat) : finds (P ++ pcs size F at_ B j) R (F + (at_ / size + j)) = finds P R (F + (at_ / size + j)) := by
  unfold finds lastP
  rw [List.foldl_append, fold_skip]
  intro x hx
  simp only [pcs, List.mem_map, List.mem_range] at hx
  obtain ⟨i, hi, rfl⟩ := hx
  simp only
  omega
theorem rst_len (q : Rk) : (rst q).2.length = q.V.length := by simp [rst, absV]
/-- What stands behind the sectors ahead of t. -/
structure QwS (w w' : World) (lo n size c : Nat) (s sj : Dv) (q qj : Rk) (r F C at_ m t : Nat) (B : List Nat) : Prop where
  dev : RDev w' lo n size c sj qj
  rg : QgAt w' r c F C
  mv : RM w w' c q qj
  st : rst qj = ((rst q).1, (rst q).2 ++ pcs size F at_ B (pcs0 size at_ m t))
  go : wgo (full size at_ m) (pcn size at_ m) 0 s = (pcs0 size at_ m t + (wgo (full size at_ m) (pcn size at_ m - pcs0 size at_ m t) (pcs0 size at_ m t) sj).1, (wgo (full size at_ m) (pcn size at_ m - pcs0 size at_ m t) (pcs0 size at_ m t) sj).2)
  few : sj.cnt ≤ s.cnt + 2 * pcs0 size at_ m t
theorem QwS.len {sj : Dv} {qj : Rk} {at_ m t : Nat} {B : List Nat} (h : QwS w w' lo n size c s sj q qj r F C at_ m t B) : qj.V.length = q.V.length + pcs0 size at_ m t := by
  rw [← rst_len, h.st, List.length_append, pcs_length, rst_len]
/-- Bytes that lay ahead stay where the document's device is moved. -/
theorem at_rm {qj : Rk} {ao : Option Addr} {xs : List Nat} (hat : At w ao xs) (hm : RM w w' c q qj) (hoff : ∀ a, ao = some a → 0 < xs.length → ¬ rfoot q a.block ∧ a.block ≠ c) : At w' ao xs := by
  intro j u hu
  obtain ⟨a, ha, hc⟩ := hat j u hu
  refine ⟨a, ha, ?_⟩
  have hl : 0 < xs.length := by have := (List.getElem?_eq_some_iff.1 hu).1; omega
  obtain ⟨h1, h2⟩ := hoff a ha hl
  have hb := hm.kept.block (a.add j).block (cell_lt hc) (by rw [addr_add_block]; rintro (e | e); exact h1 e; exact h2 e)
  exact (World.cell?_of_block hb).trans hc
/-- Rows of the call's own stay too. -/
theorem own_rm {w1 w2 : World} {qj : Rk} {B m : Nat} {v : Value} {xs : List Value} (ho : w1.ownsRow B 5 1 v m xs) (hm : RM w1 w2 c qj qj) (hf : ∀ i, rfoot qj i → i < B) (hc : c < B) : w2.ownsRow B 5 1 v m xs := by
  refine ⟨ho.1, ho.2.imp id (fun ⟨g', cap, cur, e1, e2, e3, e4⟩ => ⟨g', cap, cur, e1, e2, (hm.kept.block g' (row_lt e3) ?_).trans e3, e4⟩)⟩
  rintro (e | e)
  · have := hf _ e; omega
  · have e : g' = c := e; omega

theorem splice_set (X Y : List Nat) (fr e u : Nat) (hu : Y[e]? = some u) (h : fr + e < X.length) : (splice X fr (Y.take e)).set (fr + e) u = splice X fr (Y.take (e + 1)) := by
  have hel := (List.getElem?_eq_some_iff.1 hu).1
  have l1 : (Y.take e).length = e := by simp; omega
  have l2 : (Y.take (e + 1)).length = e + 1 := by simp; omega
  have l3 : (splice X fr (Y.take e)).length = X.length := length_splice _ _ _ (by omega)
  apply List.ext_getElem?
  intro i
  by_cases hi : i = fr + e
  · subst hi
    rw [List.getElem?_set_self (by omega), splice_get _ _ _ _ (by omega), if_pos (by omega), List.getElem?_take, if_pos (by omega), show fr + e - fr = e by omega, hu]
  · rw [List.getElem?_set_ne (fun e => hi e.symm), splice_get _ _ _ _ (by omega), splice_get _ _ _ _ (by omega), l1, l2, List.getElem?_take, List.getElem?_take]
    by_cases hx : fr ≤ i ∧ i < fr + e
    · rw [if_pos hx, if_pos (by omega), if_pos (by omega), if_pos (by omega)]
    · rw [if_neg hx, if_neg (by omega)]
/-- The piece makes the sector. -/
theorem piece_sec {size at_ m j S d fr te F n : Nat} {A xs X0 : List Nat} {sj sx : Dv} (N : PcN size at_ m j S d fr te) (hs : 0 < size) (hA : A.length = n * size) (hj : j < pcn size at_ m) (hm : m = xs.length) (hfit : F * size + at_ + m ≤ n * size) (hSn : F + S < n) (hX : X0.length = size)
    (hc : (decide (te - fr = size) = true ∧ sx = sj ∧ X0 = zs size) ∨ (decide (te - fr = size) = false ∧ sj.goes = true ∧ sx = sj.next ∧ X0 = secOf size A (F + S))) :
    splice X0 fr ((xs.drop d).take (te - fr)) = secOf size (splice A (F * size + at_) xs) (F + S) := by
  subst hm
  have hp := pc_sec (F := F) (A := A) (b := xs) hs hA hj (by omega)
  rw [N.eS] at hp
  have e1 := N.ed
  have e2 := N.ef
  have e3 := N.et
  rw [N.eS] at e1 e2 e3
  rw [e1, e2, e3] at hp
  rcases hc with ⟨h1, _, h2⟩ | ⟨h1, _, _, h2⟩
  · have h1 := of_decide_eq_true h1
    have ht := N.t1
    have hd := N.nx
    have hf0 : fr = 0 := by omega
    have hl : ((xs.drop d).take (te - fr)).length = size := by simp only [List.length_take, List.length_drop]; omega
    rw [← hp, hf0]
    rw [hf0] at hl
    rw [splice_full _ _ (by rw [hl, hX]), splice_full _ _ (by rw [hl, secOf_length hA hSn])]
  · rw [h2]; exact hp
/-- What lies in the row that is to be written, ahead of the bytes. -/
def Fst (size : Nat) (A : List Nat) (F S : Nat) (f : Bool) (sj sx : Dv) (X0 : List Nat) : Prop := (f = true ∧ sx = sj ∧ X0 = zs size) ∨ (f = false ∧ sj.goes = true ∧ sx = sj.next ∧ X0 = secOf size A (F + S))

set_option maxRecDepth 20000 in
set_option maxHeartbeats 16000000 in
theorem qWrite_at (h : RDev w lo n size c s q) (hr : QgAt w r c F C) (hFC : F + C ≤ n) (at_ cap : Nat) (ao : Option Addr) (xs : List Nat) (hat : At w ao xs) (_hcap : xs.length ≤ cap) (hfit : at_ + xs.length ≤ C * size) (hoff : ∀ a, ao = some a → 0 < xs.length → ¬ rfoot q a.block ∧ a.block ≠ c)
    (hV : q.V.length + pcn size at_ xs.length ≤ 900000) (hcnt : s.cnt + 2 * pcn size at_ xs.length < 100000) (A : List Nat) (hA : A.length = n * size) (hsec : ∀ i, i < n → rrbytes n (rst q) (i : Int) = secOf size A i) :
    Calls Try.prog 62 #[.pointer (some ⟨r, 0, none⟩), .int .i64 (at_ : Int), .slice ao xs.length cap] w fun e w' => ∃ x : Int, e = .returned (.int .i64 x) ∧ (x = (wgo (full size at_ xs.length) (pcn size at_ xs.length) 0 s).2.1 ∧ QgAt w' r c F C ∧ ∃ q', RDev w' lo n size c (wgo (full size at_ xs.length) (pcn size at_ xs.length) 0 s).2.2 q' ∧ RM w w' c q q' ∧ rst q' = ((rst q).1, (rst q).2 ++ pcs size F at_ (splice A (F * size + at_) xs) (wgo (full size at_ xs.length) (pcn size at_ xs.length) 0 s).1)) := by
  have s0 := h.ref.shape.s0
  have s1 := h.ref.shape.s1
  have n1 := h.ref.shape.n1
  have hB := h.ref.shape.all
  have hall : C * size ≤ n * size := Nat.mul_le_mul_right _ (by omega)
  obtain ⟨m, hm⟩ : ∃ m, m = xs.length := ⟨_, rfl⟩
  have HM := hide hm
  rw [← hm] at hfit _hcap hV hcnt ⊢
  have e0 : mcode (C * size) at_ m = 0 := by unfold mcode; rw [if_pos (by omega)]
  have HWR : Hid (Calls Try.prog 87 #[.pointer (some ⟨r, 0, none⟩), .int .i64 (at_ : Int), .int .i64 (m : Int)] w fun e w' => e = .returned (.bool false) ∧ w.grownBy w' none) := by
    have := qwrong_at h hr (by omega) at_ m (by omega)
    rw [e0] at this
    exact this.mono (by rintro e w' ⟨rfl, p, rfl⟩; exact ⟨rfl, grown_drewN _ _ _⟩)
  have HS := hide (fun w1 (g : w.grownBy w1 none) => rdsize_any (h.then g))
  have HH := hide (And.intro h (And.intro hr (And.intro hA (And.intro hsec (And.intro hat hoff)))))
  have hm6 : m ≤ 67108864 := by omega
  clear h hr e0 hA hsec hat hoff hm
  obtain ⟨B, hBd⟩ : ∃ B, B = splice A (F * size + at_) xs := ⟨_, rfl⟩
  have HB := hide hBd
  rw [← hBd]
  clear hBd
  go_enter Try.func62, Try.ntmps62
  go_wp2_with fail
  refine HWR.out.mono ?_
  rintro e w1 ⟨rfl, g1⟩
  have G1 := hide g1
  have c0 := (HH.out.2.1.grown g1).c0
  clear g1
  go_wp2_with fail
  refine (HS.out _ G1.out).mono ?_
  rintro e w' ⟨rfl, rfl⟩
  have hz0 : pcs0 size at_ m 0 = 0 := by simp [pcs0]
  have Q0 : Hid (QwS w w' lo n size c s s q q r F C at_ m 0 B) :=
    ⟨HH.out.1.then G1.out, HH.out.2.1.grown G1.out, (RM.refl w c q).new G1.out, by rw [hz0]; simp [pcs], by rw [hz0, Nat.sub_zero, Nat.zero_add], by omega⟩
  clear hz0 c0
  go_wp2
  go_loopg [8] C (fun k i wr => ∃ t : Nat, k + t = C ∧ i = .int .i64 t ∧ Hid (∃ sj qj, QwS w wr lo n size c s sj q qj r F C at_ m t B))
  case atStart => exact ⟨0, by omega, rfl, hide ⟨s, q, Q0.out⟩⟩
  case round =>
    clear Q0
    obtain ⟨t, hkt, rfl, HR⟩ := hrel
    obtain ⟨sj, qj, hj⟩ := HR.out
    have HJ := hide hj
    have r0 := hj.rg.c0
    have r1 := hj.rg.c1
    have r2 := hj.rg.c2
    clear hj HR
    by_cases hk : 0 < gk
    · have ht : (t : Int) < (C : Int) := by omega
      have htm : (t + 1) * size ≤ C * size := Nat.mul_le_mul_right _ (by omega)
      rw [Nat.succ_mul] at htm
      obtain ⟨T, hT⟩ : ∃ T, T = t * size := ⟨_, rfl⟩
      have hmul : (t : Int) * (size : Int) = (T : Int) := by rw [hT]; simp
      have hTb : T ≤ 67108864 := by omega
      have HT := hide hT
      clear hT
      obtain ⟨X, hX⟩ : ∃ X : Int, max ((at_ : Int) - (T : Int)) 0 = X := ⟨_, rfl⟩
      obtain ⟨Y, hY⟩ : ∃ Y : Int, min ((at_ : Int) + (m : Int) - (T : Int)) (size : Int) = Y := ⟨_, rfl⟩
      have HXY := hide (And.intro hX hY)
      clear hX hY
      go_upto_region 7 with fail
      go_cut [9, 10] from 35 to 50 (fun s9 s10 wx => s9 = .int .i64 X ∧ s10 = .int .i64 Y ∧ wx = wr)
      case first =>
        go_wp2_with fail
        all_goals
          go_meet
          have hh := HXY.out
          refine ⟨?_, ?_, rfl⟩ <;> congr 1 <;> omega
      case rest =>
      obtain ⟨rfl, rfl, hwcr⟩ := hcut
      have hwcr := hwcr.symm
      subst hwcr
      by_cases hsk : t < at_ / size ∨ at_ / size + pcn size at_ m ≤ t
      · obtain ⟨d1, d2⟩ := doc_skip (m := m) (by omega) hsk
        rw [← HT.out] at d1
        have HN : Hid (∃ sj qj, QwS w wr lo n size c s sj q qj r F C at_ m (t + 1) B) := by
          obtain ⟨a1, a2, a3, a4, a5, a6⟩ := HJ.out
          exact ⟨sj, qj, a1, a2, a3, by rw [d2]; exact a4, by rw [d2]; exact a5, by rw [d2]; exact a6⟩
        have hYX : Y ≤ X := by have := HXY.out; omega
        have hYX2 : decide (Y ≤ X) = true := decide_eq_true hYX
        clear d1 d2 hsk htm HT HXY
        go_wp2
        go_roundg (gk - 1)
        case measure => omega
        case rel => exact ⟨t + 1, by omega, by go_num, HN⟩
      · have hsk2 : at_ / size ≤ t ∧ t < at_ / size + pcn size at_ m := by omega
        obtain ⟨j, S, d, fr, te, N, rfl, hjm, hp1, hp2, hmx, hmn⟩ := doc_piece (m := m) (by omega) (by omega) hsk2.1 hsk2.2
        rw [← HT.out] at hmx hmn
        obtain ⟨rfl, rfl⟩ : X = (fr : Int) ∧ Y = (te : Int) := ⟨HXY.out.1.symm.trans hmx, HXY.out.2.symm.trans hmn⟩
        have hSn : F + S < n := by omega
        have hsl : Hid ((secOf size A (F + S)).length = size) := secOf_length HH.out.2.2.1 hSn
        have hft := N.f1
        have hts := N.t1
        have hnl : (fr : Int) < (te : Int) := by omega
        have hnl2 : ¬ (te : Int) ≤ (fr : Int) := by omega
        have hwF : IntKind.i64.wrap ((F : Int) + (S : Int)) = (F : Int) + (S : Int) := IntWalk.i64_in _ (by omega)
        have hfull : Hid (full size at_ m j = decide (te - fr = size)) := by
          show _ = _
          unfold full
          rw [N.et, N.ef]
        have HN := hide (And.intro N (And.intro hjm (And.intro hp1 hp2)))
        have hTd : Hid ((T : Int) + (fr : Int) - (at_ : Int) = (d : Int)) := by
          have e1 := N.ed
          have e2 := N.ef
          rw [N.eS, ← HT.out] at e1 e2
          show _ = _
          omega
        have hmk := make_bytes size (by omega)
        clear hsk hsk2 htm HXY hmx hmn N hjm hp1 hp2
        have HRC : Hid (∀ (w2 w3 : World) {sy : Dv} {qy : Rk}, QgAt w2 r c F C → RDev w2 lo n size c sy qj → RM w2 w3 c qj qy → QgAt w3 r c F C) := by
          intro w2 w3 sy qy hq hd q2
          refine hq.kept q2.kept ?_
          rintro (e | e)
          · exact hd.ref.other_off hq.head (by decide) (by decide) (by decide) (by decide) e
          · have h1 := hd.dev.head
            have e : r = c := e
            rw [← e, hq.head] at h1
            simp at h1
        have hlt1 : Hid ((∀ i, rfoot qj i → i < wr.heap.size) ∧ c < wr.heap.size ∧ r < wr.heap.size) := ⟨fun i hi => (HJ.out.dev.ref.lt i hi).2, HJ.out.dev.dev.lt, HJ.out.rg.lt⟩
        have g2 := World.grownBy_alloc wr (.cells (bv (zs size)).toArray 5) none
        have hrow0 := World.ownsRow_lit (base := wr.heap.size) (e := 5) (size := 1) wr (bv (zs size)).toArray size (Nat.le_refl _) (by unfold maxLen; omega) (by simp [bv, zs])
        have HG2 := hide (And.intro g2 (by simpa using hrow0))
        clear hrow0 g2
        go_upto_if 60 with fail
        obtain ⟨w3, hw3⟩ : ∃ w3, w3 = wr.alloc (.cells (bv (zs size)).toArray 5) := ⟨_, rfl⟩
        rw [← hw3] at HG2 ⊢
        clear hw3 hmk
        have hdv3 := hide (HJ.out.dev.then HG2.out.1)
        have hrg3 := HJ.out.rg.grown HG2.out.1
        have r0 := hrg3.c0
        have r1 := hrg3.c1
        have HRG := hide hrg3
        have hmv3 := hide (HJ.out.mv.new HG2.out.1)
        clear hrg3
        go_cut [11] from 56 to 81 (fun s11 wx => ∃ g cc, s11 = .slice (some ⟨g, 0, none⟩) size cc ∧ Hid (∃ sx X0, wx.ownsRow wr.heap.size 5 1 (.slice (some ⟨g, 0, none⟩) size cc) size (bv X0) ∧ X0.length = size ∧ RDev wx lo n size c sx qj ∧ QgAt wx r c F C ∧ RM w wx c q qj ∧ RM wr wx c qj qj ∧ Fst size A F S (full size at_ m j) sj sx X0))
        case first =>
          by_cases hfl : te - fr = size
          · have hfi : ¬ (te : Int) - (fr : Int) < (size : Int) := by omega
            have hfi2 : decide ((te : Int) - (fr : Int) < (size : Int)) = false := decide_eq_false hfi
            go_wp2_with fail
            go_meet
            case rel => exact ⟨_, _, rfl, hide ⟨sj, zs size, HG2.out.2, by simp [zs], hdv3.out, HRG.out, hmv3.out, (RM.refl wr c qj).new HG2.out.1, Or.inl ⟨by rw [hfull.out]; exact decide_eq_true hfl, rfl, rfl⟩⟩⟩
          · have hfi : (te : Int) - (fr : Int) < (size : Int) := by omega
            have hfi2 : decide ((te : Int) - (fr : Int) < (size : Int)) = true := decide_eq_true hfi
            have hff : Hid (full size at_ m j = false) := by show _ = _; rw [hfull.out]; exact decide_eq_false hfl
            have hS0 := And.intro r0 r1
            have hVj : qj.V.length ≤ 900000 := by rw [HJ.out.len]; have := HN.out.2.2.1; have := HN.out.2.1; omega
            have hcj : sj.cnt < 100000 := by have := HJ.out.few; have := HN.out.2.2.1; have := HN.out.2.1; omega
            cases hgo : sj.goes with
            | false =>
              have HX : Hid (∀ w2 : World, w3.grownBy w2 none → Calls Try.prog 88 #[.pointer (some ⟨c, 0, none⟩), .int .i64 ((F : Int) + (S : Int))] w2 fun e w' => e = .returned (.tuple #[.slice none 0 0, .int .i64 60]) ∧
                  ((RDev w' lo n size c sj.next qj ∧ RM w w' c q qj) ∧ QgAt w' r c F C)) := by
                intro w2 hg2
                refine (rdread_no (hdv3.out.then hg2) hVj hcj hgo _).mono ?_
                rintro e w4 ⟨rfl, q1, q2⟩
                exact ⟨rfl, ⟨q1, (hmv3.out.new hg2).trans q2⟩, HRC.out _ _ (HRG.out.grown hg2) (hdv3.out.then hg2) q2⟩
              have hgo2 : Hid (wgo (full size at_ m) (pcn size at_ m) 0 s = (pcs0 size at_ m S, 60, sj.next)) := by
                obtain ⟨p, hp⟩ : ∃ p, pcn size at_ m - pcs0 size at_ m S = p + 1 := ⟨pcn size at_ m - pcs0 size at_ m S - 1, by have := HN.out.2.2.1; have := HN.out.2.1; omega⟩
                show _ = _
                rw [HJ.out.go, hp, wgo_step, hgo]
                rfl
              go_wp2_with fail
              go_region_held3 (fun w' => w'.cell? ⟨r, 0, none⟩ = some (.pointer (some ⟨c, 0, none⟩)) ∧ w'.cell? ⟨r, 1, none⟩ = some (.int .i64 (F : Int))) (first | assumption | go_keep) (first
                | (go_at_call 88; refine (HX.out _ (grown_drew _ _)).mono ?_; rintro e w4 ⟨rfl, hq⟩; have H4 := hide hq; clear hq; have hS4 : w4.cell? ⟨r, 0, none⟩ = some (.pointer (some ⟨c, 0, none⟩)) ∧ w4.cell? ⟨r, 1, none⟩ = some (.int .i64 (F : Int)) := ⟨H4.out.2.c0, H4.out.2.c1⟩))
              rename_i hHeld
              clear hHeld hS4
              go_wp2
              go_ret
              exact ⟨_, rfl, by rw [hgo2.out], H4.out.2, qj, by rw [hgo2.out]; exact H4.out.1.1, H4.out.1.2, by rw [hgo2.out]; exact HJ.out.st⟩
            | true =>
              have HX : Hid (∀ w2 : World, w3.grownBy w2 none → Calls Try.prog 88 #[.pointer (some ⟨c, 0, none⟩), .int .i64 ((F : Int) + (S : Int))] w2 fun e w' => ∃ g cc : Nat, e = .returned (.tuple #[.slice (some ⟨g, 0, none⟩) size cc, .int .i64 0]) ∧
                  ((At w' (some ⟨g, 0, none⟩) (secOf size A (F + S)) ∧ RDev w' lo n size c sj.next qj ∧ RM w w' c q qj ∧ RM wr w' c qj qj) ∧ QgAt w' r c F C)) := by
                intro w2 hg2
                have hFS : (F : Int) + (S : Int) = ((F + S : Nat) : Int) := by simp
                rw [hFS]
                have hrr : rrbytes n (rst qj) ((F + S : Nat) : Int) = secOf size A (F + S) := by
                  rw [← HH.out.2.2.2.1 (F + S) hSn, HJ.out.st]
                  unfold rrbytes
                  rw [if_pos (by omega), if_pos (by omega), Int.toNat_natCast, HN.out.2.2.1, ← HN.out.1.eS, finds_pcs]
                refine (rdread_go (hdv3.out.then hg2) hVj hcj hgo (F + S) hSn _ hrr hsl.out).mono ?_
                rintro e w4 ⟨g, cc, rfl, q0, q1, q2, q3⟩
                exact ⟨g, cc, rfl, ⟨q1, q2, (hmv3.out.new hg2).trans q3, RM.pre (grown_trans HG2.out.1 hg2) q3⟩, HRC.out _ _ (HRG.out.grown hg2) (hdv3.out.then hg2) q3⟩
              go_wp2_with fail
              go_region_held3 (fun w' => w'.cell? ⟨r, 0, none⟩ = some (.pointer (some ⟨c, 0, none⟩)) ∧ w'.cell? ⟨r, 1, none⟩ = some (.int .i64 (F : Int))) (first | assumption | go_keep) (first
                | (go_at_call 88; refine (HX.out _ (grown_drew _ _)).mono ?_; rintro e w4 ⟨g, cc, rfl, hq⟩; have H4 := hide hq; clear hq; have hS4 : w4.cell? ⟨r, 0, none⟩ = some (.pointer (some ⟨c, 0, none⟩)) ∧ w4.cell? ⟨r, 1, none⟩ = some (.int .i64 (F : Int)) := ⟨H4.out.2.c0, H4.out.2.c1⟩))
              rename_i hHeld
              clear hHeld hS4
              have hz4 : wr.heap.size ≤ w4.heap.size := H4.out.1.2.2.2.kept.size
              have hown0 : Hid ((w4.alloc (.cells #[] 5)).ownsRow wr.heap.size 5 1 (.slice (some ⟨w4.heap.size, 0, none⟩) 0 0) 0 (bv [])) := World.ownsRow_lit (base := wr.heap.size) (e := 5) (size := 1) w4 #[] 0 hz4 (by unfold maxLen; omega) rfl
              have hnil4 : Hid ((some ⟨g, 0, none⟩ : Option Addr) = none → size = 0 ∧ cc = 0) := fun e => by cases e
              have hsz4 : Hid (0 + size ≤ 140737488355328) := by show _ ≤ _; omega
              have hat4 := hide (H4.out.1.1.grown (World.grownBy_alloc w4 (.cells #[] 5) none))
              have hb4 : Hid (wr.heap.size ≤ (w4.alloc (.cells #[] 5)).heap.size) := by show _ ≤ _; rw [World.size_alloc]; omega
              go_wp2_with (at_builtin; refine wpList_append_at rfl (.tmp 79) (.tmp 80) rfl wr.heap.size (.slice (some ⟨w4.heap.size, 0, none⟩) 0 0) 0 [] rfl hown0.out (some ⟨g, 0, none⟩) size cc (secOf size A (F + S)) rfl hsl.out hat4.out hnil4.out hsz4.out hb4.out ?_)
              · intro v' w5 ho5 hg5
                have hg45 : w4.grownBy w5 none := grown_then (World.grownBy_alloc w4 _ none) hg5 (fun k e => by cases e; exact Or.inl (Nat.le_refl _))
                obtain ⟨vo, vc, hvf, hvg, _⟩ := own_form ho5
                obtain ⟨g5, rfl⟩ := hvg (by omega)
                have H5 := hide (And.intro ho5 hg45)
                subst hvf
                clear ho5 hg5 hg45
                go_wp2_with fail
                go_meet
                case rel => exact ⟨_, _, rfl, hide ⟨sj.next, secOf size A (F + S), H5.out.1, hsl.out, H4.out.1.2.1.then H5.out.2, H4.out.2.grown H5.out.2, H4.out.1.2.2.1.new H5.out.2, H4.out.1.2.2.2.new H5.out.2, Or.inr ⟨hff.out, hgo, rfl, rfl⟩⟩⟩
        case rest =>
        obtain ⟨g, cc, rfl, HC⟩ := hcut
        clear HG2 hdv3 HRG hmv3 r0 r1 r2
        obtain ⟨sx, X0, hC⟩ := HC.out
        have HC2 := hide hC
        clear hC HC
        obtain ⟨ba, hba⟩ : ∃ ba, ao = some ba := by
          have hm0 : 0 < xs.length := by have := HN.out.1.d1; have := HM.out; omega
          obtain ⟨u, hu⟩ : ∃ u, xs[0]? = some u := ⟨_, List.getElem?_eq_getElem hm0⟩
          obtain ⟨a, ha, _⟩ := HH.out.2.2.2.2.1 0 u hu
          exact ⟨a, ha⟩
        subst hba
        have hat0 : Hid (At wc (some ba) xs) := at_rm HH.out.2.2.2.2.1 HC2.out.2.2.2.2.1 HH.out.2.2.2.2.2
        have hblt : Hid (ba.block < wr.heap.size) := by
          have hm0 : 0 < xs.length := by have := HN.out.1.d1; have := HM.out; omega
          obtain ⟨u, hu⟩ : ∃ u, xs[0]? = some u := ⟨_, List.getElem?_eq_getElem hm0⟩
          obtain ⟨a, ha, hca⟩ := (at_rm HH.out.2.2.2.2.1 HJ.out.mv HH.out.2.2.2.2.2) 0 u hu
          cases ha
          have := cell_lt hca
          rw [addr_add_block] at this
          exact this
        go_wp2
        go_loopg [14] (te - fr) (fun k i wl => ∃ e : Nat, k + e = te - fr ∧ i = .int .i64 ((fr + e : Nat) : Int) ∧ Hid (wl.ownsRow wr.heap.size 5 1 (.slice (some ⟨g, 0, none⟩) size cc) size (bv (splice X0 fr ((xs.drop d).take e))) ∧ wc.grownBy wl (some g)))
        case atStart => exact ⟨0, by omega, by simp, hide ⟨by rw [List.take_zero, splice_nil]; exact HC2.out.1, grown_refl _ _⟩⟩
        case round =>
          obtain ⟨e, hke, rfl, HL⟩ := hrel
          have hdl := HN.out.1.d1
          have hnx := HN.out.1.nx
          have hmx : d + (te - fr) ≤ m := by omega
          have hXl := HC2.out.2.1
          by_cases hk2 : 0 < gk
          · have hei : (fr : Int) + (e : Int) < (te : Int) := by omega
            have hes : fr + e < size := by omega
            obtain ⟨u, hu⟩ : ∃ u, xs[d + e]? = some u := ⟨_, List.getElem?_eq_getElem (by have := HM.out; omega)⟩
            have hsp : (splice X0 fr ((xs.drop d).take e)).length = size := by
              rw [length_splice _ _ _ (by simp only [List.length_take, List.length_drop]; omega), hXl]
            have hrowc := HL.out.1.cellAt (fr + e) (by omega)
            obtain ⟨y, hy⟩ : ∃ y, (splice X0 fr ((xs.drop d).take e))[fr + e]? = some y := ⟨_, List.getElem?_eq_getElem (by omega)⟩
            rw [bv_get _ _ _ hy] at hrowc
            have hfz := HL.out.1.frozenAt (fr + e)
            have hgne : Hid (ba.block ≠ g) := by
              have h1 := (HC2.out.1.lt g rfl).1
              have h2 := hblt.out
              show _ ≠ _
              omega
            obtain ⟨a', ha', hbc⟩ := hat0.out (d + e) u hu
            cases ha'
            have hbl : wr.cell? (ba.add (d + e)) = some (.int .u8 (u : Int)) := HL.out.2.cell hbc (by rw [addr_add_block]; intro e; exact hgne.out (Option.some.inj e))
            have hidx : (T : Int) + ((fr : Int) + (e : Int)) - (at_ : Int) = ((d + e : Nat) : Int) := by have := hTd.out; omega
            have hset : Hid ((splice X0 fr ((xs.drop d).take e)).set (fr + e) u = splice X0 fr ((xs.drop d).take (e + 1))) := splice_set X0 (xs.drop d) fr e u (by rw [List.getElem?_drop]; exact hu) (by omega)
            have HST := hide HL.out.1
            have hz1 : (0 : Int) ≤ (d : Int) + (e : Int) := by omega
            have hz2 : (d : Int) + (e : Int) < (m : Int) := by omega
            have hz3 : d + e < m := by omega
            clear hu hy hbc hsp hXl hnx hmx
            go_wp2
            go_roundg (gk - 1)
            case measure => omega
            case rel =>
              have hst := HST.out.stored (fr + e) (.int .u8 (u : Int))
              refine ⟨e + 1, by omega, by congr 1, hide ⟨?_, grown_trans HL.out.2 (grown_setCell _ _ _ _)⟩⟩
              have h1 := hst.1
              rw [← bv_set, hset.out] at h1
              exact h1
          · have hee : e = te - fr := by omega
            have hei : ¬ (fr : Int) + (e : Int) < (te : Int) := by omega
            have hfitA : F * size + at_ + m ≤ n * size := by
              have : (F + C) * size ≤ n * size := Nat.mul_le_mul_right _ hFC
              rw [Nat.add_mul] at this
              omega
            have hsecB : splice X0 fr ((xs.drop d).take e) = secOf size B (F + S) := by
              rw [hee, HB.out]
              refine piece_sec (sj := sj) (sx := sx) HN.out.1 (by omega) HH.out.2.2.1 HN.out.2.1 HM.out hfitA hSn hXl ?_
              have hF := HC2.out.2.2.2.2.2.2
              unfold Fst at hF
              rw [hfull.out] at hF
              exact hF
            have hown9 := HL.out.1
            rw [hsecB] at hown9
            have hgo9 : ∀ i, rfoot qj i ∨ i = c ∨ i = r → i ≠ g := by
              intro i hi e9
              have h1 := (HC2.out.1.lt g rfl).1
              rcases hi with h2 | h2 | h2
              · have := hlt1.out.1 i h2; omega
              · have := hlt1.out.2.1; omega
              · have := hlt1.out.2.2; omega
            have hk9 : Kept wc wr (fun i => i = g) := Kept.of HL.out.2 (fun j e _ => (Option.some.inj e).symm)
            have hdev9 : RDev wr lo n size c sx qj := ⟨HC2.out.2.2.1.ref.kept hk9 (fun i hi e => hgo9 i (.inl hi) e), HC2.out.2.2.1.dev.kept hk9 (fun e => hgo9 c (.inr (.inl rfl)) e), HC2.out.2.2.1.low⟩
            have hrg9 : QgAt wr r c F C := HC2.out.2.2.2.1.kept hk9 (fun e => hgo9 r (.inr (.inr rfl)) e)
            have hmv9 : RM w wr c q qj := by
              refine ⟨HC2.out.2.2.2.2.1.r, HC2.out.2.2.2.2.1.rf, HC2.out.2.2.2.2.1.kept.trans hk9 (fun i hi e => ?_)⟩
              have e : i = g := e
              have h1 := (HC2.out.1.lt g rfl).1
              have h2 := HJ.out.mv.kept.size
              omega
            have hsB : (secOf size B (F + S)).length = size := by
              rw [HB.out]
              refine secOf_length (n := n) ?_ hSn
              rw [length_splice _ _ _ (by have := HM.out; have := HH.out.2.2.1; omega)]
              exact HH.out.2.2.1
            have hat9 : At wr (some ⟨g, 0, none⟩) (secOf size B (F + S)) := by
              intro i u hu
              refine ⟨_, rfl, ?_⟩
              have hi := (List.getElem?_eq_some_iff.1 hu).1
              rw [Addr.add_lit, Nat.zero_add, hown9.cellAt i (by omega)]
              exact bv_get _ _ _ hu
            have hVj : qj.V.length ≤ 900000 := by rw [HJ.out.len]; have := HN.out.2.2.1; have := HN.out.2.1; omega
            have hcx : sx.cnt < 100000 := by
              have h1 := HJ.out.few
              have h2 := HN.out.2.2.1
              have h3 := HN.out.2.1
              rcases HC2.out.2.2.2.2.2.2 with ⟨_, h4, _⟩ | ⟨_, _, h4, _⟩
              · rw [h4]; omega
              · rw [h4]; have := Dv.next_le sj; omega
            have hlo9 : lo ≤ wr.heap.size := Nat.le_of_lt (Nat.lt_of_le_of_lt hdev9.low hdev9.dev.lt)
            have HW : Hid (∀ w2 : World, wr.grownBy w2 none → Calls Try.prog 89 #[.pointer (some ⟨c, 0, none⟩), .int .i64 ((F : Int) + (S : Int)), .slice (some ⟨g, 0, none⟩) size cc] w2 fun e w' => e = .returned (.int .i64 (sx.code 0)) ∧ ((∃ q2, RDev w' lo n size c sx.next q2 ∧ RM w w' c q q2 ∧ rst q2 = (if sx.goes then ((rst qj).1, (rst qj).2 ++ [(F + S, secOf size B (F + S))]) else rst qj)) ∧ QgAt w' r c F C)) := by
              intro w2 hg2
              have hFS : (F : Int) + (S : Int) = ((F + S : Nat) : Int) := by simp
              have hwc : wcode n size ((F + S : Nat) : Int) size = 0 := by unfold wcode; rw [if_pos (by omega), if_pos rfl]
              have hwa : wabs n size ((F + S : Nat) : Int) (secOf size B (F + S)) (rst qj).2 = (rst qj).2 ++ [(F + S, secOf size B (F + S))] := by
                unfold wabs; rw [if_pos (by omega), if_pos hsB, Int.toNat_natCast]
              rw [hFS]
              have h1 := rdwrite_any (hdev9.then hg2) (Nat.le_trans hlo9 hg2.size) hVj hcx ((F + S : Nat) : Int) (some ⟨g, 0, none⟩) size cc (secOf size B (F + S)) (hat9.grown hg2) hsB (fun e => by cases e)
              rw [hwc, hwa] at h1
              refine h1.mono ?_
              rintro e w4 ⟨rfl, q2, q3, q4, q5⟩
              exact ⟨rfl, ⟨q2, q3, (hmv9.new hg2).trans q4, q5⟩, HRC.out _ _ (hrg9.grown hg2) (hdev9.then hg2) q4⟩
            have r0 := hrg9.c0
            have r1 := hrg9.c1
            have hS0 := And.intro r0 r1
            obtain ⟨p, hp⟩ : ∃ p, pcn size at_ m - pcs0 size at_ m S = p + 1 := ⟨pcn size at_ m - pcs0 size at_ m S - 1, by have := HN.out.2.2.1; have := HN.out.2.1; omega⟩
            have HGO := HJ.out.go
            rw [hp, wgo_step, HN.out.2.2.1] at HGO
            have HP : Hid (pcn size at_ m - (j + 1) = p) := by have := HN.out.2.2.1; show _ = _; omega
            have HCs := hide HC2.out.2.2.2.2.2.2
            cases hgx : sx.goes with
            | false =>
              have hcode : sx.code 0 = 60 := Dv.code_no hgx
              rw [hcode, hgx] at HW
              have hend : Hid (wgo (full size at_ m) (pcn size at_ m) 0 s = (j, 60, sx.next)) := by
                show _ = _
                rw [HGO]
                rcases HCs.out with ⟨h1, h2, _⟩ | ⟨h1, h3, h2, _⟩
                · rw [h2] at hgx
                  rw [hgx, h2]
                  rfl
                · rw [h2] at hgx
                  rw [h3, h1, hgx, h2]
                  rfl
              clear HGO hown9 hk9 hdev9 hrg9 hmv9 hat9 hsecB HL HC2 hgo9 hcode hXl hnx hmx hp
              go_wp2_with fail
              go_region_held3 (fun w' => w'.cell? ⟨r, 0, none⟩ = some (.pointer (some ⟨c, 0, none⟩)) ∧ w'.cell? ⟨r, 1, none⟩ = some (.int .i64 (F : Int))) (first | assumption | go_keep) (first
                | (go_at_call 89; refine (HW.out _ (grown_drew _ _)).mono ?_; rintro e w4 ⟨rfl, hq⟩; have H4 := hide hq; clear hq; have hS4 : w4.cell? ⟨r, 0, none⟩ = some (.pointer (some ⟨c, 0, none⟩)) ∧ w4.cell? ⟨r, 1, none⟩ = some (.int .i64 (F : Int)) := ⟨H4.out.2.c0, H4.out.2.c1⟩))
              rename_i hHeld
              clear hHeld hS4
              go_wp2
              go_ret
              obtain ⟨⟨q2, q3, q4, q5⟩, q6⟩ := H4.out
              exact ⟨_, rfl, by rw [hend.out], q6, q2, by rw [hend.out]; exact q3, q4, by rw [hend.out, q5]; have := HJ.out.st; rw [HN.out.2.2.1] at this; exact this⟩
            | true =>
              have hcode : sx.code 0 = 0 := Dv.code_ok hgx
              rw [hcode, hgx] at HW
              have hgo10 : Hid (wgo (full size at_ m) (pcn size at_ m) 0 s = (j + 1 + (wgo (full size at_ m) p (j + 1) sx.next).1, (wgo (full size at_ m) p (j + 1) sx.next).2)) := by
                show _ = _
                rw [HGO]
                rcases HCs.out with ⟨h1, h2, _⟩ | ⟨h1, h3, h2, _⟩
                · rw [h2] at hgx
                  rw [hgx, h1, h2]
                  simp only [if_true]
                  refine Prod.ext ?_ rfl
                  simp only
                  omega
                · rw [h2] at hgx
                  rw [h3, h1, hgx, h2]
                  simp only [if_true]
                  refine Prod.ext ?_ rfl
                  show j + ((wgo (full size at_ m) p (j + 1) sj.next.next).1 + 1) = _
                  omega
              have hfew : Hid (sx.next.cnt ≤ s.cnt + 2 * (j + 1)) := by
                have h1 := HJ.out.few
                have h2 := HN.out.2.2.1
                have h5 := Dv.next_le sx
                rw [h2] at h1
                rcases HCs.out with ⟨_, h4, _⟩ | ⟨_, _, h4, _⟩
                · rw [h4] at h5 ⊢; show _ ≤ _; omega
                · rw [h4] at h5 ⊢; have := Dv.next_le sj; show _ ≤ _; omega
              clear HGO hown9 hk9 hdev9 hrg9 hmv9 hat9 hsecB HL HC2 hgo9 hcode hXl hnx hmx hp
              go_wp2_with fail
              go_region_held3 (fun w' => w'.cell? ⟨r, 0, none⟩ = some (.pointer (some ⟨c, 0, none⟩)) ∧ w'.cell? ⟨r, 1, none⟩ = some (.int .i64 (F : Int))) (first | assumption | go_keep) (first
                | (go_at_call 89; refine (HW.out _ (grown_drew _ _)).mono ?_; rintro e w4 ⟨rfl, hq⟩; have H4 := hide hq; clear hq; have hS4 : w4.cell? ⟨r, 0, none⟩ = some (.pointer (some ⟨c, 0, none⟩)) ∧ w4.cell? ⟨r, 1, none⟩ = some (.int .i64 (F : Int)) := ⟨H4.out.2.c0, H4.out.2.c1⟩))
              rename_i hHeld
              clear hHeld hS4
              have HNext : Hid (∃ sj qj, QwS w w4 lo n size c s sj q qj r F C at_ m (S + 1) B) := by
                obtain ⟨⟨q2, q3, q4, q5⟩, q6⟩ := H4.out
                have e1 := HN.out.2.2.2
                refine ⟨sx.next, q2, q3, q6, q4, ?_, ?_, ?_⟩
                · rw [q5, e1, pcs_succ, ← List.append_assoc]
                  have h1 := HJ.out.st
                  rw [HN.out.2.2.1] at h1
                  rw [h1, HN.out.1.eS]
                  rfl
                · rw [e1, HP.out]; exact hgo10.out
                · rw [e1]; exact hfew.out
              clear HJ H4 HW hgo10 hfew HP HCs
              go_wp2
              go_roundg (C - (S + 1))
              case measure => omega
              case rel => exact ⟨S + 1, by omega, by go_num, HNext⟩
    · obtain rfl : t = C := by omega
      have he := doc_end (m := m) (show 0 < size by omega) hfit
      obtain ⟨a1, a2, a3, a4, a5, a6⟩ := HJ.out
      rw [he, Nat.sub_self] at a5
      simp only [wgo, Nat.add_zero] at a5
      have H6 : Hid ((wgo (full size at_ m) (pcn size at_ m) 0 s) = (pcn size at_ m, 0, sj) ∧ RDev wr lo n size c sj qj ∧ RM w wr c q qj ∧ QgAt wr r c F t ∧ rst qj = ((rst q).1, (rst q).2 ++ pcs size F at_ B (pcn size at_ m))) := ⟨a5, a1, a3, a2, by rw [a4, he]⟩
      clear a1 a2 a3 a4 a5 a6 HJ
      go_wp2
      go_ret
      exact ⟨_, rfl, by rw [H6.out.1], H6.out.2.2.2.1, qj, by rw [H6.out.1]; exact H6.out.2.1, H6.out.2.2.1, by rw [H6.out.1]; exact H6.out.2.2.2.2⟩
end
end Go.Proofs.Ytnonghacjfgnmaa
