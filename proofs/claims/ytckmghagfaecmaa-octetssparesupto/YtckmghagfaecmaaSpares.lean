/- OctetsSpares' walk. -/
import Derived.Test.YtckmghagfaecmaaSpares0
namespace Go.Proofs.Ytckmghagfaecmaa
open Go.RowKit
attribute [local go_sem ↓] Go.wp_at_zero Go.wp_at_succ

/-- What is there when all is put and taken: writers, rows, and where the rows' blocks lie. -/
structure St (w0 w : World) (W T D : Nat) (b more : List Int) (ao : Option Addr) (n m k : Nat) (vin x y rest same want last : Value) (s0 s1 s2 s3 s4 s5 s6 s7 : Nat) : Prop where
  ws : Ws w0 w W T D (b ++ [7] ++ more ++ [1]) (b ++ more) (b ++ [7] ++ more)
  at0 : At w ao b
  vin : Row w vin n b s0 s1
  x : Row w x k (b.take k) s1 s2
  y : Row w y k (b.take k) s2 s3
  rest : Row w rest (n - k) (b.drop k) s3 s4
  same : Row w same (n - k) (b.drop k) s4 s5
  want : Row w want (n + m) (b ++ more) s5 s6
  last : Row w last (n + 1 + m + 1) (b ++ [7] ++ more ++ [1]) s6 s7
  le : w0.heap.size ≤ s0 ∧ s0 ≤ s1 ∧ s1 ≤ s2 ∧ s2 ≤ s3 ∧ s3 ≤ s4 ∧ s4 ≤ s5 ∧ s5 ≤ s6 ∧ s6 ≤ s7 ∧ s7 ≤ w.heap.size
theorem St.kept {w0 w w' : World} {W T D : Nat} {b more : List Int} {ao : Option Addr} {n m k : Nat} {vin x y rest same want last : Value} {s0 s1 s2 s3 s4 s5 s6 s7 : Nat}
    (h : St w0 w W T D b more ao n m k vin x y rest same want last s0 s1 s2 s3 s4 s5 s6 s7) (hg : w.grownBy w' none) : St w0 w' W T D b more ao n m k vin x y rest same want last s0 s1 s2 s3 s4 s5 s6 s7 :=
  ⟨h.ws.kept hg, h.at0.kept hg (by simp), h.vin.kept hg, h.x.kept hg, h.y.kept hg, h.rest.kept hg, h.same.kept hg, h.want.kept hg, h.last.kept hg, by have := h.le; have := hg.size; omega⟩

theorem at_front {w : World} {a : Option Addr} {xs ys : List Int} (h : At w a (xs ++ ys)) : At w a xs := fun j u hu => h j u (by rw [List.getElem?_append_left (List.getElem?_eq_some_iff.1 hu).1, hu])
theorem takeF_some (b : List Int) (k : Nat) (h : k ≤ b.length) : takeF b 0 (k : Int) = (b.take k, b.drop k, 0) := by
  unfold takeF
  simp only [ne_eq, not_true_eq_false, if_false]
  rw [if_neg (by omega), if_neg (by omega)]
  simp
theorem takeF_all (b : List Int) (n : Int) (h : n = (b.length : Int)) : takeF b 0 n = (b, [], 0) := by
  subst h
  rw [takeF_some b b.length (Nat.le_refl _)]
  simp

/-- Of's readers: one is asked, the other stays. -/
theorem off_new {a : Option Addr} {g : Nat} (h : ∀ x, a = some x → g < x.block) : Off a g := fun x hx e => by have := h x hx; omega

set_option maxRecDepth 100000 in
set_option maxHeartbeats 4000000 in
theorem spares_any (ao bo : Option Addr) (n c m d : Nat) (b more : List Int) (N : Int) (w : World) (hn : b.length = n) (hm : more.length = m) (hat : At w ao b) (hbt : At w bo more) (hna : ao = none → n = 0 ∧ c = 0) (hnb : bo = none → m = 0 ∧ d = 0) (hnl : n ≤ 1048576) (hml : m ≤ 1048576) :
    Calls Try.prog 8 #[.slice ao n c, .slice bo m d, .int .i64 N] w fun e w' => e = .returned (.bool true) ∧ w.grownBy w' none := by
  have H := hide (And.intro hn (And.intro hm (And.intro hat (And.intro hbt (And.intro hna hnb)))))
  have hn0 : (0 : Int) ≤ (n : Int) := by omega
  have hn1 : (n : Int) ≤ 1048576 := by omega
  clear hn hm hat hbt hna hnb
  go_enter Try.func8, Try.ntmps8
  go_wp2_with fail
  have hW0 := wr_zero w
  have gA := World.grownBy_alloc w (.cells Try.zeroCells53 53) none
  have zA : (w.alloc (.cells Try.zeroCells53 53)).heap.size = w.heap.size + 1 := by simp
  obtain ⟨W, hWe⟩ : ∃ W, W = w.heap.size := ⟨_, rfl⟩
  rw [← hWe] at hW0 zA ⊢
  generalize w.alloc (.cells Try.zeroCells53 53) = wA at *
  have HA := hide (And.intro hW0 (And.intro gA (And.intro zA hWe)))
  clear hW0 gA zA hWe
  obtain ⟨hn, hm, hat, hbt, hna, hnb⟩ := H.out
  refine (copy_any ao n c b wA hn (hat.kept HA.out.2.1 (by simp)) hna (by omega)).mono ?_
  rintro e w1 ⟨v1, rfl, hown, hg⟩
  obtain ⟨a1, c1, rfl, -, hc1, hc2, hat1, -, hbl⟩ := own_at hown
  have H1 := hide (And.intro hat1 (And.intro (And.intro hc1 hc2) (And.intro (fun a e => (hbl a e).1 : ∀ a, a1 = some a → wA.heap.size ≤ a.block) hg)))
  clear hn hm hat hbt hna hnb hown hc1 hc2 hat1 hbl hg
  go_wp2_with fail
  refine (put_any W n [] b a1 c1 w1 (HA.out.1.kept H1.out.2.2.2 (by simp) (NoBlock.none _)) H.out.1 H1.out.1 (off_new (fun x hx => by have := H1.out.2.2.1 x hx; have := HA.out.2.2.1; omega)) H1.out.2.1.1 H1.out.2.1.2 (by simp; omega)).mono ?_
  rintro e w2 ⟨rfl, hW2, hg2⟩
  rw [List.nil_append] at hW2
  have G2 : w.grownBy w2 none := grown_then (grown_trans HA.out.2.1 H1.out.2.2.2) hg2 (fun k e => by cases e; exact Or.inl (Nat.le_of_eq HA.out.2.2.2.symm))
  have hlW : w.heap.size ≤ W := Nat.le_of_eq HA.out.2.2.2.symm
  obtain ⟨row, r1, r2, r3, r4, r5, r6, r7⟩ := sp_twin hW2
  have H2 := hide (And.intro hW2 (And.intro G2 (And.intro r6 r7)))
  have HM := hide (And.intro r1 (And.intro r2 (And.intro r3 (And.intro r4 r5))))
  have hWT : W < w2.heap.size := hW2.lt
  clear hW2 hg2 G2 r1 r2 r3 r4 r5 r6 r7 H1 HA
  go_wp2_with (first | (refine wpList_load_mid rfl 53 (.tmp 7) rfl W 0 rfl row _ HM.out.1 Try.underlying53 rfl HM.out.2.1 ?_) | (refine wpList_store_mid rfl 53 (.tmp 8) (.tmp 26) rfl w2.heap.size 0 row.toArray rfl rfl HM.out.2.2.1 HM.out.2.2.2.1 HM.out.2.2.2.2 ?_) | fail)
  obtain ⟨T, hTe⟩ : ∃ T, T = w2.heap.size := ⟨_, rfl⟩
  have hT3 := H2.out.2.2.1
  have hg3 := H2.out.2.2.2
  rw [← hTe] at hT3 hg3 hWT ⊢
  generalize (w2.alloc (.cells Try.zeroCells53 53)).setCells T 0 row = w3 at *
  have hlT : w.heap.size ≤ T := by have := H2.out.2.1.size; omega
  have H3 := hide (And.intro (H2.out.1.kept hg3 (by simp) (NoBlock.none _)) (And.intro hT3 (grown_trans H2.out.2.1 hg3)))
  clear hT3 hg3 H2 HM hTe
  refine (copy_any bo m d more w3 H.out.2.1 (H.out.2.2.2.1.kept H3.out.2.2 (by simp)) H.out.2.2.2.2.2 (by omega)).mono ?_
  rintro e w4 ⟨v4, rfl, hown, hg⟩
  obtain ⟨a4, c4, rfl, -, hc1, hc2, hat4, -, hbl⟩ := own_at hown
  have H4 := hide (And.intro hat4 (And.intro (And.intro hc1 hc2) (And.intro (fun a e => (hbl a e).1 : ∀ a, a4 = some a → w3.heap.size ≤ a.block) hg)))
  clear hown hc1 hc2 hat4 hbl hg
  go_wp2_with fail
  refine (put_any T m b more a4 c4 w4 (H3.out.2.1.kept H4.out.2.2.2 (by simp) (NoBlock.none _)) H.out.2.1 H4.out.1 (off_new (fun x hx => by have := H4.out.2.2.1 x hx; have := H3.out.2.1.lt; omega)) H4.out.2.1.1 H4.out.2.1.2 (by rw [H.out.1]; omega)).mono ?_
  rintro e w5 ⟨rfl, hT5, hg5⟩
  have hW5 : WrAt w5 W b := (H3.out.1.kept H4.out.2.2.2 (by simp) (NoBlock.none _)).kept hg5 (by simp; omega) (H3.out.2.1.kept H4.out.2.2.2 (by simp) (NoBlock.none _)).noBlock
  have H5 := hide (And.intro hW5 (And.intro hT5 (grown_then (grown_trans H3.out.2.2 H4.out.2.2.2) hg5 (fun k e => by cases e; exact Or.inl hlT) : w.grownBy w5 none)))
  clear hT5 hg5 hW5 H3 H4
  go_wp2_with fail
  refine (byte_any W b 7 w5 H5.out.1 (by rw [H.out.1]; omega)).mono ?_
  rintro e w6 ⟨rfl, hW6, hg6⟩
  have hT6 : WrAt w6 T (b ++ more) := H5.out.2.1.kept hg6 (by simp; omega) H5.out.1.noBlock
  have G6 : w.grownBy w6 none := grown_then H5.out.2.2 hg6 (fun k e => by cases e; exact Or.inl hlW)
  obtain ⟨row6, r1, r2, r3, r4, r5, r6, r7⟩ := sp_twin hW6
  have H6 := hide (And.intro hW6 (And.intro hT6 (And.intro G6 (And.intro r6 r7))))
  have HM6 := hide (And.intro r1 (And.intro r2 (And.intro r3 (And.intro r4 r5))))
  have hTD : T < w6.heap.size := hT6.lt
  clear hW6 hg6 hT6 G6 r1 r2 r3 r4 r5 r6 r7 H5
  go_wp2_with (first | (refine wpList_load_mid rfl 53 (.tmp 7) rfl W 0 rfl row6 _ HM6.out.1 Try.underlying53 rfl HM6.out.2.1 ?_) | (refine wpList_store_mid rfl 53 (.tmp 9) (.tmp 31) rfl w6.heap.size 0 row6.toArray rfl rfl HM6.out.2.2.1 HM6.out.2.2.2.1 HM6.out.2.2.2.2 ?_) | fail)
  obtain ⟨D, hDe⟩ : ∃ D, D = w6.heap.size := ⟨_, rfl⟩
  have hD7 := H6.out.2.2.2.1
  have hg7 := H6.out.2.2.2.2
  rw [← hDe] at hD7 hg7 hTD ⊢
  generalize (w6.alloc (.cells Try.zeroCells53 53)).setCells D 0 row6 = w7 at *
  have hlD : w.heap.size ≤ D := by have := H6.out.2.2.1.size; omega
  have H7 : Hid (Ws w w7 W T D (b ++ [7]) (b ++ more) (b ++ [7])) := ⟨H6.out.1.kept hg7 (by simp) (NoBlock.none _), H6.out.2.1.kept hg7 (by simp) (NoBlock.none _), hD7, ⟨by omega, by omega, by omega⟩, ⟨hlW, hlT, hlD⟩, grown_trans H6.out.2.2.1 hg7⟩
  clear hD7 hg7 H6 HM6 hDe
  refine (copy_any bo m d more w7 H.out.2.1 (H.out.2.2.2.1.kept H7.out.grown (by simp)) H.out.2.2.2.2.2 (by omega)).mono ?_
  rintro e w8 ⟨v8, rfl, hown, hg⟩
  obtain ⟨a8, c8, rfl, -, hc1, hc2, hat8, -, hbl⟩ := own_at hown
  have H8 := hide (And.intro hat8 (And.intro (And.intro hc1 hc2) (And.intro (fun a e => (hbl a e).1 : ∀ a, a8 = some a → w7.heap.size ≤ a.block) hg)))
  clear hown hc1 hc2 hat8 hbl hg
  go_wp2_with fail
  have K8 := hide (H7.out.kept H8.out.2.2.2)
  refine (put_any D m (b ++ [7]) more a8 c8 w8 K8.out.wd H.out.2.1 H8.out.1 (off_new (fun x hx => by have := H8.out.2.2.1 x hx; have := H7.out.wd.lt; omega)) H8.out.2.1.1 H8.out.2.1.2 (by simp [H.out.1]; omega)).mono ?_
  rintro e w9 ⟨rfl, hD9, hg9⟩
  have H9 := hide (K8.out.putD hD9 hg9)
  clear hD9 hg9 H7 H8 K8
  go_wp2_with fail
  refine (copy_any bo m d more w9 H.out.2.1 (H.out.2.2.2.1.kept H9.out.grown (by simp)) H.out.2.2.2.2.2 (by omega)).mono ?_
  rintro e w10 ⟨v10, rfl, hown, hg⟩
  obtain ⟨a10, c10, rfl, -, hc1, hc2, hat10, -, hbl⟩ := own_at hown
  have H10 := hide (And.intro hat10 (And.intro (And.intro hc1 hc2) (And.intro (fun a e => (hbl a e).1 : ∀ a, a10 = some a → w9.heap.size ≤ a.block) hg)))
  clear hown hc1 hc2 hat10 hbl hg
  go_wp2_with fail
  have K10 := hide (H9.out.kept H10.out.2.2.2)
  refine (put_any W m (b ++ [7]) more a10 c10 w10 K10.out.ww H.out.2.1 H10.out.1 (off_new (fun x hx => by have := H10.out.2.2.1 x hx; have := H9.out.ww.lt; omega)) H10.out.2.1.1 H10.out.2.1.2 (by simp [H.out.1]; omega)).mono ?_
  rintro e w11 ⟨rfl, hW11, hg11⟩
  have H11 := hide (K10.out.putW hW11 hg11)
  clear hW11 hg11 H9 H10 K10
  go_wp2_with fail
  refine (byte_any W (b ++ [7] ++ more) 1 w11 H11.out.ww (by simp [H.out.1, H.out.2.1]; omega)).mono ?_
  rintro e w12 ⟨rfl, hW12, hg12⟩
  have H12 := hide (H11.out.putW hW12 hg12)
  clear hW12 hg12 H11
  go_wp2_with fail
  refine (copy_any ao n c b w12 H.out.1 (H.out.2.2.1.kept H12.out.grown (by simp)) H.out.2.2.2.2.1 (by omega)).mono ?_
  rintro e w13 ⟨vin, rfl, hown, hg13⟩
  have hrin := Row.of hown
  obtain ⟨ai, ci, rfl, -, -, -, hati, hnili⟩ := hrin.at
  have H13 := hide (And.intro hrin (And.intro (H12.out.kept hg13) (And.intro hati hnili)))
  have z13 : w12.heap.size ≤ w13.heap.size := hg13.size
  have z12 : w.heap.size ≤ w12.heap.size := H12.out.grown.size
  clear hown hg13 hrin hati hnili H12
  go_wp2_with fail
  refine (of_any ai n ci b w13 H.out.1 H13.out.2.2.1 H13.out.2.2.2 (by omega)).mono ?_
  rintro e w14 ⟨R, rfl, hR, hRd, hg14⟩
  have H14 := hide (And.intro (H13.out.1.kept hg14) (And.intro (H13.out.2.1.kept hg14) (And.intro hRd (And.intro (H13.out.2.2.1.kept hg14 (by simp)) H13.out.2.2.2))))
  have z14 : w13.heap.size ≤ w14.heap.size := hg14.size
  have hWR : W < w13.heap.size ∧ T < w13.heap.size ∧ D < w13.heap.size := ⟨H13.out.2.1.ww.lt, H13.out.2.1.wt.lt, H13.out.2.1.wd.lt⟩
  clear hRd hg14 H13
  go_wp2_with fail
  refine (of_any ai n ci b w14 H.out.1 H14.out.2.2.2.1 H14.out.2.2.2.2 (by omega)).mono ?_
  rintro e w15 ⟨S, rfl, hS, hSd, hg15⟩
  have hRS : R < S := by have := H14.out.2.2.1.lt; omega
  have H15 := hide (And.intro (H14.out.1.kept hg15) (And.intro (H14.out.2.1.kept hg15) (And.intro (H14.out.2.2.1.kept hg15 (by simp) (NoBytes.none _)) hSd)))
  have z15 : w14.heap.size ≤ w15.heap.size := hg15.size
  clear hSd hg15 H14
  go_wp2_with fail
  refine (pick_any N ((n : Int) + 1) (n + 1) w15 (by omega) (by omega) (by omega)).mono ?_
  rintro e w15' ⟨rfl, rfl⟩
  obtain ⟨k, hk⟩ : ∃ k : Nat, N % ((n + 1 : Nat) : Int) = (k : Int) := ⟨(N % ((n + 1 : Nat) : Int)).toNat, by have := Int.emod_nonneg N (show ((n + 1 : Nat) : Int) ≠ 0 by omega); omega⟩
  have hkn : k ≤ n := by have := Int.emod_lt_of_pos N (show (0 : Int) < ((n + 1 : Nat) : Int) by omega); omega
  rw [hk]
  clear hk
  have hkb : k ≤ b.length := by rw [H.out.1]; exact hkn
  have HF := hide (takeF_some b k hkb)
  have HL := hide (And.intro (show (b.take k).length = k by simp [hkb]) (show (b.drop k).length = n - k by rw [List.length_drop, H.out.1]))
  clear hkb
  go_wp2_with fail
  refine (take_any R b 0 (k : Int) w15' H15.out.2.2.1 (by omega) (by omega) (by rw [H.out.1]; omega)).mono ?_
  rw [HF.out]
  rintro e w16 ⟨x, rfl, hown, hR16, hg16⟩
  simp only [HL.out.1] at hown
  have hx := Row.of hown
  have hS16 := H15.out.2.2.2.kept hg16 (by simp; omega) H15.out.2.2.1.noBytes
  have H16 := hide (And.intro (H15.out.1.far hg16 H15.out.2.2.1.noBytes) (And.intro (H15.out.2.1.far hg16 (by omega) H15.out.2.2.1.noBlock (by omega)) (And.intro hR16 (And.intro hS16 hx))))
  have z16 : w15'.heap.size ≤ w16.heap.size := hg16.size
  obtain ⟨ax, cx, rfl, -⟩ := hx.at
  clear hown hR16 hg16 hx hS16 H15
  go_wp2_with fail
  refine (take_any S b 0 (k : Int) w16 H16.out.2.2.2.1 (by omega) (by omega) (by rw [H.out.1]; omega)).mono ?_
  rw [HF.out]
  rintro e w17 ⟨y, rfl, hown, hS17, hg17⟩
  simp only [HL.out.1] at hown
  have hy := Row.of hown
  have nS := H16.out.2.2.2.1.noBytes
  have H17 := hide (And.intro (H16.out.1.far hg17 nS) (And.intro (H16.out.2.1.far hg17 (by omega) H16.out.2.2.2.1.noBlock (by omega)) (And.intro (H16.out.2.2.1.kept hg17 (by simp; omega) nS) (And.intro hS17 (And.intro (H16.out.2.2.2.2.far hg17 nS) hy)))))
  have z17 : w16.heap.size ≤ w17.heap.size := hg17.size
  obtain ⟨ay, cy, rfl, -⟩ := hy.at
  clear hown hS17 hg17 hy nS H16 HF
  go_wp2_with fail
  refine (left_any R (b.drop k) 0 w17 H17.out.2.2.1).mono ?_
  rintro e w17' ⟨rfl, rfl⟩
  rw [HL.out.2]
  have hnk : (0 : Int) ≤ ((n - k : Nat) : Int) := by omega
  go_wp2_with fail
  have HG := hide (takeF_all (b.drop k) ((n - k : Nat) : Int) (by rw [HL.out.2]))
  refine (take_any R (b.drop k) 0 ((n - k : Nat) : Int) w17' H17.out.2.2.1 (by omega) (by omega) (by rw [HL.out.2]; omega)).mono ?_
  rw [HG.out]
  rintro e w18 ⟨rest, rfl, hown, hR18, hg18⟩
  simp only [HL.out.2] at hown
  have hr := Row.of hown
  have nR := H17.out.2.2.1.noBytes
  have H18 := hide (And.intro (H17.out.1.far hg18 nR) (And.intro (H17.out.2.1.far hg18 (by omega) H17.out.2.2.1.noBlock (by omega)) (And.intro (H17.out.2.2.2.1.kept hg18 (by simp; omega) nR) (And.intro (H17.out.2.2.2.2.1.far hg18 nR) (And.intro (H17.out.2.2.2.2.2.far hg18 nR) hr)))))
  have z18 : w17'.heap.size ≤ w18.heap.size := hg18.size
  obtain ⟨ar, cr, rfl, -⟩ := hr.at
  clear hown hR18 hg18 hr nR H17
  go_wp2_with fail
  refine (left_any S (b.drop k) 0 w18 H18.out.2.2.1).mono ?_
  rintro e w18' ⟨rfl, rfl⟩
  rw [HL.out.2]
  go_wp2_with fail
  refine (take_any S (b.drop k) 0 ((n - k : Nat) : Int) w18' H18.out.2.2.1 (by omega) (by omega) (by rw [HL.out.2]; omega)).mono ?_
  rw [HG.out]
  rintro e w19 ⟨same, rfl, hown, hS19, hg19⟩
  simp only [HL.out.2] at hown
  have hs := Row.of hown
  have nS := H18.out.2.2.1.noBytes
  have H19 := hide (And.intro (H18.out.1.far hg19 nS) (And.intro (H18.out.2.1.far hg19 (by omega) H18.out.2.2.1.noBlock (by omega)) (And.intro (H18.out.2.2.2.1.far hg19 nS) (And.intro (H18.out.2.2.2.2.1.far hg19 nS) (And.intro (H18.out.2.2.2.2.2.far hg19 nS) hs)))))
  have z19 : w18'.heap.size ≤ w19.heap.size := hg19.size
  obtain ⟨aq, cq, rfl, -⟩ := hs.at
  clear hown hS19 hg19 hs nS H18 HG
  go_wp2_with fail
  -- want
  refine (copy_any ao n c b w19 H.out.1 (H.out.2.2.1.kept H19.out.2.1.grown (by simp)) H.out.2.2.2.2.1 (by omega)).mono ?_
  rintro e w20 ⟨v20, rfl, hown20, hg20⟩
  obtain ⟨a20, c20, rfl, -⟩ := own_at hown20
  have H20 := hide (And.intro hown20 hg20)
  have z20 : w19.heap.size ≤ w20.heap.size := hg20.size
  clear hown20 hg20
  go_wp2_with (at_builtin; refine wpList_append_at rfl (.tmp 65) (.tmp 66) rfl w19.heap.size (.slice a20 n c20) n (b.map (Value.int .u8)) rfl H20.out.1 bo m d more rfl H.out.2.1 (H.out.2.2.2.1.kept (grown_trans H19.out.2.1.grown H20.out.2) (by simp)) H.out.2.2.2.2.2 (by omega) z20 ?_)
  intro v21 w21 hown21 hg21
  rw [← List.map_append] at hown21
  have hw := Row.of hown21
  have G21 : w19.grownBy w21 none := grown_then H20.out.2 hg21 (fun j e => Or.inl (H20.out.1.lt j e).1)
  have H21 := hide (And.intro (H19.out.1.kept G21) (And.intro (H19.out.2.1.kept G21) (And.intro (H19.out.2.2.1.kept G21) (And.intro (H19.out.2.2.2.1.kept G21) (And.intro (H19.out.2.2.2.2.1.kept G21) (And.intro (H19.out.2.2.2.2.2.kept G21) hw))))))
  have z21 : w19.heap.size ≤ w21.heap.size := G21.size
  obtain ⟨aw, cw, rfl, -⟩ := hw.at
  clear hown21 hg21 hw G21 H19 H20 z20
  go_wp2_with fail
  -- last
  refine (copy_any ao n c b w21 H.out.1 (H.out.2.2.1.kept H21.out.2.1.grown (by simp)) H.out.2.2.2.2.1 (by omega)).mono ?_
  rintro e w22 ⟨v22, rfl, hown22, hg22⟩
  obtain ⟨a22, c22, rfl, -⟩ := own_at hown22
  have H22 := hide (And.intro hown22 hg22)
  have z22 : w21.heap.size ≤ w22.heap.size := hg22.size
  clear hown22 hg22
  go_wp2_with (at_builtin; refine wpList_append_at rfl (.tmp 69) (.tmp 70) rfl w21.heap.size (.slice a22 n c22) n (b.map (Value.int .u8)) rfl (H22.out.1.alloc _) (some ⟨w22.heap.size, 0, none⟩) 1 1 [7] rfl rfl (at_new w22 [7] _ rfl) (fun e => by cases e) (by omega) (by simp; omega) ?_)
  intro v23 w23 hown23 hg23
  have hown23 : w23.ownsRow w21.heap.size 5 1 v23 (n + 1) ((b ++ [7]).map (Value.int .u8)) := by simpa using hown23
  have G23 : w21.grownBy w23 none := grown_then (grown_trans H22.out.2 (World.grownBy_alloc w22 _ none)) hg23 (fun j e => Or.inl (H22.out.1.lt j e).1)
  obtain ⟨a23, c23, rfl, -⟩ := own_at hown23
  have H23 := hide (And.intro hown23 G23)
  have z23 : w21.heap.size ≤ w23.heap.size := G23.size
  clear hown23 hg23 G23 H22 z22
  go_wp2_with (at_builtin; refine wpList_append_at rfl (.tmp 71) (.tmp 72) rfl w21.heap.size (.slice a23 (n + 1) c23) (n + 1) ((b ++ [7]).map (Value.int .u8)) rfl H23.out.1 bo m d more rfl H.out.2.1 (H.out.2.2.2.1.kept (grown_trans H21.out.2.1.grown H23.out.2) (by simp)) H.out.2.2.2.2.2 (by omega) z23 ?_)
  intro v24 w24 hown24 hg24
  have hown24 : w24.ownsRow w21.heap.size 5 1 v24 (n + 1 + m) ((b ++ [7] ++ more).map (Value.int .u8)) := by simpa using hown24
  have G24 : w21.grownBy w24 none := grown_then H23.out.2 hg24 (fun j e => Or.inl (H23.out.1.lt j e).1)
  obtain ⟨a24, c24, rfl, -⟩ := own_at hown24
  have H24 := hide (And.intro hown24 G24)
  have z24 : w21.heap.size ≤ w24.heap.size := G24.size
  clear hown24 hg24 G24 H23 z23
  go_wp2_with (at_builtin; refine wpList_append_at rfl (.tmp 73) (.tmp 74) rfl w21.heap.size (.slice a24 (n + 1 + m) c24) (n + 1 + m) ((b ++ [7] ++ more).map (Value.int .u8)) rfl (H24.out.1.alloc _) (some ⟨w24.heap.size, 0, none⟩) 1 1 [1] rfl rfl (at_new w24 [1] _ rfl) (fun e => by cases e) (by omega) (by simp; omega) ?_)
  intro v25 w25 hown25 hg25
  have hown25 : w25.ownsRow w21.heap.size 5 1 v25 (n + 1 + m + 1) ((b ++ [7] ++ more ++ [1]).map (Value.int .u8)) := by simpa using hown25
  have G25 : w21.grownBy w25 none := grown_then (grown_trans H24.out.2 (World.grownBy_alloc w24 _ none)) hg25 (fun j e => Or.inl (H24.out.1.lt j e).1)
  have hlast := Row.of hown25
  obtain ⟨al, cl, rfl, -⟩ := hlast.at
  have hG25 := grown_trans H21.out.2.1.grown G25
  have z25 := G25.size
  obtain ⟨i1, i2, i3, i4, i5, i6, i7⟩ := H21.out
  have HT : Hid (St w w25 W T D b more ao n m k (.slice ai n ci) (.slice ax k cx) (.slice ay k cy) (.slice ar (n - k) cr) (.slice aq (n - k) cq) (.slice aw (n + m) cw) (.slice al (n + 1 + m + 1) cl) w12.heap.size w13.heap.size w16.heap.size w17'.heap.size w18'.heap.size w19.heap.size w21.heap.size w25.heap.size) := by
    refine ⟨i2.kept G25, H.out.2.2.1.kept hG25 (by simp), ?_, ?_, ?_, ?_, ?_, i7.kept G25, hlast, ?_⟩
    · exact i1.kept G25
    · exact (i3.kept G25).wide (by omega) (Nat.le_refl _)
    · exact i4.kept G25
    · exact i5.kept G25
    · exact i6.kept G25
    · omega
  clear hown25 hg25 G25 hlast hG25 i1 i2 i3 i4 i5 i6 i7 H21 H24 z12 z13 z14 z15 z16 z17 z18 z19 z21 z24 z25 hWR hR hS hRS hWT hTD hlW hlT hlD
  generalize w12.heap.size = s0 at *
  generalize w13.heap.size = s1 at *
  generalize w16.heap.size = s2 at *
  generalize w17'.heap.size = s3 at *
  generalize w18'.heap.size = s4 at *
  generalize w19.heap.size = s5 at *
  generalize w21.heap.size = s6 at *
  have HT1 := hide HT.out
  generalize w25.heap.size = s7 at HT1
  clear HT
  go_wp2_with fail
  obtain ⟨q, hq⟩ : ∃ q, q = n + 1 + m := ⟨_, rfl⟩
  have HQ := hide hq
  have HLn : Hid ((b ++ more).length = n + m ∧ (b ++ [7] ++ more ++ [1]).length = n + 1 + m + 1 ∧ (b ++ [7] ++ more).length = q) := by
    refine ⟨?_, ?_, ?_⟩ <;> simp [H.out.1, H.out.2.1, hq] <;> omega
  have hknn : k + (n - k) = n := by omega
  have hm0 : (0 : Int) ≤ (m : Int) := by omega
  have hm1 : (m : Int) ≤ 1048576 := by omega
  have hwr : IntKind.i64.wrap ((n : Int) + 1 + (m : Int)) = (q : Int) := by rw [IntKind.wrap_i64]; omega
  have hq0 : (0 : Int) ≤ (q : Int) := by omega
  have hqc : (q : Int) ≤ (cl : Int) := by
    obtain ⟨_, _, hv, -, hcl, -⟩ := HT1.out.last.at
    cases hv
    omega
  clear hq
  refine wp_region_held_drew (S := (fun w' => St w w' W T D b more ao n m k (.slice ai n ci) (.slice ax k cx) (.slice ay k cy) (.slice ar (n - k) cr) (.slice aq (n - k) cq) (.slice aw (n + m) cw) (.slice al (n + 1 + m + 1) cl) s0 s1 s2 s3 s4 s5 s6 s7)) (by kernel_rfl) ?_ (fun hHeld => ?_)
  · (exact HT1.out.kept (grown_drew _ _))
  refine wpAnyH_take (i := 1) (oi := { dst := some 77, op := Go.Op.move (Go.Operand.tmp 18), type := 32, pos := "outright.go:111", after := #[], guard := none }) (v := ?_) rfl (by kernel_rfl) (by kernel_rfl) (by kernel_rfl) (fun _ _ _ h => h) (Or.inl ⟨by rfl, ?_⟩) (by assumption) ?_
  rotate_left
  · (intro w hSw; (try dsimp only at hSw); (go_simp <;> with_reducible rfl))
  try simp only [Act.put, List.setIfInBounds_toArray, List.set_cons_zero, List.set_cons_succ]
  refine wpAnyH_ready (rs := [0]) (by kernel_rfl) (by simp) ?_
  refine AllReadyH.cons (o := { dst := some 76, op := Go.Op.call { callee := Go.Callee.value (Go.Operand.func 24), args := #[Go.Operand.tmp 8], argTypes := #[53] }, type := 32, pos := "outright.go:111", after := #[], guard := none }) rfl (fun K hK => ?_) ?_
  rotate_left
  · exact AllReadyH.nil
  go_simp
  refine (out_ex T (n + m) (b ++ more) _ hHeld.ws.wt HLn.out.1 (by omega)).mono ?_
  rintro e wa ⟨A0, rfl, hA0, -, -, hga⟩
  have hSa := hHeld.kept hga
  go_wp2_with fail
  refine hK.out _ _ ?_ (fun hHeld => ?_)
  · ((try dsimp only); assumption)
  clear hK K
  try simp only [Act.put, List.setIfInBounds_toArray, List.set_cons_zero, List.set_cons_succ]
  refine wpAnyH_ready (rs := [2]) (by kernel_rfl) (by simp) ?_
  refine AllReadyH.cons (o := { dst := some 78, op := Go.Op.call { callee := Go.Callee.value (Go.Operand.func 30), args := #[Go.Operand.tmp 76, Go.Operand.tmp 77], argTypes := #[32, 32] }, type := 4, pos := "outright.go:111", after := #[{ on := 0, ground := Go.Ground.data }, { on := 1, ground := Go.Ground.data }, { on := 0, ground := Go.Ground.chain }], guard := none }) rfl (fun K hK => ?_) ?_
  rotate_left
  · exact AllReadyH.nil
  go_simp
  obtain ⟨_, _, hv, -, -, -, hat, -⟩ := hHeld.want.at
  cases hv
  refine (same_eq (some ⟨A0, 0, none⟩) aw (n + m) (n + m) cw (b ++ more) _ HLn.out.1 hA0 hat (by omega)).mono ?_
  clear hat
  rintro e wb ⟨rfl, hgb⟩
  have hSb := hHeld.kept hgb
  go_wp2_with fail
  refine hK.out _ _ ?_ (fun hHeld => ?_)
  · ((try dsimp only); assumption)
  clear hK K
  try simp only [Act.put, List.setIfInBounds_toArray, List.set_cons_zero, List.set_cons_succ]
  refine wpAnyH_take (i := 3) (oi := { dst := some 79, op := Go.Op.unOp Go.UnOp.not 4 (Go.Operand.tmp 78), type := 4, pos := "outright.go:111", after := #[{ on := 2, ground := Go.Ground.data }], guard := none }) (v := ?_) rfl (by kernel_rfl) (by kernel_rfl) (by kernel_rfl) (fun _ _ _ h => h) (Or.inl ⟨by rfl, ?_⟩) (by assumption) ?_
  rotate_left
  · (intro w hSw; (try dsimp only at hSw); (go_simp <;> with_reducible rfl))
  try simp only [Act.put, List.setIfInBounds_toArray, List.set_cons_zero, List.set_cons_succ]
  refine wpAnyH_take (i := 4) (oi := { dst := some 80, op := Go.Op.move (Go.Operand.tmp 79), type := 4, pos := "outright.go:111", after := #[{ on := 3, ground := Go.Ground.data }, { on := 2, ground := Go.Ground.chain }], guard := none }) (v := ?_) rfl (by kernel_rfl) (by kernel_rfl) (by kernel_rfl) (fun _ _ _ h => h) (Or.inl ⟨by rfl, ?_⟩) (by assumption) ?_
  rotate_left
  · (intro w hSw; (try dsimp only at hSw); (go_simp <;> with_reducible rfl))
  try simp only [Act.put, List.setIfInBounds_toArray, List.set_cons_zero, List.set_cons_succ]
  refine wpAnyH_take (i := 6) (oi := { dst := some 82, op := Go.Op.move (Go.Operand.tmp 19), type := 32, pos := "outright.go:111", after := #[{ on := 4, ground := Go.Ground.guard }], guard := some (4, false) }) (v := ?_) rfl (by kernel_rfl) (by kernel_rfl) (by kernel_rfl) (fun _ _ _ h => h) (Or.inl ⟨by rfl, ?_⟩) (by assumption) ?_
  rotate_left
  · (intro w hSw; (try dsimp only at hSw); (go_simp <;> with_reducible rfl))
  try simp only [Act.put, List.setIfInBounds_toArray, List.set_cons_zero, List.set_cons_succ]
  refine wpAnyH_ready (rs := [5]) (by kernel_rfl) (by simp) ?_
  refine AllReadyH.cons (o := { dst := some 81, op := Go.Op.call { callee := Go.Callee.value (Go.Operand.func 24), args := #[Go.Operand.tmp 7], argTypes := #[53] }, type := 32, pos := "outright.go:111", after := #[{ on := 4, ground := Go.Ground.chain }, { on := 4, ground := Go.Ground.guard }], guard := some (4, false) }) rfl (fun K hK => ?_) ?_
  rotate_left
  · exact AllReadyH.nil
  go_simp
  refine (out_ex W (n + 1 + m + 1) (b ++ [7] ++ more ++ [1]) _ hHeld.ws.ww HLn.out.2.1 (by omega)).mono ?_
  rintro e wc ⟨A1, rfl, hA1, -, -, hgc⟩
  have hSc := hHeld.kept hgc
  go_wp2_with fail
  refine hK.out _ _ ?_ (fun hHeld => ?_)
  · ((try dsimp only); assumption)
  clear hK K
  try simp only [Act.put, List.setIfInBounds_toArray, List.set_cons_zero, List.set_cons_succ]
  refine wpAnyH_ready (rs := [7]) (by kernel_rfl) (by simp) ?_
  refine AllReadyH.cons (o := { dst := some 83, op := Go.Op.call { callee := Go.Callee.value (Go.Operand.func 30), args := #[Go.Operand.tmp 81, Go.Operand.tmp 82], argTypes := #[32, 32] }, type := 4, pos := "outright.go:111", after := #[{ on := 5, ground := Go.Ground.data }, { on := 6, ground := Go.Ground.data }, { on := 5, ground := Go.Ground.chain }, { on := 4, ground := Go.Ground.guard }], guard := some (4, false) }) rfl (fun K hK => ?_) ?_
  rotate_left
  · exact AllReadyH.nil
  go_simp
  obtain ⟨_, _, hv, -, -, -, hat, -⟩ := hHeld.last.at
  cases hv
  refine (same_eq (some ⟨A1, 0, none⟩) al (n + 1 + m + 1) (n + 1 + m + 1) cl (b ++ [7] ++ more ++ [1]) _ HLn.out.2.1 hA1 hat (by omega)).mono ?_
  clear hat
  rintro e wd ⟨rfl, hgd⟩
  have hSd := hHeld.kept hgd
  go_wp2_with fail
  refine hK.out _ _ ?_ (fun hHeld => ?_)
  · ((try dsimp only); assumption)
  clear hK K
  try simp only [Act.put, List.setIfInBounds_toArray, List.set_cons_zero, List.set_cons_succ]
  refine wpAnyH_take (i := 8) (oi := { dst := some 84, op := Go.Op.unOp Go.UnOp.not 4 (Go.Operand.tmp 83), type := 4, pos := "outright.go:111", after := #[{ on := 7, ground := Go.Ground.data }, { on := 4, ground := Go.Ground.guard }], guard := some (4, false) }) (v := ?_) rfl (by kernel_rfl) (by kernel_rfl) (by kernel_rfl) (fun _ _ _ h => h) (Or.inl ⟨by rfl, ?_⟩) (by assumption) ?_
  rotate_left
  · (intro w hSw; (try dsimp only at hSw); (go_simp <;> with_reducible rfl))
  try simp only [Act.put, List.setIfInBounds_toArray, List.set_cons_zero, List.set_cons_succ]
  refine wpAnyH_take (i := 9) (oi := { dst := some 85, op := Go.Op.pick (Go.Operand.tmp 80) (Go.Operand.const (Go.Value.bool true)) (Go.Operand.tmp 84), type := 4, pos := "outright.go:111", after := #[{ on := 4, ground := Go.Ground.data }, { on := 8, ground := Go.Ground.data }], guard := none }) (v := ?_) rfl (by kernel_rfl) (by kernel_rfl) (by kernel_rfl) (fun _ _ _ h => h) (Or.inl ⟨by rfl, ?_⟩) (by assumption) ?_
  rotate_left
  · (intro w hSw; (try dsimp only at hSw); (go_simp <;> with_reducible rfl))
  try simp only [Act.put, List.setIfInBounds_toArray, List.set_cons_zero, List.set_cons_succ]
  refine wpAnyH_take (i := 10) (oi := { dst := some 86, op := Go.Op.move (Go.Operand.tmp 85), type := 4, pos := "outright.go:111", after := #[{ on := 9, ground := Go.Ground.data }, { on := 7, ground := Go.Ground.chain }], guard := none }) (v := ?_) rfl (by kernel_rfl) (by kernel_rfl) (by kernel_rfl) (fun _ _ _ h => h) (Or.inl ⟨by rfl, ?_⟩) (by assumption) ?_
  rotate_left
  · (intro w hSw; (try dsimp only at hSw); (go_simp <;> with_reducible rfl))
  try simp only [Act.put, List.setIfInBounds_toArray, List.set_cons_zero, List.set_cons_succ]
  refine wpAnyH_take (i := 12) (oi := { dst := some 88, op := Go.Op.move (Go.Operand.tmp 19), type := 32, pos := "outright.go:111", after := #[{ on := 10, ground := Go.Ground.guard }], guard := some (10, false) }) (v := ?_) rfl (by kernel_rfl) (by kernel_rfl) (by kernel_rfl) (fun _ _ _ h => h) (Or.inl ⟨by rfl, ?_⟩) (by assumption) ?_
  rotate_left
  · (intro w hSw; (try dsimp only at hSw); (go_simp <;> with_reducible rfl))
  try simp only [Act.put, List.setIfInBounds_toArray, List.set_cons_zero, List.set_cons_succ]
  refine wpAnyH_take (i := 13) (oi := { dst := some 89, op := Go.Op.move (Go.Operand.tmp 19), type := 32, pos := "outright.go:111", after := #[{ on := 10, ground := Go.Ground.guard }], guard := some (10, false) }) (v := ?_) rfl (by kernel_rfl) (by kernel_rfl) (by kernel_rfl) (fun _ _ _ h => h) (Or.inl ⟨by rfl, ?_⟩) (by assumption) ?_
  rotate_left
  · (intro w hSw; (try dsimp only at hSw); (go_simp <;> with_reducible rfl))
  try simp only [Act.put, List.setIfInBounds_toArray, List.set_cons_zero, List.set_cons_succ]
  refine wpAnyH_take (i := 14) (oi := { dst := some 90, op := Go.Op.call { callee := Go.Callee.builtin Go.Builtin.len, args := #[Go.Operand.tmp 89], argTypes := #[32] }, type := 3, pos := "outright.go:111", after := #[{ on := 13, ground := Go.Ground.data }, { on := 10, ground := Go.Ground.guard }], guard := some (10, false) }) (v := ?_) rfl (by kernel_rfl) (by kernel_rfl) (by kernel_rfl) (fun _ _ _ h => h) (Or.inl ⟨by rfl, ?_⟩) (by assumption) ?_
  rotate_left
  · (intro w hSw; (try dsimp only at hSw); (go_simp <;> with_reducible rfl))
  try simp only [Act.put, List.setIfInBounds_toArray, List.set_cons_zero, List.set_cons_succ]
  refine wpAnyH_take (i := 15) (oi := { dst := some 91, op := Go.Op.binOp Go.BinOp.sub 3 (Go.Operand.tmp 90) (Go.Operand.const (Go.Value.int Go.IntKind.i64 1)) 3, type := 3, pos := "outright.go:111", after := #[{ on := 14, ground := Go.Ground.data }, { on := 10, ground := Go.Ground.guard }], guard := some (10, false) }) (v := ?_) rfl (by kernel_rfl) (by kernel_rfl) (by kernel_rfl) (fun _ _ _ h => h) (Or.inl ⟨by rfl, ?_⟩) (by assumption) ?_
  rotate_left
  · (intro w hSw; (try dsimp only at hSw); (go_simp <;> with_reducible rfl))
  try simp only [Act.put, List.setIfInBounds_toArray, List.set_cons_zero, List.set_cons_succ]
  refine wpAnyH_take (i := 16) (oi := { dst := some 92, op := Go.Op.slice 32 (Go.Operand.tmp 88) none (some (Go.Operand.tmp 91)) none, type := 32, pos := "outright.go:111", after := #[{ on := 12, ground := Go.Ground.data }, { on := 15, ground := Go.Ground.data }, { on := 10, ground := Go.Ground.guard }], guard := some (10, false) }) (v := ?_) rfl (by kernel_rfl) (by kernel_rfl) (by kernel_rfl) (fun _ _ _ h => h) (Or.inl ⟨by rfl, ?_⟩) (by assumption) ?_
  rotate_left
  · (intro w hSw; (try dsimp only at hSw); (go_simp <;> with_reducible rfl))
  try simp only [Act.put, List.setIfInBounds_toArray, List.set_cons_zero, List.set_cons_succ]
  refine wpAnyH_ready (rs := [11]) (by kernel_rfl) (by simp) ?_
  refine AllReadyH.cons (o := { dst := some 87, op := Go.Op.call { callee := Go.Callee.value (Go.Operand.func 24), args := #[Go.Operand.tmp 9], argTypes := #[53] }, type := 32, pos := "outright.go:111", after := #[{ on := 10, ground := Go.Ground.chain }, { on := 10, ground := Go.Ground.guard }], guard := some (10, false) }) rfl (fun K hK => ?_) ?_
  rotate_left
  · exact AllReadyH.nil
  go_simp
  refine (out_ex D q (b ++ [7] ++ more) _ hHeld.ws.wd HLn.out.2.2 (by have := HQ.out; omega)).mono ?_
  rintro e we ⟨A2, rfl, hA2, -, -, hge⟩
  have hSe := hHeld.kept hge
  go_wp2_with fail
  refine hK.out _ _ ?_ (fun hHeld => ?_)
  · ((try dsimp only); assumption)
  clear hK K
  try simp only [Act.put, List.setIfInBounds_toArray, List.set_cons_zero, List.set_cons_succ]
  refine wpAnyH_ready (rs := [17]) (by kernel_rfl) (by simp) ?_
  refine AllReadyH.cons (o := { dst := some 93, op := Go.Op.call { callee := Go.Callee.value (Go.Operand.func 30), args := #[Go.Operand.tmp 87, Go.Operand.tmp 92], argTypes := #[32, 32] }, type := 4, pos := "outright.go:111", after := #[{ on := 11, ground := Go.Ground.data }, { on := 16, ground := Go.Ground.data }, { on := 11, ground := Go.Ground.chain }, { on := 10, ground := Go.Ground.guard }], guard := some (10, false) }) rfl (fun K hK => ?_) ?_
  rotate_left
  · exact AllReadyH.nil
  go_simp
  obtain ⟨_, _, hv, -, -, -, hat, -⟩ := hHeld.last.at
  cases hv
  refine (same_eq (some ⟨A2, 0, none⟩) al q q cl (b ++ [7] ++ more) _ HLn.out.2.2 hA2 (at_front hat) (by have := HQ.out; omega)).mono ?_
  clear hat
  rintro e wf ⟨rfl, hgf⟩
  have hSf := hHeld.kept hgf
  go_wp2_with fail
  refine hK.out _ _ ?_ (fun hHeld => ?_)
  · ((try dsimp only); assumption)
  clear hK K
  try simp only [Act.put, List.setIfInBounds_toArray, List.set_cons_zero, List.set_cons_succ]
  refine wpAnyH_take (i := 18) (oi := { dst := some 94, op := Go.Op.unOp Go.UnOp.not 4 (Go.Operand.tmp 93), type := 4, pos := "outright.go:111", after := #[{ on := 17, ground := Go.Ground.data }, { on := 10, ground := Go.Ground.guard }], guard := some (10, false) }) (v := ?_) rfl (by kernel_rfl) (by kernel_rfl) (by kernel_rfl) (fun _ _ _ h => h) (Or.inl ⟨by rfl, ?_⟩) (by assumption) ?_
  rotate_left
  · (intro w hSw; (try dsimp only at hSw); (go_simp <;> with_reducible rfl))
  try simp only [Act.put, List.setIfInBounds_toArray, List.set_cons_zero, List.set_cons_succ]
  refine wpAnyH_take (i := 19) (oi := { dst := some 95, op := Go.Op.pick (Go.Operand.tmp 86) (Go.Operand.const (Go.Value.bool true)) (Go.Operand.tmp 94), type := 4, pos := "outright.go:111", after := #[{ on := 10, ground := Go.Ground.data }, { on := 18, ground := Go.Ground.data }], guard := none }) (v := ?_) rfl (by kernel_rfl) (by kernel_rfl) (by kernel_rfl) (fun _ _ _ h => h) (Or.inl ⟨by rfl, ?_⟩) (by assumption) ?_
  rotate_left
  · (intro w hSw; (try dsimp only at hSw); (go_simp <;> with_reducible rfl))
  try simp only [Act.put, List.setIfInBounds_toArray, List.set_cons_zero, List.set_cons_succ]
  refine wpAnyH_take (i := 20) (oi := { dst := some 96, op := Go.Op.move (Go.Operand.tmp 95), type := 4, pos := "outright.go:111", after := #[{ on := 19, ground := Go.Ground.data }, { on := 17, ground := Go.Ground.chain }], guard := none }) (v := ?_) rfl (by kernel_rfl) (by kernel_rfl) (by kernel_rfl) (fun _ _ _ h => h) (Or.inl ⟨by rfl, ?_⟩) (by assumption) ?_
  rotate_left
  · (intro w hSw; (try dsimp only at hSw); (go_simp <;> with_reducible rfl))
  try simp only [Act.put, List.setIfInBounds_toArray, List.set_cons_zero, List.set_cons_succ]
  refine wpAnyH_take (i := 21) (oi := { dst := some 97, op := Go.Op.move (Go.Operand.tmp 14), type := 32, pos := "outright.go:111", after := #[{ on := 20, ground := Go.Ground.guard }], guard := some (20, false) }) (v := ?_) rfl (by kernel_rfl) (by kernel_rfl) (by kernel_rfl) (fun _ _ _ h => h) (Or.inl ⟨by rfl, ?_⟩) (by assumption) ?_
  rotate_left
  · (intro w hSw; (try dsimp only at hSw); (go_simp <;> with_reducible rfl))
  try simp only [Act.put, List.setIfInBounds_toArray, List.set_cons_zero, List.set_cons_succ]
  refine wpAnyH_take (i := 23) (oi := { dst := some 99, op := Go.Op.move (Go.Operand.tmp 16), type := 32, pos := "outright.go:111", after := #[{ on := 20, ground := Go.Ground.guard }], guard := some (20, false) }) (v := ?_) rfl (by kernel_rfl) (by kernel_rfl) (by kernel_rfl) (fun _ _ _ h => h) (Or.inl ⟨by rfl, ?_⟩) (by assumption) ?_
  rotate_left
  · (intro w hSw; (try dsimp only at hSw); (go_simp <;> with_reducible rfl))
  try simp only [Act.put, List.setIfInBounds_toArray, List.set_cons_zero, List.set_cons_succ]
  refine wpAnyH_take (i := 25) (oi := { dst := some 101, op := Go.Op.move (Go.Operand.tmp 0), type := 32, pos := "outright.go:111", after := #[{ on := 20, ground := Go.Ground.guard }], guard := some (20, false) }) (v := ?_) rfl (by kernel_rfl) (by kernel_rfl) (by kernel_rfl) (fun _ _ _ h => h) (Or.inl ⟨by rfl, ?_⟩) (by assumption) ?_
  rotate_left
  · (intro w hSw; (try dsimp only at hSw); (go_simp <;> with_reducible rfl))
  try simp only [Act.put, List.setIfInBounds_toArray, List.set_cons_zero, List.set_cons_succ]
  refine wpAnyH_ready (rs := [22]) (by kernel_rfl) (by simp) ?_
  refine AllReadyH.cons (o := { dst := some 98, op := Go.Op.call { callee := Go.Callee.value (Go.Operand.func 37), args := #[Go.Operand.tmp 97], argTypes := #[32] }, type := 32, pos := "outright.go:111", after := #[{ on := 21, ground := Go.Ground.data }, { on := 20, ground := Go.Ground.chain }, { on := 20, ground := Go.Ground.guard }], guard := some (20, false) }) rfl (fun K hK => ?_) ?_
  rotate_left
  · exact AllReadyH.nil
  go_simp
  obtain ⟨_, _, hv, hl, -, -, hat, hnil⟩ := hHeld.x.at
  cases hv
  refine (copy_any ax k cx (b.take k) _ hl hat hnil (by omega)).mono ?_
  clear hat hnil hl
  rintro e wg ⟨vg, rfl, hog, hgg⟩
  obtain ⟨ag, cg, rfl, -⟩ := own_at hog
  have hSX := hHeld
  have hSg := hHeld.kept hgg
  go_wp2_with fail
  refine hK.out _ _ ?_ (fun hHeld => ?_)
  · ((try dsimp only); assumption)
  clear hK K
  try simp only [Act.put, List.setIfInBounds_toArray, List.set_cons_zero, List.set_cons_succ]
  refine wpAnyH_ready (rs := [24]) (by kernel_rfl) (by simp) ?_
  refine AllReadyH.cons (o := { dst := some 100, op := Go.Op.call { callee := Go.Callee.builtin Go.Builtin.append, args := #[Go.Operand.tmp 98, Go.Operand.tmp 99], argTypes := #[32, 32] }, type := 32, pos := "outright.go:111", after := #[{ on := 22, ground := Go.Ground.data }, { on := 23, ground := Go.Ground.data }, { on := 22, ground := Go.Ground.chain }, { on := 20, ground := Go.Ground.guard }], guard := some (20, false) }) rfl (fun K hK => ?_) ?_
  rotate_left
  · exact AllReadyH.nil
  rw [if_pos (by rfl)]
  obtain ⟨_, _, hv, hl, -, -, hat, hnil⟩ := hHeld.rest.at
  cases hv
  refine wp_append_at (.tmp 98) (.tmp 99) rfl _ (.slice ag k cg) k ((b.take k).map (Value.int .u8)) rfl hog ar (n - k) cr (b.drop k) rfl hl hat hnil (by omega) hgg.size ?_
  clear hat hnil hl
  intro vh wh hoh hgh
  rw [← List.map_append, List.take_append_drop, hknn] at hoh
  have hgX := grown_then hgg hgh (fun j e => Or.inl (hog.lt j e).1)
  have hSh := hSX.kept hgX
  obtain ⟨ah, ch, rfl, -, -, -, hath, -⟩ := own_at hoh
  refine hK.out _ _ ?_ (fun hHeld => ?_)
  · ((try dsimp only); assumption)
  clear hK K
  try simp only [Act.put, List.setIfInBounds_toArray, List.set_cons_zero, List.set_cons_succ]
  refine wpAnyH_ready (rs := [26]) (by kernel_rfl) (by simp) ?_
  refine AllReadyH.cons (o := { dst := some 102, op := Go.Op.call { callee := Go.Callee.value (Go.Operand.func 30), args := #[Go.Operand.tmp 100, Go.Operand.tmp 101], argTypes := #[32, 32] }, type := 4, pos := "outright.go:111", after := #[{ on := 24, ground := Go.Ground.data }, { on := 25, ground := Go.Ground.data }, { on := 24, ground := Go.Ground.chain }, { on := 20, ground := Go.Ground.guard }], guard := some (20, false) }) rfl (fun K hK => ?_) ?_
  rotate_left
  · exact AllReadyH.nil
  go_simp
  refine (same_eq ah ao n ch c b _ H.out.1 hath hHeld.at0 (by omega)).mono ?_
  rintro e wi ⟨rfl, hgi⟩
  have hSi := hHeld.kept hgi
  go_wp2_with fail
  refine hK.out _ _ ?_ (fun hHeld => ?_)
  · ((try dsimp only); assumption)
  clear hK K
  try simp only [Act.put, List.setIfInBounds_toArray, List.set_cons_zero, List.set_cons_succ]
  refine wpAnyH_take (i := 27) (oi := { dst := some 103, op := Go.Op.unOp Go.UnOp.not 4 (Go.Operand.tmp 102), type := 4, pos := "outright.go:111", after := #[{ on := 26, ground := Go.Ground.data }, { on := 20, ground := Go.Ground.guard }], guard := some (20, false) }) (v := ?_) rfl (by kernel_rfl) (by kernel_rfl) (by kernel_rfl) (fun _ _ _ h => h) (Or.inl ⟨by rfl, ?_⟩) (by assumption) ?_
  rotate_left
  · (intro w hSw; (try dsimp only at hSw); (go_simp <;> with_reducible rfl))
  try simp only [Act.put, List.setIfInBounds_toArray, List.set_cons_zero, List.set_cons_succ]
  refine wpAnyH_take (i := 28) (oi := { dst := some 104, op := Go.Op.pick (Go.Operand.tmp 96) (Go.Operand.const (Go.Value.bool true)) (Go.Operand.tmp 103), type := 4, pos := "outright.go:111", after := #[{ on := 20, ground := Go.Ground.data }, { on := 27, ground := Go.Ground.data }], guard := none }) (v := ?_) rfl (by kernel_rfl) (by kernel_rfl) (by kernel_rfl) (fun _ _ _ h => h) (Or.inl ⟨by rfl, ?_⟩) (by assumption) ?_
  rotate_left
  · (intro w hSw; (try dsimp only at hSw); (go_simp <;> with_reducible rfl))
  try simp only [Act.put, List.setIfInBounds_toArray, List.set_cons_zero, List.set_cons_succ]
  refine wpAnyH_take (i := 29) (oi := { dst := some 105, op := Go.Op.move (Go.Operand.tmp 104), type := 4, pos := "outright.go:111", after := #[{ on := 28, ground := Go.Ground.data }, { on := 26, ground := Go.Ground.chain }], guard := none }) (v := ?_) rfl (by kernel_rfl) (by kernel_rfl) (by kernel_rfl) (fun _ _ _ h => h) (Or.inl ⟨by rfl, ?_⟩) (by assumption) ?_
  rotate_left
  · (intro w hSw; (try dsimp only at hSw); (go_simp <;> with_reducible rfl))
  try simp only [Act.put, List.setIfInBounds_toArray, List.set_cons_zero, List.set_cons_succ]
  refine wpAnyH_take (i := 30) (oi := { dst := some 106, op := Go.Op.move (Go.Operand.tmp 15), type := 32, pos := "outright.go:111", after := #[{ on := 29, ground := Go.Ground.guard }], guard := some (29, false) }) (v := ?_) rfl (by kernel_rfl) (by kernel_rfl) (by kernel_rfl) (fun _ _ _ h => h) (Or.inl ⟨by rfl, ?_⟩) (by assumption) ?_
  rotate_left
  · (intro w hSw; (try dsimp only at hSw); (go_simp <;> with_reducible rfl))
  try simp only [Act.put, List.setIfInBounds_toArray, List.set_cons_zero, List.set_cons_succ]
  refine wpAnyH_take (i := 31) (oi := { dst := some 107, op := Go.Op.move (Go.Operand.tmp 14), type := 32, pos := "outright.go:111", after := #[{ on := 29, ground := Go.Ground.guard }], guard := some (29, false) }) (v := ?_) rfl (by kernel_rfl) (by kernel_rfl) (by kernel_rfl) (fun _ _ _ h => h) (Or.inl ⟨by rfl, ?_⟩) (by assumption) ?_
  rotate_left
  · (intro w hSw; (try dsimp only at hSw); (go_simp <;> with_reducible rfl))
  try simp only [Act.put, List.setIfInBounds_toArray, List.set_cons_zero, List.set_cons_succ]
  refine wpAnyH_ready (rs := [32]) (by kernel_rfl) (by simp) ?_
  refine AllReadyH.cons (o := { dst := some 108, op := Go.Op.call { callee := Go.Callee.value (Go.Operand.func 30), args := #[Go.Operand.tmp 106, Go.Operand.tmp 107], argTypes := #[32, 32] }, type := 4, pos := "outright.go:111", after := #[{ on := 30, ground := Go.Ground.data }, { on := 31, ground := Go.Ground.data }, { on := 29, ground := Go.Ground.chain }, { on := 29, ground := Go.Ground.guard }], guard := some (29, false) }) rfl (fun K hK => ?_) ?_
  rotate_left
  · exact AllReadyH.nil
  go_simp
  obtain ⟨_, _, hv, hl, -, -, hat, -⟩ := hHeld.x.at
  cases hv
  obtain ⟨_, _, hv, -, -, -, hat2, -⟩ := hHeld.y.at
  cases hv
  refine (same_eq ay ax k cy cx (b.take k) _ hl hat2 hat (by omega)).mono ?_
  clear hat hat2 hl
  rintro e wj ⟨rfl, hgj⟩
  have hSj := hHeld.kept hgj
  go_wp2_with fail
  refine hK.out _ _ ?_ (fun hHeld => ?_)
  · ((try dsimp only); assumption)
  clear hK K
  try simp only [Act.put, List.setIfInBounds_toArray, List.set_cons_zero, List.set_cons_succ]
  refine wpAnyH_take (i := 33) (oi := { dst := some 109, op := Go.Op.unOp Go.UnOp.not 4 (Go.Operand.tmp 108), type := 4, pos := "outright.go:111", after := #[{ on := 32, ground := Go.Ground.data }, { on := 29, ground := Go.Ground.guard }], guard := some (29, false) }) (v := ?_) rfl (by kernel_rfl) (by kernel_rfl) (by kernel_rfl) (fun _ _ _ h => h) (Or.inl ⟨by rfl, ?_⟩) (by assumption) ?_
  rotate_left
  · (intro w hSw; (try dsimp only at hSw); (go_simp <;> with_reducible rfl))
  try simp only [Act.put, List.setIfInBounds_toArray, List.set_cons_zero, List.set_cons_succ]
  refine wpAnyH_take (i := 34) (oi := { dst := some 110, op := Go.Op.pick (Go.Operand.tmp 105) (Go.Operand.const (Go.Value.bool true)) (Go.Operand.tmp 109), type := 4, pos := "outright.go:111", after := #[{ on := 29, ground := Go.Ground.data }, { on := 33, ground := Go.Ground.data }], guard := none }) (v := ?_) rfl (by kernel_rfl) (by kernel_rfl) (by kernel_rfl) (fun _ _ _ h => h) (Or.inl ⟨by rfl, ?_⟩) (by assumption) ?_
  rotate_left
  · (intro w hSw; (try dsimp only at hSw); (go_simp <;> with_reducible rfl))
  try simp only [Act.put, List.setIfInBounds_toArray, List.set_cons_zero, List.set_cons_succ]
  refine wpAnyH_take (i := 35) (oi := { dst := some 111, op := Go.Op.move (Go.Operand.tmp 110), type := 4, pos := "outright.go:111", after := #[{ on := 34, ground := Go.Ground.data }, { on := 32, ground := Go.Ground.chain }], guard := none }) (v := ?_) rfl (by kernel_rfl) (by kernel_rfl) (by kernel_rfl) (fun _ _ _ h => h) (Or.inl ⟨by rfl, ?_⟩) (by assumption) ?_
  rotate_left
  · (intro w hSw; (try dsimp only at hSw); (go_simp <;> with_reducible rfl))
  try simp only [Act.put, List.setIfInBounds_toArray, List.set_cons_zero, List.set_cons_succ]
  refine wpAnyH_take (i := 36) (oi := { dst := some 112, op := Go.Op.move (Go.Operand.tmp 17), type := 32, pos := "outright.go:111", after := #[{ on := 35, ground := Go.Ground.guard }], guard := some (35, false) }) (v := ?_) rfl (by kernel_rfl) (by kernel_rfl) (by kernel_rfl) (fun _ _ _ h => h) (Or.inl ⟨by rfl, ?_⟩) (by assumption) ?_
  rotate_left
  · (intro w hSw; (try dsimp only at hSw); (go_simp <;> with_reducible rfl))
  try simp only [Act.put, List.setIfInBounds_toArray, List.set_cons_zero, List.set_cons_succ]
  refine wpAnyH_take (i := 37) (oi := { dst := some 113, op := Go.Op.move (Go.Operand.tmp 16), type := 32, pos := "outright.go:111", after := #[{ on := 35, ground := Go.Ground.guard }], guard := some (35, false) }) (v := ?_) rfl (by kernel_rfl) (by kernel_rfl) (by kernel_rfl) (fun _ _ _ h => h) (Or.inl ⟨by rfl, ?_⟩) (by assumption) ?_
  rotate_left
  · (intro w hSw; (try dsimp only at hSw); (go_simp <;> with_reducible rfl))
  try simp only [Act.put, List.setIfInBounds_toArray, List.set_cons_zero, List.set_cons_succ]
  refine wpAnyH_ready (rs := [38]) (by kernel_rfl) (by simp) ?_
  refine AllReadyH.cons (o := { dst := some 114, op := Go.Op.call { callee := Go.Callee.value (Go.Operand.func 30), args := #[Go.Operand.tmp 112, Go.Operand.tmp 113], argTypes := #[32, 32] }, type := 4, pos := "outright.go:111", after := #[{ on := 36, ground := Go.Ground.data }, { on := 37, ground := Go.Ground.data }, { on := 35, ground := Go.Ground.chain }, { on := 35, ground := Go.Ground.guard }], guard := some (35, false) }) rfl (fun K hK => ?_) ?_
  rotate_left
  · exact AllReadyH.nil
  go_simp
  obtain ⟨_, _, hv, hl, -, -, hat, -⟩ := hHeld.rest.at
  cases hv
  obtain ⟨_, _, hv, -, -, -, hat2, -⟩ := hHeld.same.at
  cases hv
  refine (same_eq aq ar (n - k) cq cr (b.drop k) _ hl hat2 hat (by omega)).mono ?_
  clear hat hat2 hl
  rintro e wl ⟨rfl, hgl⟩
  have hSl := hHeld.kept hgl
  go_wp2_with fail
  refine hK.out _ _ ?_ (fun hHeld => ?_)
  · ((try dsimp only); assumption)
  clear hK K
  try simp only [Act.put, List.setIfInBounds_toArray, List.set_cons_zero, List.set_cons_succ]
  refine wpAnyH_take (i := 39) (oi := { dst := some 115, op := Go.Op.unOp Go.UnOp.not 4 (Go.Operand.tmp 114), type := 4, pos := "outright.go:111", after := #[{ on := 38, ground := Go.Ground.data }, { on := 35, ground := Go.Ground.guard }], guard := some (35, false) }) (v := ?_) rfl (by kernel_rfl) (by kernel_rfl) (by kernel_rfl) (fun _ _ _ h => h) (Or.inl ⟨by rfl, ?_⟩) (by assumption) ?_
  rotate_left
  · (intro w hSw; (try dsimp only at hSw); (go_simp <;> with_reducible rfl))
  try simp only [Act.put, List.setIfInBounds_toArray, List.set_cons_zero, List.set_cons_succ]
  refine wpAnyH_take (i := 40) (oi := { dst := some 116, op := Go.Op.pick (Go.Operand.tmp 111) (Go.Operand.const (Go.Value.bool true)) (Go.Operand.tmp 115), type := 4, pos := "outright.go:111", after := #[{ on := 35, ground := Go.Ground.data }, { on := 39, ground := Go.Ground.data }], guard := none }) (v := ?_) rfl (by kernel_rfl) (by kernel_rfl) (by kernel_rfl) (fun _ _ _ h => h) (Or.inl ⟨by rfl, ?_⟩) (by assumption) ?_
  rotate_left
  · (intro w hSw; (try dsimp only at hSw); (go_simp <;> with_reducible rfl))
  try simp only [Act.put, List.setIfInBounds_toArray, List.set_cons_zero, List.set_cons_succ]
  refine wpAnyH_done (by kernel_rfl) ?_ _
  have HS := hide hHeld
  clear hHeld hSl hgl hSj hgj hSi hgi hath hoh hSh hgX hgh hSg hSX hgg hog hSf hgf hSe hge hA2 hSd hgd hSc hgc hA1 hSb hgb hSa hga hA0 HT1
  have HP := hide HS.out.le
  go_wp2_with fail
  refine (out_ex W (n + 1 + m + 1) (b ++ [7] ++ more ++ [1]) wl HS.out.ws.ww HLn.out.2.1 (by omega)).mono ?_
  rintro e wm ⟨O, rfl, -, hO, hrO, hgm⟩
  have HS1 := hide (And.intro (HS.out.kept hgm) (And.intro hrO hO))
  have zm := hgm.size
  have hOl := row_lt hrO
  clear hrO hgm
  go_wp2_with fail
  refine (out_ex W (n + 1 + m + 1) (b ++ [7] ++ more ++ [1]) wm HS1.out.1.ws.ww HLn.out.2.1 (by omega)).mono ?_
  rintro e wo ⟨P, rfl, -, hP, hrP, hgo⟩
  have HS2 := hide (And.intro (HS1.out.1.kept hgo) (And.intro ((hgo.block O hOl (by simp)).trans HS1.out.2.1) hrP))
  have zo := hgo.size
  have hPl := row_lt hrP
  have hle := HP.out
  have hOs : s7 ≤ O := by omega
  have hOP : O < P := by omega
  clear hrP hgo HS1 HS
  go_wp2_with fail
  have hrows : Ap.Rw wo 0 [.slice ax k cx, .slice ar (n - k) cr, .slice ay k cy, .slice aq (n - k) cq, .slice (some ⟨O, 0, none⟩) (n + 1 + m + 1) (n + 1 + m + 1), .slice (some ⟨P, 0, none⟩) (n + 1 + m + 1) (n + 1 + m + 1), .slice ai n ci] := by
    obtain ⟨hSt, hrO, hrP⟩ := HS2.out
    have oO := Ap.own_of_row (B := 0) hrO (by rw [List.length_map, HLn.out.2.1]) (Nat.zero_le _) (by unfold maxLen; omega)
    have oP := Ap.own_of_row (B := 0) hrP (by rw [List.length_map, HLn.out.2.1]) (Nat.zero_le _) (by unfold maxLen; omega)
    have rO : Rng (.slice (some ⟨O, 0, none⟩) (n + 1 + m + 1) (n + 1 + m + 1)) O (O + 1) := fun j e => by simp [Value.ownBlock] at e; omega
    have rP : Rng (.slice (some ⟨P, 0, none⟩) (n + 1 + m + 1) (n + 1 + m + 1)) P (P + 1) := fun j e => by simp [Value.ownBlock] at e; omega
    have rx := hSt.x.rng
    have ry := hSt.y.rng
    have rr := hSt.rest.rng
    have rq := hSt.same.rng
    have ri := hSt.vin.rng
    refine Ap.Rw.cons hSt.x.own (by omega) (fun u hu => ?_) (Ap.Rw.cons hSt.rest.own (by omega) (fun u hu => ?_) (Ap.Rw.cons hSt.y.own (by omega) (fun u hu => ?_) (Ap.Rw.cons hSt.same.own (by omega) (fun u hu => ?_) (Ap.Rw.cons oO (by omega) (fun u hu => ?_) (Ap.Rw.cons oP (by omega) (fun u hu => ?_) (Ap.Rw.cons hSt.vin.own (by omega) (fun u hu => by cases hu) (Ap.Rw.nil _ _)))))))
    · simp only [List.mem_cons, List.not_mem_nil, or_false] at hu
      rcases hu with rfl | rfl | rfl | rfl | rfl | rfl
      · exact rx.apart rr (by omega)
      · exact rx.apart ry (by omega)
      · exact rx.apart rq (by omega)
      · exact rx.apart rO (by omega)
      · exact rx.apart rP (by omega)
      · exact rx.apart' ri (by omega)
    · simp only [List.mem_cons, List.not_mem_nil, or_false] at hu
      rcases hu with rfl | rfl | rfl | rfl | rfl
      · exact rr.apart' ry (by omega)
      · exact rr.apart rq (by omega)
      · exact rr.apart rO (by omega)
      · exact rr.apart rP (by omega)
      · exact rr.apart' ri (by omega)
    · simp only [List.mem_cons, List.not_mem_nil, or_false] at hu
      rcases hu with rfl | rfl | rfl | rfl
      · exact ry.apart rq (by omega)
      · exact ry.apart rO (by omega)
      · exact ry.apart rP (by omega)
      · exact ry.apart' ri (by omega)
    · simp only [List.mem_cons, List.not_mem_nil, or_false] at hu
      rcases hu with rfl | rfl | rfl
      · exact rq.apart rO (by omega)
      · exact rq.apart rP (by omega)
      · exact rq.apart' ri (by omega)
    · simp only [List.mem_cons, List.not_mem_nil, or_false] at hu
      rcases hu with rfl | rfl
      · exact rO.apart rP (by omega)
      · exact rO.apart' ri (by omega)
    · simp only [List.mem_cons, List.not_mem_nil, or_false] at hu
      subst hu
      exact rP.apart' ri (by omega)
  have hblk : ∀ j, (∃ i, i < 7 ∧ (([.slice ax k cx, .slice ar (n - k) cr, .slice ay k cy, .slice aq (n - k) cq, .slice (some ⟨O, 0, none⟩) (n + 1 + m + 1) (n + 1 + m + 1), .slice (some ⟨P, 0, none⟩) (n + 1 + m + 1) (n + 1 + m + 1), .slice ai n ci] : List Value).getD i undef).ownBlock = some j) → (∃ c, wo.heap[j]? = some (.cells c 5 (0, 0))) ∧ w.heap.size ≤ j ∧ (j < s6 ∨ s7 ≤ j) := by
    intro j hj
    obtain ⟨v, hv, e⟩ := mem_own (vs := [.slice ax k cx, .slice ar (n - k) cr, .slice ay k cy, .slice aq (n - k) cq, .slice (some ⟨O, 0, none⟩) (n + 1 + m + 1) (n + 1 + m + 1), .slice (some ⟨P, 0, none⟩) (n + 1 + m + 1) (n + 1 + m + 1), .slice ai n ci]) hj
    obtain ⟨hSt, hrO, hrP⟩ := HS2.out
    simp only [List.mem_cons, List.not_mem_nil, or_false] at hv
    rcases hv with rfl | rfl | rfl | rfl | rfl | rfl | rfl
    · have := hSt.x.rng j e; exact ⟨row_ty hSt.x.own e, by omega, by omega⟩
    · have := hSt.rest.rng j e; exact ⟨row_ty hSt.rest.own e, by omega, by omega⟩
    · have := hSt.y.rng j e; exact ⟨row_ty hSt.y.own e, by omega, by omega⟩
    · have := hSt.same.rng j e; exact ⟨row_ty hSt.same.own e, by omega, by omega⟩
    · simp only [Value.ownBlock, Option.some.injEq] at e; subst e; exact ⟨⟨_, hrO⟩, by omega, by omega⟩
    · simp only [Value.ownBlock, Option.some.injEq] at e; subst e; exact ⟨⟨_, hrP⟩, by omega, by omega⟩
    · have := hSt.vin.rng j e; exact ⟨row_ty hSt.vin.own e, by omega, by omega⟩
  refine (Ap.apartBytes_rows 0 _ wo hrows (Nat.zero_le _) (by simp) (by simp)).mono ?_
  clear hrows
  rintro e wp ⟨rfl, hgp⟩
  have hWp := wr_T HS2.out.1.ws.ww hgp (fun j t => (hblk j t).1)
  have hlp := Ap.own_keptT HS2.out.1.last.own hgp (fun j e t => by have := HS2.out.1.last.rng j e; have := (hblk j t).2.2; omega)
  have hGp := Ap.grownT_after HS2.out.1.ws.grown hgp (fun j t => (hblk j t).2.1)
  have HS3 := hide (And.intro hWp (And.intro hlp hGp))
  clear hWp hlp hGp hgp hblk HS2 HP hle hOs hOP hO hP
  go_wp2_with fail
  refine (out_ex W (n + 1 + m + 1) (b ++ [7] ++ more ++ [1]) wp HS3.out.1 HLn.out.2.1 (by omega)).mono ?_
  rintro e wq ⟨Q, rfl, hQ, -, -, hgq⟩
  have HS4 := hide (And.intro hQ (And.intro (sp_keep HS3.out.2.1 hgq) (grown_trans HS3.out.2.2 hgq)))
  clear hQ hgq HS3
  go_wp2_with fail
  obtain ⟨_, _, hv, -, -, -, hat, -⟩ := own_at HS4.out.2.1
  cases hv
  refine (same_eq (some ⟨Q, 0, none⟩) al (n + 1 + m + 1) (n + 1 + m + 1) cl (b ++ [7] ++ more ++ [1]) wq HLn.out.2.1 HS4.out.1 hat (by omega)).mono ?_
  clear hat
  rintro e wr ⟨rfl, hgr⟩
  have HS5 := hide (grown_trans HS4.out.2.2 hgr)
  clear hgr HS4
  go_wp2_with fail
  refine (awake_any wr).mono ?_
  rintro e ws ⟨rfl, hgs⟩
  have HS6 := hide (grown_trans HS5.out hgs)
  clear hgs HS5
  go_wp2
  go_ret
  exact ⟨rfl, HS6.out⟩
end Go.Proofs.Ytckmghagfaecmaa
