/- Texts joined: Nu. -/
import Derived.Test.YtofdijaipjkfbaaDoorJnAu
/- WalNumbers: the walk. -/
namespace Go.Proofs.YtofdijaipjkfbaaDoor
open Go.RowKit Ap
attribute [local go_sem ↓] Go.wp_at_zero Go.wp_at_succ
theorem u1n : U64 1 := ⟨by decide, by decide⟩
theorem uMax : U64 18446744073709551614 := ⟨by decide, by decide⟩
theorem sAppendE {w0 w : World} {N b r c : Nat} {k : Dk} {D : List Nat} {g : Lg} {S : Int} {fs : List Fm.Fr} (h : FrS w0 w N b r k c D g S fs) (hT : Fm.Cr.Tab w0) (hw0 : 0 < w0.heap.size) (ao : Option Addr) (m cap : Nat) (xs : List Nat) (hm : xs.length = m) (hat : At w ao xs) (hb : Bytes xs) (hc : m ≤ cap) (hcm : cap ≤ maxLen) (hap : apC N g m = 0) :
    Calls Tryd.prog 6 #[.pointer (some ⟨g.l, 0, none⟩), .slice ao m cap] w fun e w' => e = .returned (.tuple #[.int .u64 (g.la + 1), .int .i64 0]) ∧ ∃ v', FrS w0 w' N b r k c D (g.more xs v') S (fs ++ [g.fr xs]) ∧ LgM w w' g (g.more xs v') := by
  refine (sAppend h hT hw0 ao m cap xs hm hat hb hc hcm).mono ?_
  rintro e w' (h1 | h1)
  · exact absurd hap h1.1
  · exact h1.2
theorem sAppendN {w0 w : World} {N b r c : Nat} {k : Dk} {D : List Nat} {g : Lg} {S : Int} {fs : List Fm.Fr} (h : FrS w0 w N b r k c D g S fs) (hT : Fm.Cr.Tab w0) (hw0 : 0 < w0.heap.size) (ao : Option Addr) (m cap : Nat) (xs : List Nat) (hm : xs.length = m) (hat : At w ao xs) (hb : Bytes xs) (hc : m ≤ cap) (hcm : cap ≤ maxLen) (x : Int) (hap : apC N g m = x) (hx : x ≠ 0) :
    Calls Tryd.prog 6 #[.pointer (some ⟨g.l, 0, none⟩), .slice ao m cap] w fun e w' => e = .returned (.tuple #[.int .u64 0, .int .i64 x]) ∧ w.grownBy w' none := by
  refine (sAppend h hT hw0 ao m cap xs hm hat hb hc hcm).mono ?_
  rw [hap]
  rintro e w' (h1 | h1)
  · exact h1.2
  · exact absurd h1.1 hx
theorem ap_long (N : Nat) (g : Lg) (m : Nat) (h : 32 < m) : apC N g m = 3 := by unfold apC; rw [if_pos h]
theorem ap_ok (N : Nat) (g : Lg) (m : Nat) (h : m ≤ 32) (hl : g.la ≠ 18446744073709551615) (hr : g.end_ + (22 + m) ≤ N * 64) : apC N g m = 0 := by
  unfold apC fitsB; rw [if_neg (by omega), decide_eq_true (by omega)]; rfl
theorem ap_last (N : Nat) (g : Lg) (m : Nat) (h : m ≤ 32) (hl : g.la = 18446744073709551615) : apC N g m = 6 := by
  unfold apC fitsB; rw [if_neg (by omega), decide_eq_false (by omega)]; rfl
theorem ap_full (N : Nat) (g : Lg) (m : Nat) (h : m ≤ 32) (hr : N * 64 < g.end_ + (22 + m)) : apC N g m = 6 := by
  unfold apC fitsB; rw [if_neg (by omega), decide_eq_false (by omega)]; rfl
theorem more_end (g : Lg) (xs : List Nat) (v : Value) : (g.more xs v).end_ = g.end_ + (22 + xs.length) := by
  show g.a + (g.bs ++ Fm.nats (g.fr xs).out).length = g.a + g.bs.length + _
  rw [List.length_append, Fm.nats_length, fr_len]; omega
theorem zs_len (m : Nat) : (zs m).length = m := List.length_replicate ..
set_option maxRecDepth 100000 in
set_option maxHeartbeats 16000000 in
theorem walNumbers_any (w : World) (hT : Fm.Cr.Tab w) (hw0 : 0 < w.heap.size) : Calls Tryd.prog 3 #[] w fun e w' => e = .returned (.bool true) ∧ w.grownBy w' none := by
  have HT := hide (And.intro hT hw0)
  clear hT hw0
  go_enter Tryd.func3, Tryd.ntmps3
  go_wp2
  have g1 := World.grownBy_alloc w (.cells #[.int .i64 0, .slice none 0 0, .pointer none, .int .u64 0, .int .u64 0, .int .u64 0] 29) none
  have n1 : (w.alloc (.cells #[.int .i64 0, .slice none 0 0, .pointer none, .int .u64 0, .int .u64 0, .int .u64 0] 29)).cell? ⟨w.heap.size, 2, none⟩ = some (.pointer none) := cell_row (l := [.int .i64 0, .slice none 0 0, .pointer none, .int .u64 0, .int .u64 0, .int .u64 0]) (heap_alloc_new w _) 2
  have z1 : (w.alloc (.cells #[.int .i64 0, .slice none 0 0, .pointer none, .int .u64 0, .int .u64 0, .int .u64 0] 29)).heap.size = w.heap.size + 1 := by unfold World.alloc; exact Array.size_push ..
  have g2 := World.grownBy_alloc (w.alloc (.cells #[.int .i64 0, .slice none 0 0, .pointer none, .int .u64 0, .int .u64 0, .int .u64 0] 29)) (.cells #[.pointer none, .pointer (some ⟨w.heap.size, 0, none⟩)] 22) none
  have n2 : ((w.alloc (.cells #[.int .i64 0, .slice none 0 0, .pointer none, .int .u64 0, .int .u64 0, .int .u64 0] 29)).alloc (.cells #[.pointer none, .pointer (some ⟨w.heap.size, 0, none⟩)] 22)).heap[w.heap.size + 1]? = some (.cells [Value.pointer none, .pointer (some ⟨w.heap.size, 0, none⟩)].toArray 22 (0, 0)) := by
    rw [← z1]; exact heap_alloc_new _ _
  have H2 := hide (And.intro (grown_trans g1 g2) (And.intro n2 (g2.cell n1 (by simp))))
  clear g1 n1 z1 g2 n2
  generalize (w.alloc (.cells #[.int .i64 0, .slice none 0 0, .pointer none, .int .u64 0, .int .u64 0, .int .u64 0] 29)).alloc (.cells #[.pointer none, .pointer (some ⟨w.heap.size, 0, none⟩)] 22) = w2 at *
  generalize hA : w.heap.size = A at *
  replace HT : Hid (Fm.Cr.Tab w ∧ 0 < w.heap.size) := ⟨HT.out.1, by rw [hA]; exact HT.out.2⟩
  clear hA
  go_loopg [37] 2 (fun q i wr => ∃ j : Nat, q + j = 2 ∧ i = .int .i64 j ∧ Hid (w2.grownBy wr none))
  case atStart => exact ⟨0, by omega, rfl, hide (grown_refl _ _)⟩
  case round =>
    obtain ⟨j, hkj, rfl, HR⟩ := hrel
    by_cases hk : 0 < gk
    · have hj : j = 0 ∨ j = 1 := by omega
      have c0 : wr.cell? ⟨A + 1, 0, none⟩ = some (.pointer none) := HR.out.cell (cell_row H2.out.2.1 0) (by simp)
      have c1 : wr.cell? ⟨A + 1, 1, none⟩ = some (.pointer (some ⟨A, 0, none⟩)) := HR.out.cell (cell_row H2.out.2.1 1) (by simp)
      have HN : Hid (NoLog wr none ∧ NoLog wr (some ⟨A, 0, none⟩)) := ⟨.inl rfl, .inr ⟨A, rfl, HR.out.cell H2.out.2.2 (by simp)⟩⟩
      rcases hj with rfl | rfl
      · go_wp2_with fail
        refine (nlAppend HN.out.1).mono ?_
        rintro e wx ⟨rfl, hwx⟩
        obtain rfl := hwx.symm
        go_wp2_with fail
        refine (nlFlush HN.out.1).mono ?_
        rintro e wx ⟨rfl, hwx⟩
        obtain rfl := hwx.symm
        go_wp2_with fail
        refine (nlReset HN.out.1 4).mono ?_
        rintro e wx ⟨rfl, hwx⟩
        obtain rfl := hwx.symm
        go_wp2_with fail
        refine (nlFits HN.out.1 0).mono ?_
        rintro e wx ⟨rfl, hwx⟩
        obtain rfl := hwx.symm
        go_wp2_with fail
        refine (nlEpoch HN.out.1).mono ?_
        rintro e wx ⟨rfl, hwx⟩
        obtain rfl := hwx.symm
        go_wp2_with fail
        refine (nlLast HN.out.1).mono ?_
        rintro e wx ⟨rfl, hwx⟩
        obtain rfl := hwx.symm
        go_wp2_with fail
        refine (nlDurable HN.out.1).mono ?_
        rintro e wx ⟨rfl, hwx⟩
        obtain rfl := hwx.symm
        go_wp2_with fail
        refine (nlUsed HN.out.1).mono ?_
        rintro e wx ⟨rfl, hwx⟩
        obtain rfl := hwx.symm
        go_wp2_with fail
        refine (nlRoom HN.out.1).mono ?_
        rintro e wx ⟨rfl, hwx⟩
        obtain rfl := hwx.symm
        go_wp2
        go_roundg (gk - 1)
        case measure => omega
        case rel => exact ⟨0 + 1, by omega, by go_num, HR⟩
      · go_wp2_with fail
        refine (nlAppend HN.out.2).mono ?_
        rintro e wx ⟨rfl, hwx⟩
        obtain rfl := hwx.symm
        go_wp2_with fail
        refine (nlFlush HN.out.2).mono ?_
        rintro e wx ⟨rfl, hwx⟩
        obtain rfl := hwx.symm
        go_wp2_with fail
        refine (nlReset HN.out.2 4).mono ?_
        rintro e wx ⟨rfl, hwx⟩
        obtain rfl := hwx.symm
        go_wp2_with fail
        refine (nlFits HN.out.2 0).mono ?_
        rintro e wx ⟨rfl, hwx⟩
        obtain rfl := hwx.symm
        go_wp2_with fail
        refine (nlEpoch HN.out.2).mono ?_
        rintro e wx ⟨rfl, hwx⟩
        obtain rfl := hwx.symm
        go_wp2_with fail
        refine (nlLast HN.out.2).mono ?_
        rintro e wx ⟨rfl, hwx⟩
        obtain rfl := hwx.symm
        go_wp2_with fail
        refine (nlDurable HN.out.2).mono ?_
        rintro e wx ⟨rfl, hwx⟩
        obtain rfl := hwx.symm
        go_wp2_with fail
        refine (nlUsed HN.out.2).mono ?_
        rintro e wx ⟨rfl, hwx⟩
        obtain rfl := hwx.symm
        go_wp2_with fail
        refine (nlRoom HN.out.2).mono ?_
        rintro e wx ⟨rfl, hwx⟩
        obtain rfl := hwx.symm
        go_wp2
        go_roundg (gk - 1)
        case measure => omega
        case rel => exact ⟨1 + 1, by omega, by go_num, HR⟩
    · have hj : j = 2 := by omega
      subst hj
      have hgR := HR.out
      clear HR
      have HG0 := hide (grown_trans H2.out.1 hgR)
      clear H2 hgR
      go_wp2_with fail
      refine (nlNew (p := none) (w := wr) (.inl rfl) 1 1).mono ?_
      rintro e wx ⟨rfl, hwx⟩
      obtain rfl := hwx.symm
      go_wp2_with fail
      have g3 := World.grownBy_alloc wr (.cells #[Value.pointer none, .int .i64 0, .int .i64 0] 47) none
      have n3 : (wr.alloc (.cells #[Value.pointer none, .int .i64 0, .int .i64 0] 47)).cell? ⟨wr.heap.size, 0, none⟩ = some (.pointer none) := cell_row (l := [Value.pointer none, .int .i64 0, .int .i64 0]) (heap_alloc_new wr _) 0
      have H3 := hide (And.intro (grown_trans HG0.out g3) n3)
      clear g3 n3 HG0
      generalize wr.alloc (.cells #[Value.pointer none, .int .i64 0, .int .i64 0] 47) = w3 at *
      generalize wr.heap.size = A3 at *
      refine (nlNew (.inr ⟨⟨A3, 0, none⟩, rfl, H3.out.2⟩) 1 1).mono ?_
      rintro e wx ⟨rfl, hwx⟩
      obtain rfl := hwx.symm
      go_wp2_with fail
      have g4 := World.grownBy_alloc w3 (.cells #[Value.pointer none, .int .i64 0, .int .i64 0] 47) none
      have n4 : (w3.alloc (.cells #[Value.pointer none, .int .i64 0, .int .i64 0] 47)).cell? ⟨w3.heap.size, 0, none⟩ = some (.pointer none) := cell_row (l := [Value.pointer none, .int .i64 0, .int .i64 0]) (heap_alloc_new w3 _) 0
      have H4 := hide (And.intro (grown_trans H3.out.1 g4) n4)
      clear g4 n4 H3
      generalize w3.alloc (.cells #[Value.pointer none, .int .i64 0, .int .i64 0] 47) = w4 at *
      generalize w3.heap.size = A4 at *
      refine (nlScan (.inr ⟨⟨A4, 0, none⟩, rfl, H4.out.2⟩) 1 1).mono ?_
      rintro e w5 ⟨rfl, g5⟩
      have H5 := hide (grown_trans H4.out.1 g5)
      clear g5 H4
      go_wp2_with fail
      refine (place_any w w5 1 H5.out).mono ?_
      rintro e w6 ⟨p, r, qr, rfl, p6⟩
      rw [pN1] at p6
      have P6 := hide p6
      clear p6
      go_wp2_with fail
      refine (sNew P6.out H5.out.size (by omega) (by omega) 1 18446744073709551614 u1n uMax).mono ?_
      rintro e w7 ⟨l, rfl, h7, g7⟩
      have H7 := hide h7
      clear h7 g7 P6 H5
      have hmk := make_bytes 33 (by omega) w7
      rw [show ((33 : Nat) : Int) = 33 from rfl] at hmk
      have g8 := World.grownBy_alloc w7 (.cells (bv (zs 33)).toArray 5) none
      have n8 : (w7.alloc (.cells (bv (zs 33)).toArray 5)).heap[w7.heap.size]? = some (.cells (bv (zs 33)).toArray 5 (0, 0)) := heap_alloc_new w7 _
      have H8 := hide (And.intro (H7.out.then g8) n8)
      clear g8 n8 H7
      go_wp2_with fail
      generalize w7.alloc (.cells (bv (zs 33)).toArray 5) = w8 at *
      generalize w7.heap.size = A8 at *
      clear hmk
      refine (sAppendN H8.out.1 HT.out.1 HT.out.2 (some ⟨A8, 0, none⟩) 33 33 (zs 33) (zs_len _) (aw_at H8.out.2) (zs_bytes _) (Nat.le_refl _) (by decide) 3 (ap_long _ _ _ (by omega)) (by decide)).mono ?_
      rintro e w9 ⟨rfl, g9⟩
      have H9 := hide (H8.out.1.then g9)
      clear g9 H8
      have hmk := make_bytes 32 (by omega) w9
      rw [show ((32 : Nat) : Int) = 32 from rfl] at hmk
      have g8 := World.grownBy_alloc w9 (.cells (bv (zs 32)).toArray 5) none
      have n8 : (w9.alloc (.cells (bv (zs 32)).toArray 5)).heap[w9.heap.size]? = some (.cells (bv (zs 32)).toArray 5 (0, 0)) := heap_alloc_new w9 _
      have H10 := hide (And.intro (H9.out.then g8) n8)
      clear g8 n8 H9
      go_wp2_with fail
      generalize w9.alloc (.cells (bv (zs 32)).toArray 5) = w10 at *
      generalize w9.heap.size = A10 at *
      clear hmk
      refine (sAppendE H10.out.1 HT.out.1 HT.out.2 (some ⟨A10, 0, none⟩) 32 32 (zs 32) (zs_len _) (aw_at H10.out.2) (zs_bytes _) (Nat.le_refl _) (by decide) (ap_ok _ _ _ (by omega) (by simp [Lg.new]) (by show 0 + (22 + 32) ≤ 2 * 64; omega))).mono ?_
      rintro e w11 ⟨rfl, v11, h11, -⟩
      have HL : Hid (((Lg.new l 1 18446744073709551614).more (zs 32) v11).l = l ∧ ((Lg.new l 1 18446744073709551614).more (zs 32) v11).la = 18446744073709551615) := ⟨rfl, rfl⟩
      have e15 : (Lg.new l 1 18446744073709551614).la + 1 = 18446744073709551615 := rfl
      rw [e15]
      clear e15
      have H11 := hide h11
      clear h11 H10
      generalize (Lg.new l 1 18446744073709551614).more (zs 32) v11 = gl at *
      generalize [] ++ [(Lg.new l 1 18446744073709551614).fr (zs 32)] = fl at *
      have ha := sAppendN H11.out HT.out.1 HT.out.2 none 0 0 [] rfl (At.nil _ _) (fun x hx => by cases hx) (Nat.le_refl _) (by decide) 6 (ap_last _ _ _ (by omega) HL.out.2) (by decide)
      rw [HL.out.1] at ha
      go_wp2_with fail
      refine ha.mono ?_
      clear ha
      rintro e w12 ⟨rfl, g12⟩
      have H12 := hide (H11.out.then g12)
      clear g12 H11
      go_wp2_with fail
      refine (lNew_at H12.out.at_.dev H12.out.at_.rg (by omega) (by omega) (by omega) H12.out.at_.rlow 1 1 u1n u1n).mono ?_
      rintro e w13 ⟨k, rfl, h13, l13, g13⟩
      have K13 : Hid (FrS w w13 2 p.b r p.k 0 (zs ((2 + 1) * 64)) (Lg.new k 1 1) 1 [] ∧ w12.grownBy w13 none ∧ ∀ i, lfoot (Lg.new k 1 1) i → w12.heap.size ≤ i) := by
        refine ⟨⟨h13, Hist.new k 1 1 _, zs_bytes _⟩, g13, ?_⟩
        rintro i (e | e)
        · rw [e]; exact l13
        · simp [Lg.new, Value.ownBlock] at e
      clear h13 l13 g13
      have hmk := make_bytes 32 (by omega) w13
      rw [show ((32 : Nat) : Int) = 32 from rfl] at hmk
      have g8 := World.grownBy_alloc w13 (.cells (bv (zs 32)).toArray 5) none
      have n8 : (w13.alloc (.cells (bv (zs 32)).toArray 5)).heap[w13.heap.size]? = some (.cells (bv (zs 32)).toArray 5 (0, 0)) := heap_alloc_new w13 _
      have K14 := hide (And.intro (K13.out.1.then g8) (And.intro n8 (And.intro (grown_trans K13.out.2.1 g8) K13.out.2.2)))
      clear g8 n8 K13
      go_wp2_with fail
      generalize w13.alloc (.cells (bv (zs 32)).toArray 5) = w14 at *
      generalize w13.heap.size = A14 at *
      clear hmk
      refine (sAppendE K14.out.1 HT.out.1 HT.out.2 (some ⟨A14, 0, none⟩) 32 32 (zs 32) (zs_len _) (aw_at K14.out.2.1) (zs_bytes _) (Nat.le_refl _) (by decide) (ap_ok _ _ _ (by omega) (by simp [Lg.new]) (by show 0 + (22 + 32) ≤ 2 * 64; omega))).mono ?_
      rintro e w15 ⟨rfl, v15, h15, m15⟩
      have K15 : Hid (FrS w w15 2 p.b r p.k 0 (zs ((2 + 1) * 64)) ((Lg.new k 1 1).more (zs 32) v15) 1 ([] ++ [(Lg.new k 1 1).fr (zs 32)]) ∧ (w12.grownBy w15 none ∧ ∀ i, lfoot ((Lg.new k 1 1).more (zs 32) v15) i → w12.heap.size ≤ i) ∧ ((Lg.new k 1 1).more (zs 32) v15).l = k ∧ ((Lg.new k 1 1).more (zs 32) v15).end_ = 54 ∧ ((Lg.new k 1 1).more (zs 32) v15).la = 2) := ⟨h15, m15.since K14.out.2.2.1 K14.out.2.2.2, rfl, by rw [more_end, zs_len]; rfl, rfl⟩
      clear h15 m15 K14
      generalize (Lg.new k 1 1).more (zs 32) v15 = gk1 at *
      generalize [] ++ [(Lg.new k 1 1).fr (zs 32)] = fk1 at *
      have hmk := make_bytes 30 (by omega) w15
      rw [show ((30 : Nat) : Int) = 30 from rfl] at hmk
      have g8 := World.grownBy_alloc w15 (.cells (bv (zs 30)).toArray 5) none
      have n8 : (w15.alloc (.cells (bv (zs 30)).toArray 5)).heap[w15.heap.size]? = some (.cells (bv (zs 30)).toArray 5 (0, 0)) := heap_alloc_new w15 _
      have K16 := hide (And.intro (K15.out.1.then g8) (And.intro n8 (And.intro (grown_trans K15.out.2.1.1 g8) (And.intro K15.out.2.1.2 K15.out.2.2))))
      clear g8 n8 K15
      go_wp2_with fail
      generalize w15.alloc (.cells (bv (zs 30)).toArray 5) = w16 at *
      generalize w15.heap.size = A16 at *
      clear hmk
      have ha := sAppendE K16.out.1 HT.out.1 HT.out.2 (some ⟨A16, 0, none⟩) 30 30 (zs 30) (zs_len _) (aw_at K16.out.2.1) (zs_bytes _) (Nat.le_refl _) (by decide) (ap_ok _ _ _ (by omega) (by rw [K16.out.2.2.2.2.2.2]; decide) (by rw [K16.out.2.2.2.2.2.1]; omega))
      rw [K16.out.2.2.2.2.1] at ha
      refine ha.mono ?_
      clear ha
      rintro e w17 ⟨rfl, v17, h17, m17⟩
      have K17 : Hid (FrS w w17 2 p.b r p.k 0 (zs ((2 + 1) * 64)) (gk1.more (zs 30) v17) 1 (fk1 ++ [gk1.fr (zs 30)]) ∧ (w12.grownBy w17 none ∧ ∀ i, lfoot (gk1.more (zs 30) v17) i → w12.heap.size ≤ i) ∧ (gk1.more (zs 30) v17).l = k ∧ (gk1.more (zs 30) v17).end_ = 106 ∧ (gk1.more (zs 30) v17).la = 3) := ⟨h17, m17.since K16.out.2.2.1 K16.out.2.2.2.1, K16.out.2.2.2.2.1, by rw [more_end, zs_len, K16.out.2.2.2.2.2.1], by show gk1.la + 1 = 3; rw [K16.out.2.2.2.2.2.2]; rfl⟩
      clear h17 m17 K16
      generalize gk1.more (zs 30) v17 = gk2 at *
      generalize fk1 ++ [gk1.fr (zs 30)] = fk2 at *
      generalize gk1.la + 1 = lk2 at *
      have hf := lFits_at K17.out.1.at_ 1
      have hfb : fitsB 2 gk2 1 = false := by unfold fitsB; rw [K17.out.2.2.2.1]; exact decide_eq_false (by omega)
      rw [K17.out.2.2.1, hfb] at hf
      go_wp2_with fail
      refine hf.mono ?_
      clear hf hfb
      rintro e w18 ⟨rfl, q18, rfl⟩
      have K18 := hide (And.intro (K17.out.1.then (grown_drewN w17 q18 none)) (And.intro (And.intro (grown_trans K17.out.2.1.1 (grown_drewN w17 q18 none)) K17.out.2.1.2) K17.out.2.2))
      clear K17
      generalize w17.drewN q18 = w18 at *
      go_wp2_with fail
      have g8 := World.grownBy_alloc w18 (.cells #[.int .u8 1] 5) none
      have n8 : (w18.alloc (.cells #[.int .u8 1] 5)).heap[w18.heap.size]? = some (.cells (bv [1]).toArray 5 (0, 0)) := heap_alloc_new w18 _
      have K19 := hide (And.intro (K18.out.1.then g8) (And.intro n8 (And.intro (grown_trans K18.out.2.1.1 g8) (And.intro K18.out.2.1.2 K18.out.2.2))))
      clear g8 n8 K18
      generalize w18.alloc (.cells #[.int .u8 1] 5) = w19 at *
      generalize w18.heap.size = A19 at *
      have ha := sAppendN K19.out.1 HT.out.1 HT.out.2 (some ⟨A19, 0, none⟩) 1 1 [1] rfl (aw_at K19.out.2.1) (by intro x hx; simp at hx; omega) (Nat.le_refl _) (by decide) 6 (ap_full _ _ _ (by omega) (by rw [K19.out.2.2.2.2.2.1]; omega)) (by decide)
      rw [K19.out.2.2.2.2.1] at ha
      refine ha.mono ?_
      clear ha
      rintro e w20 ⟨rfl, g20⟩
      have K20 := hide (And.intro (K19.out.1.then g20) (And.intro (grown_trans K19.out.2.2.1 g20) K19.out.2.2.2))
      clear g20 K19
      have ha := sAppendE K20.out.1 HT.out.1 HT.out.2 none 0 0 [] rfl (At.nil _ _) (fun x hx => by cases hx) (Nat.le_refl _) (by decide) (ap_ok _ _ _ (by omega) (by rw [K20.out.2.2.2.2.2]; decide) (by rw [K20.out.2.2.2.2.1]; omega))
      rw [K20.out.2.2.2.1] at ha
      go_wp2_with fail
      refine ha.mono ?_
      clear ha
      rintro e w21 ⟨rfl, v21, h21, m21⟩
      have K21 : Hid (FrS w w21 2 p.b r p.k 0 (zs ((2 + 1) * 64)) (gk2.more [] v21) 1 (fk2 ++ [gk2.fr []]) ∧ w12.grownBy w21 none ∧ (gk2.more [] v21).l = k ∧ (gk2.more [] v21).end_ = 128) := ⟨h21, (m21.since K20.out.2.1 K20.out.2.2.1).1, K20.out.2.2.2.1, by rw [more_end, K20.out.2.2.2.2.1]; rfl⟩
      clear h21 m21 K20
      generalize gk2.more [] v21 = gk3 at *
      generalize fk2 ++ [gk2.fr []] = fk3 at *
      generalize gk2.la + 1 = lk3 at *
      have L21 := hide (H12.out.then K21.out.2.1)
      have hf := lFits_at L21.out.at_ 0
      have hfb : fitsB 2 gl 0 = false := by unfold fitsB; rw [HL.out.2]; exact decide_eq_false (by omega)
      rw [HL.out.1, hfb] at hf
      go_wp2_with fail
      refine hf.mono ?_
      clear hf hfb
      rintro e w22 ⟨rfl, q22, rfl⟩
      have K22 := hide (And.intro (K21.out.1.then (grown_drewN w21 q22 none)) (And.intro K21.out.2.2 (L21.out.then (grown_drewN w21 q22 none))))
      clear K21 L21
      generalize w21.drewN q22 = w22 at *
      have hf := lLast_at K22.out.2.2.at_
      rw [HL.out.1, HL.out.2] at hf
      go_wp2_with fail
      refine hf.mono ?_
      clear hf
      rintro e wx ⟨rfl, hwx⟩
      obtain rfl := hwx.symm
      have hf := lRoom_at K22.out.1.at_
      rw [K22.out.2.1.1, K22.out.2.1.2] at hf
      go_wp2_with fail
      refine hf.mono ?_
      clear hf
      rintro e w23 ⟨rfl, q23, rfl⟩
      have K23 := hide (K22.out.1.then (grown_drewN w22 q23 none))
      clear K22
      generalize w22.drewN q23 = w23 at *
      go_wp2_with fail
      refine (awake_any w23 (HT.out.1.grown K23.out.at_.grown0) (Nat.lt_of_lt_of_le HT.out.2 K23.out.at_.grown0.size)).mono ?_
      rintro e w24 ⟨rfl, g24⟩
      have K24 := hide (grown_trans K23.out.at_.grown0 g24)
      clear g24
      go_wp2
      go_ret
      exact ⟨rfl, K24.out⟩
end Go.Proofs.YtofdijaipjkfbaaDoor
