/- The walk of BitsKeeps. -/
import Derived.Test.YtajdgkbeenalkabDoorPick
import Derived.Test.YtajdgkbeenalkabDoorKApart2
import Derived.Test.YtajdgkbeenalkabDoorKCopy
namespace Go.Proofs.YtajdgkbeenalkabDoor
open Go.RowKit Go.Shelf
attribute [local go_sem ↓] Go.wp_at_zero Go.wp_at_succ

/-- The set's bytes. -/
def bytesK (L : List Bool) : List Nat := (List.range ((L.length + 7) / 8)).map fun k => bytN L k
theorem bytesK_length (L : List Bool) : (bytesK L).length = (L.length + 7) / 8 := by simp [bytesK]
theorem bytesK_vals (L : List Bool) : (bytesL L).map (Value.int .u8) = Ap.bv (bytesK L) := by simp [bytesK, bytesL, Ap.bv]
/-- Bytes, of a set of 100 numbers. -/
theorem bytes_k (b g : Nat) (L : List Bool) (w : World) (h : SetAt w b g L) (hl : L.length = 100) :
    Calls Tryd.prog 8 #[.pointer (some ⟨b, 0, none⟩)] w fun e w' => e = .returned (.slice (some ⟨w.heap.size, 0, none⟩) 13 13) ∧ w'.heap[w.heap.size]? = some (.cells (Ap.bv (bytesK L)).toArray 5 (0, 0)) ∧ w.grownBy w' none := by
  have hb := bytes_any b g L w h
  rw [bytesK_vals, hl] at hb
  exact hb

set_option maxRecDepth 100000 in
set_option maxHeartbeats 2000000 in
theorem keeps_any (ao : Option Addr) (m cap : Nat) (xs : List Int) (w : World) (hT : Tab w) (hxs : xs.length = m) (hat : AtV w ao (xs.map (Value.int .i64))) (hm : m ≤ 4611686018427387904) :
    Calls Tryd.prog 3 #[.slice ao m cap] w fun e w' => e = .returned (.bool true) ∧ w.grownBy w' none := by
  have H := hide (And.intro hT (And.intro hxs hat))
  clear hT hxs hat
  go_enter Tryd.func3, Tryd.ntmps3
  go_wp2_with fail
  refine (awake_any w H.out.1).mono ?_
  rintro e w1 ⟨rfl, hg1⟩
  have H1 := hide hg1
  clear hg1
  go_wp2_with fail
  refine (new_any 100 w1 (by decide) (H.out.1.kept H1.out (by simp)).lt).mono ?_
  rintro e w2 ⟨b, g, rfl, hS, hb, hg, hg2⟩
  have H2 := hide (And.intro hS (grown_trans H1.out hg2))
  have hgw : w.heap.size ≤ g := Nat.le_trans H1.out.size hg
  clear hS hg2 H1 hb hg
  go_wp2
  go_loopg [5] m (fun k I wr => ∃ (j : Nat) (L : List Bool), k + j = m ∧ I = .int .i64 (j : Int) ∧ Hid (SetAt wr b g L ∧ w.grownBy wr none ∧ L.length = 100))
  case atStart => exact ⟨0, _, by omega, rfl, hide ⟨H2.out.1, H2.out.2, by simp⟩⟩
  case round =>
    clear H2
    obtain ⟨j, L, hkj, rfl, hS⟩ := hrel
    by_cases hk : 0 < gk
    · obtain ⟨_, hxs, hat⟩ := H.out
      have hj : j < xs.length := by omega
      obtain ⟨a, rfl, hca⟩ := hat j (.int .i64 xs[j]) (by simp [hj])
      have hca' := hS.out.2.1.cell hca (by simp)
      generalize xs[j] = x at *
      have h1 : (0 : Int) ≤ (j : Int) := by omega
      have h2 : (j : Int) < (m : Int) := by omega
      clear hat hxs hj hca
      go_wp2_with fail
      refine (pick_any x 100 100 _ rfl (by decide) (by decide)).mono ?_
      rintro e w3 ⟨rfl, rfl⟩
      generalize x % ((100 : Nat) : Int) = y at *
      go_wp2_with fail
      refine (put_int b g L y _ hS.out.1).mono ?_
      rintro e w4 ⟨rfl, hS4, hg4⟩
      have H4 : Hid (SetAt w4 b g (putF L y) ∧ w.grownBy w4 none ∧ (putF L y).length = 100) := ⟨hS4, grown_then hS.out.2.1 hg4 (fun k e => by cases e; exact Or.inl hgw), (putF_length L y).trans hS.out.2.2⟩
      generalize mayF L.length y = z at *
      clear hS4 hg4 hS
      go_wp2
      go_roundg (gk - 1)
      case measure => omega
      case rel => exact ⟨j + 1, _, by omega, by go_num, H4⟩
    · have hj : j = m := by omega
      subst hj
      have hl13 : (bytesK L).length = 13 := by rw [bytesK_length, hS.out.2.2]
      have HL := hide hl13
      clear hl13
      go_wp2_with fail
      refine (bytes_k b g L wr hS.out.1 hS.out.2.2).mono ?_
      rintro e w3 ⟨rfl, hrow, hg3⟩
      obtain ⟨A, hA⟩ : ∃ A, A = wr.heap.size := ⟨_, rfl⟩
      rw [← hA] at hrow ⊢
      have H3 := hide (And.intro hrow (And.intro hA hg3))
      clear hrow hg3 hA
      go_wp2_with fail
      refine (bytes_k b g L w3 (hS.out.1.kept H3.out.2.2 (by simp) (by simp)) hS.out.2.2).mono ?_
      rintro e w4 ⟨rfl, hrow, hg4⟩
      obtain ⟨B, hB⟩ : ∃ B, B = w3.heap.size := ⟨_, rfl⟩
      rw [← hB] at hrow ⊢
      have H4 := hide (And.intro hrow (And.intro hB hg4))
      clear hrow hg4 hB
      have HA4 : Hid (w4.heap[A]? = some (.cells (Ap.bv (bytesK L)).toArray 5 (0, 0))) := (H4.out.2.2.block A (row_lt H3.out.1) (by simp)).trans H3.out.1
      go_wp2_with fail
      refine (Ap.copy_any (some ⟨A, 0, none⟩) 13 13 (bytesK L) w4 HL.out (Ap.at_row HA4.out) (fun e => by cases e) (by decide)).mono ?_
      rintro e w5 ⟨v, rfl, hown, hg5⟩
      obtain ⟨av, cv, rfl, -, -, -, hatv, -, hblk⟩ := Ap.own_at hown
      have HA5 : Hid (w5.heap[A]? = some (.cells (Ap.bv (bytesK L)).toArray 5 (0, 0))) := (hg5.block A (row_lt HA4.out) (by simp)).trans HA4.out
      have HB5 : Hid (w5.heap[B]? = some (.cells (Ap.bv (bytesK L)).toArray 5 (0, 0))) := (hg5.block B (row_lt H4.out.1) (by simp)).trans H4.out.1
      have H5 := hide (And.intro hown hg5)
      clear hown hg5 hatv hblk
      go_wp2_with fail
      refine (Ap.sameBytes_eq (some ⟨A, 0, none⟩) (some ⟨B, 0, none⟩) 13 13 13 (bytesK L) w5 HL.out (Ap.at_row HA5.out) (Ap.at_row HB5.out) (by decide)).mono ?_
      rintro e w6 ⟨rfl, hg6⟩
      have H6 := hide hg6
      clear hg6
      go_wp2_with fail
      have hA6 : w6.ownsRow 0 5 1 (.slice (some ⟨A, 0, none⟩) 13 13) 13 (Ap.bv (bytesK L)) := Ap.own_of_row ((H6.out.block A (row_lt HA5.out) (by simp)).trans HA5.out) (by rw [Ap.bv_length, HL.out]) (Nat.zero_le _) (by unfold maxLen; omega)
      have hB6 : w6.ownsRow 0 5 1 (.slice (some ⟨B, 0, none⟩) 13 13) 13 (Ap.bv (bytesK L)) := Ap.own_of_row ((H6.out.block B (row_lt HB5.out) (by simp)).trans HB5.out) (by rw [Ap.bv_length, HL.out]) (Nat.zero_le _) (by unfold maxLen; omega)
      have hAB : A ≠ B := by have := row_lt H3.out.1; have := H4.out.2.1; omega
      have hR : Ap.Rw w6 0 [.slice (some ⟨A, 0, none⟩) 13 13, .slice (some ⟨B, 0, none⟩) 13 13] :=
        Ap.Rw.cons hA6 (by decide) (fun u hu => by simp at hu; subst hu; right; simp [Value.ownBlock, hAB]) (Ap.Rw.cons hB6 (by decide) (fun u hu => by cases hu) (Ap.Rw.nil _ _))
      have hap := Ap.apartBytes_rows 0 _ w6 hR (Nat.zero_le _) (by simp) (by simp)
      clear hR hA6 hB6
      refine hap.mono ?_
      clear hap
      rintro e w7 ⟨rfl, hg7⟩
      have hT7 : ∀ k, (∃ i, i < 2 ∧ (([.slice (some ⟨A, 0, none⟩) 13 13, .slice (some ⟨B, 0, none⟩) 13 13] : List Value).getD i undef).ownBlock = some k) → k = A ∨ k = B := by
        rintro k ⟨i, hi, e⟩
        have : i = 0 ∨ i = 1 := by omega
        rcases this with rfl | rfl
        · left; simpa [Value.ownBlock] using e.symm
        · right; simpa [Value.ownBlock] using e.symm
      have hsz : b < A ∧ g < A ∧ A < B ∧ B < w4.heap.size ∧ w.heap.size ≤ A := by
        have h1 := hS.out.1.lt
        have h2 := H3.out.2.1
        have h3 := row_lt H3.out.1
        have h4 := H4.out.2.1
        have h5 := row_lt H4.out.1
        have h6 := hS.out.2.1.size
        omega
      have hS6 : SetAt w6 b g L := hS.out.1.kept (grown_trans H3.out.2.2 (grown_trans H4.out.2.2 (grown_trans H5.out.2 H6.out))) (by simp) (by simp)
      have hS7 : SetAt w7 b g L := by
        obtain ⟨W, c, cur, h1, h2, h3⟩ := hS6
        exact ⟨W, c, cur, (hg7.block b (row_lt h1) (fun t => by rcases hT7 b t with h | h <;> omega)).trans h1, (hg7.block g (row_lt h2) (fun t => by rcases hT7 g t with h | h <;> omega)).trans h2, h3⟩
      have hv7 := Ap.own_keptT (H5.out.1.kept H6.out (by cases (Value.slice av 13 cv).ownBlock <;> simp)) hg7 (fun k e t => by
        have := (H5.out.1.lt k e).1
        rcases hT7 k t with h | h <;> omega)
      have hG7 : w.grownBy w7 none := Ap.grownT_after (grown_trans hS.out.2.1 (grown_trans H3.out.2.2 (grown_trans H4.out.2.2 (grown_trans H5.out.2 H6.out)))) hg7 (fun k t => by rcases hT7 k t with h | h <;> omega)
      have H7 := hide (And.intro hS7 (And.intro hv7 hG7))
      have hl100 := hide hS.out.2.2
      clear hS6 hS7 hv7 hG7 hT7 hg7 hsz H3 H4 H5 H6 HA4 HA5 HB5 hS
      go_wp2_with fail
      refine (bytes_k b g L w7 H7.out.1 hl100.out).mono ?_
      rintro e w8 ⟨rfl, hrow, hg8⟩
      obtain ⟨C, hC⟩ : ∃ C, C = w7.heap.size := ⟨_, rfl⟩
      rw [← hC] at hrow ⊢
      have H8 := hide (And.intro hrow hg8)
      clear hrow hg8 hC
      go_wp2_with fail
      obtain ⟨av2, cv2, e2, -, -, -, hatv, -, -⟩ := Ap.own_at (H7.out.2.1.kept H8.out.2 (by cases (Value.slice av 13 cv).ownBlock <;> simp))
      cases e2
      refine (Ap.sameBytes_eq (some ⟨C, 0, none⟩) av 13 13 cv (bytesK L) w8 HL.out (Ap.at_row H8.out.1) hatv (by decide)).mono ?_
      rintro e w9 ⟨rfl, hg9⟩
      have H9 := hide (grown_trans H7.out.2.2 (grown_trans H8.out.2 hg9))
      clear hg9 hatv
      go_wp2
      go_ret
      exact ⟨rfl, H9.out⟩
end Go.Proofs.YtajdgkbeenalkabDoor
