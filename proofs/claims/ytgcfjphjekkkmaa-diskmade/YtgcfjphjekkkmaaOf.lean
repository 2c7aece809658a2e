/- disk.Of. -/
import Derived.Test.YtgcfjphjekkkmaaArgR
import Derived.Test.YtgcfjphjekkkmaaStlR
namespace Go.Proofs.Ytgcfjphjekkkmaa
open Go.RowKit Ap
attribute [local go_sem ↓] Go.wp_at_zero Go.wp_at_succ

section
variable {w : World} {ro : Option Addr} {cap n : Nat} {R : List (List Nat)}
set_option maxHeartbeats 1000000 in
theorem of_none (w : World) (ro : Option Addr) (cap : Nat) : Calls Try.prog 25 #[.slice ro 0 cap] w fun e w' => e = .returned (.tuple #[.pointer none, .int .i64 2]) ∧ w' = w := by
  go_enter Try.func25, Try.ntmps25
  go_wp2
  go_ret2
  exact ⟨rfl, rfl⟩
set_option maxHeartbeats 1000000 in
theorem of_bad (h : RowsIn w ro R) (_hn : R.length = n) (hn0 : 0 < n) (xs : List Nat) (hx : R[0]? = some xs) (hm : mayB (n : Int) (xs.length : Int) = false) : Calls Try.prog 25 #[.slice ro n cap] w fun e w' => e = .returned (.tuple #[.pointer none, .int .i64 2]) ∧ w' = w := by
  obtain ⟨b, o, ao, c, rfl, hc, -⟩ := h 0 xs hx
  rw [Nat.add_zero] at hc
  have HM : Hid (∀ w, Calls Try.prog 37 #[.int .i64 (n : Int), .int .i64 (xs.length : Int)] w fun e w' => e = .returned (.bool false) ∧ w' = w) := fun w => by have := mayBe_any n xs.length w; rw [hm] at this; exact this
  have m0 : (0 : Int) < (n : Int) := by omega
  have m1 : ¬ (n : Int) = 0 := by omega
  clear h hx hm _hn
  go_enter Try.func25, Try.ntmps25
  go_wp2_with fail
  refine (HM.out _).mono ?_
  rintro e w1 ⟨rfl, rfl⟩
  go_wp2
  go_ret2
  exact ⟨rfl, rfl⟩
/-- What disk.Of has made of rows whose first one has sz bytes. -/
def OfAt (w w' : World) (R : List (List Nat)) (n sz : Nat) (p : Option Addr) (c : Int) : Prop :=
  w.grownBy w' none ∧ ((c = 0 ∧ (∀ y ∈ R, y.length = sz) ∧ ∃ k D, p = some ⟨k.d, 0, none⟩ ∧ DiskAt w' k n sz D [] ∧ secs n sz D = R ∧ ∀ i, k.own i → w.heap.size ≤ i) ∨ (c = 2 ∧ (∃ y ∈ R, y.length ≠ sz) ∧ p = none))
set_option maxRecDepth 20000 in
set_option maxHeartbeats 4000000 in
theorem of_loop {sz : Nat} (h : RowsIn w ro R) (hn : R.length = n) (hn0 : 0 < n) (xs : List Nat) (hx : R[0]? = some xs) (hsz : xs.length = sz) (hm : mayB (n : Int) (sz : Int) = true) (hnn : n ≤ 65536) (hs0 : 0 < sz) (hs1 : sz ≤ 4096) : Calls Try.prog 25 #[.slice ro n cap] w fun e w' => ∃ p c, e = .returned (.tuple #[.pointer p, .int .i64 c]) ∧ OfAt w w' R n sz p c := by
  obtain ⟨b, o, ao, c, rfl, hc, -⟩ := h 0 xs hx
  rw [hsz, Nat.add_zero] at hc
  have HM : Hid (∀ w, Calls Try.prog 37 #[.int .i64 (n : Int), .int .i64 (sz : Int)] w fun e w' => e = .returned (.bool true) ∧ w' = w) := fun w => by have := mayBe_any n sz w; rw [hm] at this; exact this
  have HN := hide (new_any n sz w hm)
  have m0 : (0 : Int) < (n : Int) := by omega
  have m1 : ¬ (n : Int) = 0 := by omega
  have m2 : ((n : Int) == 0) = false := by simpa using m1
  have m3 : decide ((n : Int) = 0) = false := by simpa using m1
  have HH := hide (And.intro h hn)
  clear h hx hm hn
  go_enter Try.func25, Try.ntmps25
  go_wp2_with fail
  refine (HM.out _).mono ?_
  rintro e w1 ⟨rfl, rfl⟩
  go_wp2
  go_loopg [30] n (fun q i wr => ∃ j : Nat, q + j = n ∧ i = .int .i64 j ∧ Hid (∀ y ∈ R.take j, y.length = sz) ∧ wr = w1)
  case atStart => exact ⟨0, by omega, rfl, hide (by simp), rfl⟩
  case round =>
    obtain ⟨j, hkj, rfl, HR, rfl⟩ := hrel
    by_cases hk : 0 < gk
    · have hj : j < n := by omega
      have hjR : j < R.length := by have := HH.out.2; omega
      obtain ⟨b', o', ao', c', e', x1, x2, x3, x4⟩ := HH.out.1 j R[j] (List.getElem?_eq_getElem hjR)
      cases e'
      have hxj := List.getElem?_eq_getElem hjR
      generalize R[j] = y at *
      have HX := hide (And.intro hxj x2)
      obtain ⟨ln, hln⟩ : ∃ ln, ln = y.length := ⟨_, rfl⟩
      rw [← hln] at x1 x4 x3
      have HLN := hide hln
      have h1 : (0 : Int) ≤ (j : Int) := by omega
      have h2 : (j : Int) < (n : Int) := by omega
      clear x2 x3 hxj hln
      by_cases hl : ln = sz
      · have HL := hide hl
        rw [hl] at x1
        clear hl
        go_wp2
        go_roundg (gk - 1)
        case measure => omega
        case rel =>
          refine ⟨j + 1, by omega, by go_num, hide ?_, rfl⟩
          intro z hz
          rw [take_snoc _ j y HX.out.1] at hz
          rcases List.mem_append.1 hz with hz | hz
          · exact HR.out z hz
          · simp at hz; subst hz; have := HL.out; have := HLN.out; omega
      · have hne : ¬ (ln : Int) = (sz : Int) := by omega
        go_wp2
        go_ret2
        exact ⟨_, _, rfl, grown_refl _ _, Or.inr ⟨rfl, ⟨y, List.mem_of_getElem? HX.out.1, by have := HLN.out; omega⟩, rfl⟩⟩
    · have hj : j = n := by omega
      subst hj
      have HA : Hid (∀ y ∈ R, y.length = sz) := by have := HR.out; rw [List.take_of_length_le (by rw [HH.out.2]; exact Nat.le_refl _)] at this; exact this
      clear HR hkj hk
      obtain ⟨w0, rfl⟩ : ∃ x, x = wr := ⟨_, rfl⟩
      go_wp2_with fail
      refine HN.out.mono ?_
      rintro e w2 ⟨rfl, d1, g1⟩
      obtain ⟨k, hkk⟩ : ∃ k : Dk, k = ⟨w0.heap.size + 2, w0.heap.size, .slice none 0 0, w0.heap.size + 1⟩ := ⟨_, rfl⟩
      have hkd : w0.heap.size + 2 = k.d := by rw [hkk]
      have hown : ∀ i, k.own i → w0.heap.size ≤ i := by
        rw [hkk]
        rintro i (e | e | e | e)
        · have : i = w0.heap.size + 2 := e
          omega
        · have : i = w0.heap.size := e
          omega
        · cases e
        · have : i = w0.heap.size + 1 := e
          omega
      rw [← hkk] at d1
      have HD := hide (And.intro d1 (And.intro g1 hown))
      have hdb : w0.heap.size ≤ k.db := hown _ (.inr (.inl rfl))
      clear d1 g1 hkk hown
      rw [hkd]
      clear hkd HN
      go_wp2
      go_loopg [51] j (fun q i wt => ∃ t : Nat, q + t = j ∧ i = .int .i64 t ∧ Hid (∃ D, DiskAt wt k j sz D [] ∧ (∀ (s : Nat) (y : List Nat), s < t → R[s]? = some y → secOf sz D s = y) ∧ w2.grownBy wt (some k.db)))
      case atStart => exact ⟨0, by omega, rfl, hide ⟨_, HD.out.1, fun s y hs => absurd hs (Nat.not_lt_zero _), grown_refl _ _⟩⟩
      case round =>
        obtain ⟨t, hkt, rfl, HR⟩ := hrel
        obtain ⟨D, d1, d2, d3⟩ := HR.out
        by_cases hk : 0 < gk
        · have hj : t < j := by omega
          have hjR : t < R.length := by have := HH.out.2; omega
          have gx : w0.grownBy wr none := grown_then HD.out.2.1 d3 (fun i e => Or.inl (by have := Option.some.inj e; omega))
          obtain ⟨b', o', ao', c', e', x1, x2, x3, x4⟩ := (HH.out.1.grown gx) t R[t] (List.getElem?_eq_getElem hjR)
          cases e'
          have hxj := List.getElem?_eq_getElem hjR
          rw [HA.out R[t] (List.getElem_mem hjR)] at x1
          generalize R[t] = y at *
          have hyl := HA.out y (List.mem_of_getElem? hxj)
          have HX := hide (And.intro hxj (And.intro hyl (And.intro d1 (And.intro d2 (And.intro d3 x2)))))
          have HS := hide (sector_any d1 t hj)
          have h1 : (0 : Int) ≤ (t : Int) := by omega
          have h2 : (t : Int) < (j : Int) := by omega
          clear x2 x3 hxj hyl d1 d2 d3 gx HR x4
          go_wp2_with fail
          refine HS.out.mono ?_
          rintro e w3 ⟨rfl, q, rfl⟩
          obtain ⟨hxj, hyl, d1, d2, d3, x2⟩ := HX.out
          have hle : (t + 1) * sz ≤ j * sz := Nat.mul_le_mul_right _ hj
          rw [Nat.succ_mul] at hle
          obtain ⟨W, hrun, r1, r2⟩ := run_copy_any (wr.drewN q) k.db (t * sz) sz (j * sz - t * sz) ao' sz c' D y d1.dur (by rw [hyl]; exact (Nat.min_self _).symm) (by rw [hyl, d1.len]; exact hle) x2
          have HY := hide (And.intro r1 r2)
          clear r1 r2 hxj hyl d1 d2 d3 x2 hle
          go_wp2
          go_roundg (gk - 1)
          case measure => omega
          case rel =>
            obtain ⟨hxj, hyl, d1, d2, d3, x2⟩ := HX.out
            obtain ⟨r1, r2⟩ := HY.out
            have hle : (t + 1) * sz ≤ j * sz := Nat.mul_le_mul_right _ hj
            rw [Nat.succ_mul] at hle
            have hlen : (splice D (t * sz) y).length = D.length := by simp [splice]; have := d1.len; omega
            refine ⟨t + 1, by omega, by go_num, hide ⟨_, (d1.grown (grown_drewN wr q none)).setDur r2 r1 hlen, ?_, grown_trans d3 (grown_trans (grown_drewN wr q _) r2)⟩⟩
            intro s z hs hz
            by_cases hst : s = t
            · subst hst
              rw [hxj] at hz
              obtain rfl := Option.some.inj hz
              rw [secOf_splice_same d1.len hj (by omega)]
              have hl2 : (secOf sz D s).length = sz := by simp [secOf]; have := d1.len; omega
              rw [over, List.drop_of_length_le (by omega), List.append_nil]
            · rw [secOf_splice_other d1.len hj (by omega) (fun e => hst e.symm)]
              exact d2 s z (by omega) hz
        · have ht : t = j := by omega
          subst ht
          have HX := hide (And.intro d1 (And.intro d2 d3))
          clear d1 d2 d3 HR hkt hk
          go_wp2
          go_ret2
          obtain ⟨d1, d2, d3⟩ := HX.out
          refine ⟨_, _, rfl, grown_then HD.out.2.1 d3 (fun i e => Or.inl (by have := Option.some.inj e; omega)), Or.inl ⟨rfl, HA.out, k, D, rfl, d1, ?_, HD.out.2.2⟩⟩
          apply List.ext_getElem?
          intro i
          by_cases hi : i < t
          · have hiR : i < R.length := by have := HH.out.2; omega
            rw [secs_get _ _ _ _ hi, List.getElem?_eq_getElem hiR, d2 i R[i] hi (List.getElem?_eq_getElem hiR)]
          · rw [List.getElem?_eq_none (by rw [secs_length]; omega), List.getElem?_eq_none (by have := HH.out.2; omega)]
end
end Go.Proofs.Ytgcfjphjekkkmaa
