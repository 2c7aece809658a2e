/- DiskMade answers true. -/
import Derived.Test.YtgcfjphjekkkmaaMade0
namespace Go.Proofs.Ytgcfjphjekkkmaa
open Go.RowKit Ap
attribute [local go_sem ↓] Go.wp_at_zero Go.wp_at_succ

theorem RowAt.rowsIn {w : World} {lo n : Nat} {v : Value} {S : List Bx} (h : RowAt w lo v S) (hn : S.length = n) (hs : ∀ b ∈ S, b.xs.length ≤ 140737488355000) : ∃ ao cap, v = .slice ao n cap ∧ RowsIn w ao (S.map Bx.xs) := by
  subst hn
  obtain ⟨ao, cap, rfl, hao, -, -⟩ := own_form h.row
  refine ⟨ao, cap, rfl, ?_⟩
  intro j xs hj
  rw [List.getElem?_map] at hj
  obtain ⟨b, hb, rfl⟩ := Option.map_eq_some_iff.1 hj
  obtain ⟨g, rfl⟩ := hao (Nat.lt_of_le_of_lt (Nat.zero_le _) (List.getElem?_eq_some_iff.1 hb).1)
  have hc := h.row.cells rfl j b.v (by rw [List.getElem?_map, hb]; rfl)
  rw [Addr.add_lit] at hc
  have hm := List.mem_of_getElem? hb
  exact ⟨g, 0, some ⟨b.g, 0, none⟩, b.c, rfl, hc, (h.at_ b hm).at_, (fun e => by cases e), hs b hm⟩
theorem shape_of2 {s z : Int} (h : mayB s z = true) : ∃ a b : Nat, s = (a : Int) ∧ z = (b : Int) ∧ Shape a b := by
  have h' := h
  simp only [mayB, Bool.and_eq_true, decide_eq_true_eq] at h'
  have hs : 1 ≤ s := by omega
  have hz : 64 ≤ z := by omega
  obtain ⟨a, rfl⟩ := Int.eq_ofNat_of_zero_le (show 0 ≤ s by omega)
  obtain ⟨b, rfl⟩ := Int.eq_ofNat_of_zero_le (show 0 ≤ z by omega)
  exact ⟨a, b, rfl, rfl, shape_of h⟩
/-- The first t of these rows may have been written. -/
def Marred (S : List Bx) (t : Nat) (i : Nat) : Prop := ∃ (s : Nat) (b : Bx), s < t ∧ S[s]? = some b ∧ b.g = i

theorem BxAt.cur {w : World} {lo : Nat} {b : Bx} (h : BxAt w lo b) : ∃ cur, (w.heap[b.g]? = some (.cells cur 5 (0, 0)) ∧ cur.size = b.c) ∧ b.c ≤ maxLen := by
  rcases h.2 with ⟨e, _⟩ | ⟨g', cap', cur, e, h1, h2, h3, h4, h5, h6⟩
  · cases e
  · cases e
    exact ⟨cur, ⟨h2, by omega⟩, h4⟩
theorem made_images {w4 w5 w6 w8 : World} {R : List (List Nat)} {p : Option Addr} {c : Int} {rb : Nat} {T : Nat → Prop} (h5 : OfAll w4 w5 R p c) (h6 : RofAll w5 w6 R rb c) (hk : Kept w6 w8 T) (hT : ∀ i, T i → i < w4.heap.size) :
    ∃ (R' : List (List Nat)) (m : Nat), R'.length = m ∧ m ≤ 65536 ∧ (Calls Try.prog 19 #[.pointer p] w8 fun e w9 => ∃ io ic, e = .returned (.slice io m ic) ∧ RowsAt w9 io R' ∧ w8.grownBy w9 none) ∧ ∀ w9, w8.grownBy w9 none → Calls Try.prog 20 #[.pointer (some ⟨rb, 0, none⟩)] w9 fun e w10 => ∃ io ic, e = .returned (.slice io m ic) ∧ RowsAt w10 io R' ∧ w9.grownBy w10 none := by
  obtain ⟨g5, h5⟩ := h5
  obtain ⟨hb, g6, h6⟩ := h6
  have hz := g5.size
  rcases h5 with ⟨rfl, sz, hg, k, D, rfl, hd, hsec, hown⟩ | ⟨rfl, hng, rfl⟩
  · rcases h6 with ⟨-, sz2, hg2, v, S, hh, hr, hS⟩ | ⟨e, _⟩
    · have hsh := hg.shape
      have hd8 : DiskAt w8 k R.length sz D [] := (hd.grown g6).kept hk (fun i hi ht => by
        rcases hi with hi | ⟨x, hx, _⟩
        · have := hown i hi; have := hT i ht; omega
        · cases hx)
      have hb8 : w8.heap[rb]? = some (.cells #[v, .slice none 0 0] 54 (0, 0)) := hk.at hh (fun e => by have := hT _ e; omega)
      have hr8 : RowAt w8 w5.heap.size v S := hr.off hk (fun g e ht => by have := (own_block hr.row g e).1; have := hT g ht; omega) (fun b hb ht => by have := (hr.at_ b hb).blk.1; have := hT _ ht; omega)
      have hSl : S.length = R.length := by rw [← hS, List.length_map]
      have hSz : ∀ b ∈ S, 0 < b.xs.length ∧ b.xs.length ≤ 4096 := by
        intro b hb
        have hm : b.xs ∈ R := by rw [← hS]; exact List.mem_map_of_mem hb
        obtain ⟨_, _, _, _, hall⟩ := hg
        rw [hall _ hm]
        have := hsh.s0; have := hsh.s1; omega
      refine ⟨R, R.length, rfl, hsh.n1, ?_, ?_⟩
      · refine (image_any hd8).mono ?_
        rintro e w9 ⟨hs, rfl, hi, hg9⟩
        rw [hsec] at hi
        exact ⟨_, _, rfl, hi.rowsAt hsh.s1, hg9⟩
      · intro w9 hg9
        refine (rimage_row (hr8.grown hg9) hSl.symm (hg9.cell (cell_row (l := [v, .slice none 0 0]) hb8 0) (by simp)) hsh.n1 hSz).mono ?_
        rintro e w10 ⟨ao, cap, S', rfl, hr', hS', hg10⟩
        have hl' : S'.length = R.length := by have := congrArg List.length hS'; simp only [List.length_map] at this; omega
        obtain ⟨ao2, cap2, e2, hat⟩ := hr'.rowsAt hl' (fun b hb => by
          have hm : b.xs ∈ R := by rw [← hS, ← hS']; exact List.mem_map_of_mem hb
          obtain ⟨_, _, _, _, hall⟩ := hg
          rw [hall _ hm]
          have := hsh.s1; omega)
        cases e2
        rw [hS', hS] at hat
        exact ⟨ao, cap, rfl, hat, hg10⟩
    · cases e
  · rcases h6 with ⟨e, _⟩ | ⟨-, hng2, he⟩
    · cases e
    · have he8 : Empty w8 rb := hk.at he (fun e => by have := hT _ e; omega)
      refine ⟨[], 0, rfl, Nat.zero_le _, ?_, ?_⟩
      · refine (image_none none w8 (Or.inl rfl)).mono ?_
        rintro e w9 ⟨rfl, hg9⟩
        exact ⟨_, _, rfl, fun j xs hj => by simp at hj, hg9⟩
      · intro w9 hg9
        refine (rimage0 (he8.grown hg9)).mono ?_
        rintro e w10 ⟨rfl, rfl⟩
        exact ⟨_, _, rfl, (fun j xs hj => by simp at hj), grown_refl _ _⟩

set_option maxRecDepth 20000 in
set_option maxHeartbeats 8000000 in
theorem made_any (s z : Int) (ro : Option Addr) (n cap : Nat) (R : List (List Nat)) (w : World) (hn : R.length = n) (hn2 : n ≤ 140737488355328) (h : RowsIn w ro R) :
    Calls Try.prog 4 #[.int .i64 s, .int .i64 z, .slice ro n cap] w fun e w' => e = .returned (.bool true) ∧ w.grownBy w' none := by
  have HH := hide (And.intro h hn)
  have HMR := hide (mayR_any s z)
  clear h hn
  rcases Bool.eq_false_or_eq_true (mayB s z) with hm | hm
  case' inl =>
    have hs := shape_of2 hm
    obtain ⟨a, b, rfl, rfl, hs⟩ := hs
    have HNB : Hid (∀ w, Calls Try.prog 12 #[.int .i64 (a : Int), .int .i64 (b : Int)] w fun e w' => ∃ k : Dk, e = .returned (.tuple #[.pointer (some ⟨k.d, 0, none⟩), .int .i64 0]) ∧ DiskAt w' k a b (zs (a * b)) [] ∧ w.grownBy w' none) := fun w => (newS a b w w (grown_refl _ _) hm).mono (by rintro e w' ⟨k, rfl, h1, h2, _⟩; exact ⟨k, rfl, h1.disk, h2⟩)
    rw [hm] at HMR
    clear hm hs
    go_enter Try.func4, Try.ntmps4
    go_wp2_with fail
    refine (awake_any w).mono ?_
    rintro e w1 ⟨rfl, g1⟩
    have HG1 := hide g1
    clear g1
    go_wp2_with fail
    refine (HNB.out _).mono ?_
    rintro e w2 ⟨k, rfl, d2, g2⟩
    have HD := hide d2
    have HG2 := hide (grown_trans HG1.out g2)
    clear d2 g2
    go_wp2_with fail
    refine (HMR.out _).mono ?_
    rintro e w3' ⟨rfl, rfl⟩
    go_wp2_with fail
    refine (sectors_any HD.out).mono ?_
    rintro e w4 ⟨rfl, q, rfl⟩
    go_wp2_with fail
    refine (size_any (HD.out.grown (grown_drewN _ q none))).mono ?_
    rintro e w5 ⟨rfl, rfl⟩
    go_wp2_with fail
    refine (waiting_any (HD.out.grown (grown_drewN _ q none))).mono ?_
    rintro e w6 ⟨rfl, rfl⟩
    have HG := hide (grown_trans HG2.out (grown_drewN _ q none))
    clear HG1 HG2 HD HNB HMR
    generalize World.drewN _ q = w3 at *
  case' inr =>
    have HNB : Hid (∀ w, Calls Try.prog 12 #[.int .i64 s, .int .i64 z] w fun e w' => e = .returned (.tuple #[.pointer none, .int .i64 2]) ∧ w' = w) := fun w => new_bad s z w hm
    rw [hm] at HMR
    clear hm
    go_enter Try.func4, Try.ntmps4
    go_wp2_with fail
    refine (awake_any w).mono ?_
    rintro e w1 ⟨rfl, g1⟩
    have HG := hide g1
    clear g1
    go_wp2_with fail
    refine (HNB.out _).mono ?_
    rintro e w2 ⟨rfl, rfl⟩
    go_wp2_with fail
    refine (HMR.out _).mono ?_
    rintro e w3 ⟨rfl, rfl⟩
    clear HNB HMR
  all_goals
    by_cases h3 : n ≤ 300
    · go_wp2_with fail
      go_loopg [9, 10] n (fun q v i wr => ∃ j : Nat, q + j = n ∧ i = .int .i64 j ∧ Hid (∃ S, S.length = j ∧ RowAt wr w3.heap.size v S ∧ (∀ b ∈ S, b.xs.length + 12 ≤ b.c) ∧ S.map Bx.xs = R.take j ∧ w3.grownBy wr none))
      case atStart => exact ⟨0, by omega, rfl, hide ⟨[], rfl, RowAt.nil _ _, by simp, by simp, grown_refl _ _⟩⟩
      case round =>
        obtain ⟨j, hkj, rfl, HR⟩ := hrel
        obtain ⟨S, u0, u1, u2, u3, u4⟩ := HR.out
        by_cases hk : 0 < gk
        · have hj : j < n := by omega
          have hjR : j < R.length := by have := HH.out.2; omega
          obtain ⟨b', o', ao', c', rfl, x1, x2, x3, x4⟩ := ((HH.out.1.grown HG.out).grown u4) j R[j] (List.getElem?_eq_getElem hjR)
          have hxj := List.getElem?_eq_getElem hjR
          generalize R[j] = y at *
          have HL := hide (lent_any ao' y.length c' y wr rfl x2 x3 x4)
          obtain ⟨ln, hln⟩ : ∃ ln, ln = y.length := ⟨_, rfl⟩
          rw [← hln] at x1 HL
          have HX := hide (And.intro u0 (And.intro u1 (And.intro u2 (And.intro u3 (And.intro u4 (And.intro hxj hln))))))
          have h1 : (0 : Int) ≤ (j : Int) := by omega
          have h2 : (j : Int) < (n : Int) := by omega
          clear x2 x3 x4 hxj u0 u1 u2 u3 u4 HR hln
          go_wp2_with fail
          refine HL.out.mono ?_
          rintro e w4 ⟨vl, rfl, l1, g4⟩
          obtain ⟨gl, cl, rfl, l2, l3⟩ := lent_bx l1
          have A1 := hide (And.intro l2 (And.intro l3 g4))
          rw [← HX.out.2.2.2.2.2.2]
          clear l1 l2 l3 g4
          obtain ⟨i46, hi, hz0, hz1, hz2⟩ := info_parts Try.info46
          have HI := hide (And.intro hi (And.intro hz0 (And.intro hz1 hz2)))
          clear hi hz0 hz1 hz2
          have HO : Hid (w4.ownsRow w3.heap.size 46 1 u9 j (S.map Bx.v)) := by have := (HX.out.2.1.grown A1.out.2.2).row; rw [HX.out.1] at this; exact this
          go_wp2_with (at_builtin; refine wpList_append_own _ rfl (.tmp 73) (.tmp 79) 42 rfl w3.heap.size 46 i46 (.slice none 0 0) 1 24 Try.underlying42 HI.out.1 HI.out.2.1 HI.out.2.2.1 HI.out.2.2.2 rfl (by decide) u9 j (S.map Bx.v) rfl (HO.out.alloc _) ⟨w4.heap.size, 0, none⟩ 1 1 [.slice (some ⟨gl, 0, none⟩) ln cl] rfl rfl cell_1 (fun u hu => by simp at hu; subst hu; rfl) (by unfold maxLen; omega) (by omega) ?_ ?_)
          · exact Nat.le_trans HX.out.2.2.2.2.1.size (Nat.le_trans A1.out.2.2.size (World.grownBy_alloc w4 _ none).size)
          intro v' w5 o2 g2 _
          have A2 := hide (And.intro o2 g2)
          clear o2 g2
          go_wp2
          go_roundg (gk - 1)
          case measure => omega
          case rel =>
            obtain ⟨f0, f1, f2, f3, f4, fx, fl⟩ := HX.out
            have gz : w4.grownBy (w4.alloc (.cells #[.slice (some ⟨gl, 0, none⟩) ln cl] 46)) none := World.grownBy_alloc w4 _ none
            refine ⟨j + 1, by omega, by go_num, hide ⟨S ++ [⟨gl, cl, y⟩], by simp [f0], ?_, ?_, ?_, ?_⟩⟩
            · refine f1.snoc (grown_trans A1.out.2.2 gz) (A1.out.1.grown gz) f4.size A2.out.2 ?_
              rw [f0]
              have := A2.out.1
              rw [fl] at this
              exact this
            · intro x hx
              rcases List.mem_append.1 hx with hx | hx
              · exact f2 x hx
              · simp at hx; subst hx; exact A1.out.2.1
            · rw [List.map_append, f3, take_snoc _ j y fx]; rfl
            · exact grown_then (grown_trans (grown_trans f4 A1.out.2.2) gz) A2.out.2 (fun b e => Or.inl (own_block HO.out b e).1)
        · have hj : j = n := by omega
          subst hj
          rw [List.take_of_length_le (by rw [HH.out.2]; exact Nat.le_refl _)] at u3
          have hlen : ∀ b ∈ S, b.xs.length ≤ 140737488355000 := by
            intro b hb
            have hm : b.xs ∈ R := by rw [← u3]; exact List.mem_map_of_mem hb
            obtain ⟨i, hi⟩ := List.getElem?_of_mem hm
            obtain ⟨_, _, _, _, _, _, _, _, hh⟩ := HH.out.1 i _ hi
            exact hh
          obtain ⟨so, scap, rfl, hin⟩ := u1.rowsIn u0 hlen
          rw [u3] at hin
          obtain ⟨w4, rfl⟩ : ∃ x, x = wr := ⟨_, rfl⟩
          have HO := hide (of_all (cap := scap) hin HH.out.2)
          have HX := hide (And.intro u0 (And.intro u1 (And.intro u2 (And.intro u3 (And.intro u4 hin)))))
          have HLEN := hide hlen
          clear u0 u1 u2 u3 u4 hin hlen HR hkj hk
          go_wp2_with fail
          refine HO.out.mono ?_
          rintro e w5 ⟨p, c, rfl, o5⟩
          have A5 := hide o5
          have g05 := grown_trans (grown_trans HG.out HX.out.2.2.2.2.1) o5.1
          have HRO := hide (rof_all (cap := cap) (HH.out.1.grown g05) HH.out.2)
          clear o5 HO
          go_wp2_with fail
          refine HRO.out.mono ?_
          rintro e w6 ⟨rb, c2, rfl, o6⟩
          have A6 := hide (And.intro o6 (grown_trans g05 o6.2.1))
          obtain rfl : c2 = c := by
            rcases A5.out.2 with ⟨rfl, sz, hg, _⟩ | ⟨rfl, hg, _⟩ <;> rcases o6.2.2 with ⟨rfl, sz2, hg2, _⟩ | ⟨rfl, hg2, _⟩
            · rfl
            · exact absurd hg (hg2 sz)
            · exact absurd hg2 (hg sz2)
            · rfl
          have HSR := hide (sameRows_eq so ro j scap cap R w6 HH.out.2 ((HX.out.2.2.2.2.2.at_.grown A5.out.1).grown o6.2.1) ((HH.out.1.grown (grown_trans g05 o6.2.1)).at_) (by omega))
          clear o6 g05 HRO
          have HP : Hid ((c2 = 0 ∧ ∃ k : Dk, p = some ⟨k.d, 0, none⟩) ∨ (c2 = 2 ∧ p = none)) := by
            rcases A5.out.2 with ⟨rfl, sz, hg, k, D, e, _⟩ | ⟨rfl, hg, e⟩
            · exact Or.inl ⟨rfl, k, e⟩
            · exact Or.inr ⟨rfl, e⟩
          rcases HP.out with ⟨rfl, k, rfl⟩ | ⟨rfl, rfl⟩
          all_goals
            clear HP
            go_wp2_with fail
            refine HSR.out.mono ?_
            rintro e w7 ⟨rfl, q7, rfl⟩
            clear HSR
            go_wp2
            go_loopg [15] j (fun q i wt => ∃ t : Nat, q + t = j ∧ i = .int .i64 t ∧ Hid (Kept w6 wt (Marred S t)))
            case atStart => exact ⟨0, by omega, rfl, hide (Kept.new (grown_drewN _ _ _) _)⟩
            case round =>
              obtain ⟨t, hkt, rfl, HR⟩ := hrel
              have HS6 : Hid (RowAt w6 w3.heap.size (.slice so j scap) S) := (HX.out.2.1.grown A5.out.1).grown A6.out.1.2.1
              by_cases hk : 0 < gk
              · have ht : t < j := by omega
                have htS : t < S.length := by have := HX.out.1; omega
                have hb := List.getElem?_eq_getElem htS
                generalize S[t] = b at *
                have hbm := List.mem_of_getElem? hb
                have hnv : ∀ g, (Value.slice so j scap).ownBlock = some g → ¬ Marred S t g := by
                  rintro g e ⟨s', b', _, h2, rfl⟩
                  exact HS6.out.ne (List.mem_of_getElem? h2) e
                have hnb : ¬ Marred S t b.g := by
                  rintro ⟨s', b', h1, h2, e⟩
                  have h3 := (List.getElem?_eq_some_iff.1 h2).1
                  have := List.pairwise_iff_getElem.1 HS6.out.nd s' t h3 htS h1
                  rw [(List.getElem?_eq_some_iff.1 h2).2, (List.getElem?_eq_some_iff.1 hb).2] at this
                  exact this e
                have hrow := owns_off HS6.out.row HR.out hnv
                have hbx := (HS6.out.at_ b hbm).off HR.out hnb
                obtain ⟨sg, rfl⟩ : ∃ sg, so = some ⟨sg, 0, none⟩ := by
                  obtain ⟨ao, cc, e, hao, -, -⟩ := own_form hrow
                  obtain ⟨g, rfl⟩ := hao (by omega)
                  cases e
                  exact ⟨g, rfl⟩
                have hcl : wr.cell? ⟨sg, t, none⟩ = some (.slice (some ⟨b.g, 0, none⟩) b.xs.length b.c) := by
                  have := hrow.cells rfl t b.v (by rw [List.getElem?_map, hb]; rfl)
                  rwa [Addr.add_lit, Nat.zero_add] at this
                have hcap := HX.out.2.2.1 b hbm
                obtain ⟨cur, hcur, hcm⟩ : ∃ cur, (wr.heap[b.g]? = some (.cells cur 5 (0, 0)) ∧ cur.size = b.c) ∧ b.c ≤ maxLen := hbx.cur
                have HOV := hide (over_any b.g b.c b.xs.length wr ⟨cur, hcur⟩ hcap hcm (by have := HLEN.out b hbm; omega))
                have HB := hide (And.intro hb hbm)
                have h1 : (0 : Int) ≤ (t : Int) := by omega
                have h2 : (t : Int) < (j : Int) := by omega
                obtain ⟨ln, hln⟩ : ∃ ln, ln = b.xs.length := ⟨_, rfl⟩
                rw [← hln] at hcl HOV
                clear hb hbm hnv hnb hrow hbx hcap hcur hcm hln
                go_wp2_with fail
                refine HOV.out.mono ?_
                rintro e w8 ⟨rfl, g8⟩
                have A8 := hide g8
                clear g8
                go_wp2
                go_roundg (gk - 1)
                case measure => omega
                case rel =>
                  refine ⟨t + 1, by omega, by go_num, hide ?_⟩
                  refine (HR.out.mono ?_).trans (Kept.of A8.out (fun i e _ => ?_)) (fun _ _ e => e)
                  · rintro i _ ⟨s', b', h1, h2, e⟩
                    exact ⟨s', b', by omega, h2, e⟩
                  · exact ⟨t, b, by omega, HB.out.1, Option.some.inj e⟩
              · have ht : t = j := by omega
                subst ht
                obtain ⟨w8, rfl⟩ : ∃ x, x = wr := ⟨_, rfl⟩
                clear hkt hk
                have hTl : ∀ i, Marred S t i → i < w4.heap.size := by
                  rintro i ⟨s', b', h1, h2, rfl⟩
                  exact (HX.out.2.1.at_ b' (List.mem_of_getElem? h2)).lt
                have hlo3 : ∀ i, Marred S t i → w3.heap.size ≤ i := by
                  rintro i ⟨s', b', h1, h2, rfl⟩
                  exact (HX.out.2.1.at_ b' (List.mem_of_getElem? h2)).blk.1
                obtain ⟨R', m, hR', hm', I1, I2⟩ := made_images A5.out A6.out.1 HR.out hTl
                have HG8 : Hid (w.grownBy w8 none) := ((Kept.new A6.out.2 _).trans HR.out (fun _ _ e => e)).grown (fun i hi e => by have := hlo3 i e; have := HG.out.size; omega)
                have HI1 := hide I1
                have HI2 := hide I2
                have HR' := hide hR'
                clear I1 I2 hR' hTl hlo3
                go_wp2_with fail
                refine HI1.out.mono ?_
                rintro e w9 ⟨io, ic, rfl, r9, g9⟩
                have A9 := hide (And.intro r9 g9)
                clear r9 g9
                go_wp2_with fail
                refine (HI2.out w9 A9.out.2).mono ?_
                rintro e w10 ⟨io2, ic2, rfl, r10, g10⟩
                have A10 := hide (And.intro r10 g10)
                clear r10 g10
                go_wp2_with fail
                refine (sameRows_eq io io2 m ic ic2 R' w10 HR'.out (A9.out.1.grown A10.out.2) A10.out.1 (by omega)).mono ?_
                rintro e w11 ⟨rfl, q11, rfl⟩
                go_wp2
                go_ret
                exact ⟨rfl, grown_trans (grown_trans (grown_trans HG8.out A9.out.2) A10.out.2) (grown_drewN _ _ _)⟩
    · go_wp2
      go_ret
      exact ⟨rfl, HG.out⟩
end Go.Proofs.Ytgcfjphjekkkmaa
