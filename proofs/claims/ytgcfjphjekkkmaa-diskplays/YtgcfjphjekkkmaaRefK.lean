/- The document's Crash. -/
import Derived.Test.YtgcfjphjekkkmaaRefP
import Derived.Deep.CutRange
import Derived.Deep.DeepCutAuto
namespace Go.Proofs.Ytgcfjphjekkkmaa
open Go.RowKit Ap
attribute [local go_sem ↓] Go.wp_at_zero Go.wp_at_succ

theorem FatesAt.offT {w w' : World} {fo : Option Addr} {F : List (Int × Int)} {T : Nat → Prop} (h : FatesAt w fo F) (hk : Kept w w' T) (hT : ∀ a, fo = some a → 0 < F.length → ¬ T a.block) : FatesAt w' fo F := by
  intro j p hj
  obtain ⟨b, o, e, c1, c2⟩ := h j p hj
  have hl : 0 < F.length := Nat.lt_of_le_of_lt (Nat.zero_le _) (List.getElem?_eq_some_iff.1 hj).1
  have hb : w'.heap[b]? = w.heap[b]? := hk.block b (cell_lt c1) (hT ⟨b, o, none⟩ e hl)
  exact ⟨b, o, e, by rw [← c1]; simp [World.cell?, hb], by rw [← c2]; simp [World.cell?, hb]⟩
section
variable {w : World} {lo n size : Nat} {q : Rk} {r : Nat}
set_option maxRecDepth 20000 in
set_option maxHeartbeats 8000000 in
theorem rcrash_any (hr : q.r = r) (h : RefAt w lo n size q) (hV : q.V.length ≤ 1000000) (fo : Option Addr) (m cap : Nat) (F : List (Int × Int)) (hm : F.length = m) (_hm2 : m ≤ 140737488355328) (hF : FatesAt w fo F) (hfo : ∀ a, fo = some a → 0 < F.length → ¬ rfoot q a.block) :
    Calls Try.prog 47 #[.pointer (some ⟨r, 0, none⟩), .slice fo m cap] w fun e w' => ∃ q' : Rk, e = .returned (.int .i64 0) ∧ q'.r = r ∧ RefAt w' lo n size q' ∧ q'.V = [] ∧ q'.S.map Bx.xs = stlR (fun i => lasts (fateK F i) (fateA F i) size) (absV q.V) (q.S.map Bx.xs) q.V.length ∧ Kept w w' (rfoot q) ∧ ∀ i, rfoot q' i → rfoot q i := by
  obtain ⟨vo, vcap, hvw, hvo⟩ := h.wform
  obtain ⟨gv, gcap, hv⟩ := h.vform
  obtain ⟨M, hM⟩ : ∃ M, M = q.V.length := ⟨_, rfl⟩
  obtain ⟨L, hL⟩ : ∃ L : Nat → Nat, L = fun i => lasts (fateK F i) (fateA F i) size := ⟨_, rfl⟩
  have c0 := h.c0
  rw [hv, hr] at c0
  have n0 := h.shape.n0
  have n1 := h.shape.n1
  have s0 := h.shape.s0
  have s1 := h.shape.s1
  rw [← hM] at hvw hvo hV
  have HH := hide (And.intro h (And.intro hvw (And.intro hvo (And.intro hv (And.intro hM (And.intro hm (And.intro hF (And.intro hfo hr))))))))
  have HL := hide hL
  have m0 : (0 : Int) < (n : Int) := by omega
  have m1 : ¬ (n : Int) = 0 := by omega
  have m2 : ((n : Int) == 0) = false := by simpa using m1
  have m3 : decide ((n : Int) = 0) = false := by simpa using m1
  rw [← hL, ← hM]
  clear h hvw hvo hv hM hm hF hfo hL hr
  go_enter Try.func47, Try.ntmps47
  go_wp2
  go_loopg [5] M (fun gq i wr => ∃ j : Nat, gq + j = M ∧ i = .int .i64 j ∧ Hid (∃ S', RefAt wr lo n size (q.withS S') ∧ S'.map Bx.g = q.S.map Bx.g ∧ S'.map Bx.xs = stlR L (absV q.V) (q.S.map Bx.xs) j ∧ Kept w wr (fun i => ∃ b ∈ q.S, b.g = i)))
  case atStart => exact ⟨0, by omega, rfl, hide ⟨q.S, HH.out.1, rfl, rfl, Kept.refl _ _⟩⟩
  case round =>
    obtain ⟨j, hkj, rfl, HR⟩ := hrel
    obtain ⟨S', u1, u2, u3, u4⟩ := HR.out
    have d1 := u1.c1
    have d0 := u1.c0
    have d1 : wr.cell? ⟨r, 1, none⟩ = some (.slice vo M vcap) := by rw [← HH.out.2.1, ← HH.out.2.2.2.2.2.2.2.2]; exact d1
    have d0 : wr.cell? ⟨r, 0, none⟩ = some (.slice (some ⟨gv, 0, none⟩) n gcap) := by rw [← HH.out.2.2.2.1, ← HH.out.2.2.2.2.2.2.2.2]; exact d0
    by_cases hk : 0 < gk
    · have hjV : j < q.V.length := by have := HH.out.2.2.2.2.1; omega
      have hx := List.getElem?_eq_getElem hjV
      generalize q.V[j] = x at *
      have hF2 : FatesAt wr fo F := HH.out.2.2.2.2.2.2.1.offT u4 (fun a e hl hT => HH.out.2.2.2.2.2.2.2.1 a e hl (.inr (.inr (.inr (.inl hT)))))
      have HX := hide (And.intro u1 (And.intro u2 (And.intro u3 (And.intro u4 (And.intro hx hF2)))))
      have h1 : (0 : Int) ≤ (j : Int) := by omega
      have h2 : (j : Int) < (M : Int) := by omega
      have hLj := lasts_le (fateK F j) (fateA F j) size
      clear u1 u2 u3 u4 hx hF2 HR
      go_upto_if 26 with fail
      go_cut [6] (fun s6 wx => s6 = .int .i64 ((lasts (fateK F j) (fateA F j) size : Nat) : Int) ∧ Hid (wr.grownBy wx none))
      · by_cases hjm : j < m
        · obtain ⟨p, hp⟩ : ∃ p, F[j]? = some p := ⟨_, List.getElem?_eq_getElem (by have := HH.out.2.2.2.2.2.1; omega)⟩
          obtain ⟨fb, fof, rfl, f1, f2⟩ := HX.out.2.2.2.2.2 j p hp
          have hK : fateK F j = p.1 := by simp [fateK, hp]
          have hA : fateA F j = p.2 := by simp [fateA, hp]
          have HK := hide (rkept_any (q := q.withS S') (r := r) HH.out.2.2.2.2.2.2.2.2 HX.out.1 p.1 p.2)
          have HKA := hide (And.intro hK hA)
          have h3 : (j : Int) < (m : Int) := by omega
          clear hp hK hA hLj
          go_wp2_with fail
          refine HK.out.mono ?_
          rintro e w1 ⟨rfl, g1⟩
          have A1 := hide g1
          clear g1
          go_wp2
          go_meet
          exact ⟨by rw [HKA.out.1, HKA.out.2], A1⟩
        · have hp : F[j]? = none := List.getElem?_eq_none (by have := HH.out.2.2.2.2.2.1; omega)
          have hz : lasts (fateK F j) (fateA F j) size = 0 := by simp [fateK, hp, lasts]
          have HZ := hide hz
          have h3 : ¬ (j : Int) < (m : Int) := by omega
          clear hp hz hLj
          go_wp2
          go_meet
          exact ⟨by rw [HZ.out]; rfl, hide (grown_refl _ _)⟩
      · obtain ⟨rfl, HG⟩ := hcut
        obtain ⟨T, hT⟩ : ∃ T, T = lasts (fateK F j) (fateA F j) size := ⟨_, rfl⟩
        have HT := hide hT
        rw [← hT] at hLj ⊢
        clear hT
        obtain ⟨GK, rfl⟩ : ∃ x, x = gk := ⟨_, rfl⟩
        have R1 : RefAt wc lo n size (q.withS S') := HX.out.1.grown HG.out
        obtain ⟨hsn, hxl⟩ := R1.wsz x (List.mem_of_getElem? HX.out.2.2.2.2.1)
        obtain ⟨b, hb⟩ := R1.get hsn
        have hb : S'[x.1]? = some b := hb
        have hbl : b.xs.length = size := R1.sz b (List.mem_of_getElem? hb)
        obtain ⟨gw, rfl⟩ := HH.out.2.2.1 (by omega)
        have d1c := HG.out.cell d1 (by simp)
        have HB := hide (And.intro hb (And.intro hbl (And.intro hxl R1)))
        clear hb hbl hxl R1 d0 d1
        go_wp2
        go_loopg [7] T (fun gq i wt => ∃ k : Nat, gq + k = T ∧ i = .int .i64 k ∧ Hid (RefAt wt lo n size (q.withS (S'.set x.1 ⟨b.g, b.c, over (x.2.xs.take k) b.xs⟩)) ∧ wc.grownBy wt (some b.g)))
        case atStart => exact ⟨0, by omega, rfl, hide ⟨by rw [show (⟨b.g, b.c, over (x.2.xs.take 0) b.xs⟩ : Bx) = b from rfl, set_self _ _ _ HB.out.1]; exact HB.out.2.2.2, grown_refl _ _⟩⟩
        case round =>
          obtain ⟨k, hkk, rfl, HR⟩ := hrel
          by_cases hk : 0 < gk
          · obtain ⟨hb, hbl, hxl, R1⟩ := HB.out
            obtain ⟨R2, G2⟩ := HR.out
            have hkT : k < T := by omega
            obtain ⟨y, hy⟩ : ∃ y, x.2.xs[k]? = some y := ⟨_, List.getElem?_eq_getElem (by omega)⟩
            have hr := HH.out.2.2.2.2.2.2.2.2
            have e0 : wr.cell? ⟨r, 0, none⟩ = some (.slice (some ⟨gv, 0, none⟩) n gcap) := by have := R2.c0; rw [← hr, ← HH.out.2.2.2.1]; exact this
            have e1 : wr.cell? ⟨r, 1, none⟩ = some (.slice (some ⟨gw, 0, none⟩) M vcap) := by have := R2.c1; rw [← hr, ← HH.out.2.1]; exact this
            obtain ⟨e2, e3⟩ := R2.wcell (j := j) (x := x) HH.out.2.1 HX.out.2.2.2.2.1
            have hset : (S'.set x.1 ⟨b.g, b.c, over (x.2.xs.take k) b.xs⟩)[x.1]? = some ⟨b.g, b.c, over (x.2.xs.take k) b.xs⟩ := by rw [List.getElem?_set, if_pos rfl, if_pos (List.getElem?_eq_some_iff.1 hb).1]
            have e4 := R2.sec HH.out.2.2.2.1 hset
            have hbx := R2.rows.at_ _ (List.mem_of_getElem? hset)
            have e5 : wr.cell? ⟨x.2.g, k, none⟩ = some (.int .u8 ((y : Nat) : Int)) := by
              have := World.ownsRow.cells (R2.wat x (List.mem_of_getElem? HX.out.2.2.2.2.1)) rfl k _ (bv_get _ k y hy)
              rwa [Addr.add_lit, Nat.zero_add] at this
            have hol : (over (x.2.xs.take k) b.xs).length = size := by rw [over_length _ _ (by simp; omega)]; exact hbl
            obtain ⟨z, hz⟩ : ∃ z, (over (x.2.xs.take k) b.xs)[k]? = some z := ⟨_, List.getElem?_eq_getElem (by omega)⟩
            have e6 : wr.cell? ⟨b.g, k, none⟩ = some (.int .u8 ((z : Nat) : Int)) := by
              have := World.ownsRow.cells hbx rfl k _ (bv_get _ k z hz)
              rwa [Addr.add_lit, Nat.zero_add] at this
            have e7 : wr.frozen? ⟨b.g, k, none⟩ = false := World.ownsRow.frozenAt hbx k
            have k0 : b.g ≠ r := by
              intro e
              obtain ⟨_, c, hc⟩ := hbx.blk
              have hc : wr.heap[b.g]? = some (.cells c 5 (0, 0)) := hc
              have := R2.head
              rw [show (q.withS (S'.set x.1 ⟨b.g, b.c, over (x.2.xs.take k) b.xs⟩)).r = b.g from hr.trans e.symm, hc] at this
              simp at this
            have k1 : b.g ≠ gw := by
              intro e
              obtain ⟨_, c, hc⟩ := hbx.blk
              have hc : wr.heap[b.g]? = some (.cells c 5 (0, 0)) := hc
              obtain ⟨_, c2, hc2⟩ := own_block R2.wrow gw (by show q.vw.ownBlock = _; rw [HH.out.2.1]; rfl)
              rw [← e, hc] at hc2
              simp at hc2
            have k2 : b.g ≠ gv := by
              intro e
              obtain ⟨_, c, hc⟩ := hbx.blk
              have hc : wr.heap[b.g]? = some (.cells c 5 (0, 0)) := hc
              obtain ⟨_, c2, hc2⟩ := own_block R2.rows.row gv (by show q.v.ownBlock = _; rw [HH.out.2.2.2.1]; rfl)
              rw [← e, hc] at hc2
              simp at hc2
            have k3 : b.g ≠ x.2.g := fun e => R2.nv x (List.mem_of_getElem? HX.out.2.2.2.2.1) _ (List.mem_of_getElem? hset) e.symm
            have i1 : (0 : Int) ≤ (k : Int) := by omega
            have i2 : (k : Int) < (size : Int) := by omega
            have i3 : (k : Int) < (T : Int) := by omega
            have i4 : (x.1 : Int) < (n : Int) := by omega
            have i5 : (0 : Int) ≤ (x.1 : Int) := by omega
            have HY := hide (And.intro hy (And.intro hset (And.intro R2 (And.intro G2 hol))))
            have hsz1 : size ≤ 4096 := s1
            clear hb hbl hxl R1 R2 G2 hy hr hset hbx hol hz HR
            go_wp2
            go_region_held3 (fun w' => w'.cell? ⟨r, 0, none⟩ = some (.slice (some ⟨gv, 0, none⟩) n gcap) ∧ w'.cell? ⟨r, 1, none⟩ = some (.slice (some ⟨gw, 0, none⟩) M vcap) ∧ w'.cell? ⟨gw, j * 2, none⟩ = some (.int .i64 (x.1 : Int)) ∧ w'.cell? ⟨gw, j * 2 + 1, none⟩ = some (.slice (some ⟨x.2.g, 0, none⟩) size x.2.c) ∧ w'.cell? ⟨gv, x.1, none⟩ = some (.slice (some ⟨b.g, 0, none⟩) size b.c) ∧ w'.cell? ⟨x.2.g, k, none⟩ = some (.int .u8 ((y : Nat) : Int))) (first | exact ⟨e0, e1, e2, e3, e4, e5⟩ | go_keep) (fail)
            go_wp2
            go_roundg (gk - 1)
            case measure => omega
            case rel =>
              obtain ⟨hy, hset, R2, G2, hol⟩ := HY.out
              obtain ⟨z1, z2⟩ := (R2.grown (grown_drew wr none)).put hset k y
              refine ⟨k + 1, by omega, by go_num, hide ⟨?_, grown_trans G2 (grown_trans (grown_drew wr _) z2)⟩⟩
              have e : (S'.set x.1 ⟨b.g, b.c, over (x.2.xs.take k) b.xs⟩).set x.1 ⟨b.g, b.c, (over (x.2.xs.take k) b.xs).set k y⟩ = S'.set x.1 ⟨b.g, b.c, over (x.2.xs.take (k + 1)) b.xs⟩ := by
                rw [List.set_set, over_step _ _ _ _ hy (by have := HB.out.2.1; omega)]
              have z1' : RefAt _ lo n size (q.withS ((S'.set x.1 ⟨b.g, b.c, over (x.2.xs.take k) b.xs⟩).set x.1 ⟨b.g, b.c, (over (x.2.xs.take k) b.xs).set k y⟩)) := z1
              rw [e] at z1'
              exact z1'
          · have hkT : k = T := by omega
            subst hkT
            go_wp2
            go_roundg (GK - 1)
            case measure => omega
            case rel =>
              obtain ⟨hb, hbl, hxl, R1⟩ := HB.out
              obtain ⟨R2, G2⟩ := HR.out
              obtain ⟨f1, f2, f3, f4, fx, ff⟩ := HX.out
              refine ⟨j + 1, by omega, by go_num, hide ⟨_, R2, ?_, ?_, ?_⟩⟩
              · rw [← f2]
                exact set_map _ _ _ b _ hb rfl
              · rw [stlR_succ _ _ _ _ (x.1, x.2.xs) (by rw [absV, List.getElem?_map, fx]; rfl), ← f3, List.map_set, HL.out]
                show (S'.map Bx.xs).set x.1 (over (x.2.xs.take k) b.xs) = (S'.map Bx.xs).modify x.1 (over (x.2.xs.take (lasts (fateK F j) (fateA F j) size)))
                rw [← HT.out]
                exact set_modify _ _ _ _ (by rw [List.getElem?_map, hb]; rfl)
              · refine f4.trans ((Kept.new HG.out _).trans (Kept.of G2 (fun i e _ => ?_)) (fun _ _ e => e)) (fun _ _ e => e)
                have hbg : b.g ∈ S'.map Bx.g := List.mem_map_of_mem (List.mem_of_getElem? hb)
                rw [f2] at hbg
                obtain ⟨b0, h1, h2⟩ := List.mem_map.1 hbg
                exact ⟨b0, h1, h2.trans (Option.some.inj e)⟩
    · have hj : j = M := by omega
      subst hj
      have HX := hide (And.intro u1 (And.intro u2 (And.intro u3 u4)))
      have hfr : wr.frozen? ⟨r, 1, none⟩ = false := by have := u1.free 1; rw [← HH.out.2.2.2.2.2.2.2.2]; exact this
      clear u1 u2 u3 u4 HR hkj hk
      go_wp2
      go_ret
      obtain ⟨f1, f2, f3, f4⟩ := HX.out
      obtain ⟨z1, z2⟩ := f1.calm
      have hr := HH.out.2.2.2.2.2.2.2.2
      have hsub : ∀ i, (∃ b ∈ q.S, b.g = i) → rfoot q i := fun i hi => .inr (.inr (.inr (.inl hi)))
      refine ⟨⟨q.r, q.v, .slice none 0 0, S', []⟩, rfl, hr, ?_, rfl, f3, ?_, ?_⟩
      · have := z1
        rw [← hr]
        exact this
      · rw [← hr]
        exact (f4.mono (fun i _ e => hsub i e)).trans (Kept.of z2 (fun i e _ => by have := Option.some.inj e; subst this; exact .inl rfl)) (fun _ _ e => e)
      · rintro i (e | e | e | e | ⟨x, hx, e⟩)
        · exact .inl e
        · exact .inr (.inl e)
        · cases e
        · have := (rfoot_withS f2 i).1 (.inr (.inr (.inr (.inl e))))
          exact this
        · cases hx
end
end Go.Proofs.Ytgcfjphjekkkmaa
