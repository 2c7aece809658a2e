/- Texts joined: RefK, RefY, None2, OneA, OneB, ArgR, RefD, RefOf2. -/
import Derived.Test.YtonokaelbpfjnaaGreatDoorJhAg
import Derived.Deep.CutRange
import Derived.Deep.DeepCutAuto
import Derived.Test.YtonokaelbpfjnaaGreatDoorJhAf
import Derived.Test.YtonokaelbpfjnaaGreatDoorJhAd
import Derived.Maps.AppendAt
import Derived.BigQuiet
import Derived.Deep.RegionLaw
/- The document's Crash. -/
namespace Go.Proofs.YtonokaelbpfjnaaGreatDoor
open Go.RowKit Ap
attribute [local go_sem ↓] Go.wp_at_zero Go.wp_at_succ

theorem FatesAt.offT {w w' : World} {fo : Option Addr} {F : List (Int × Int)} {T : Nat → Prop} (h : FatesAt w fo F) (hk : Kept w w' T) (hT : ∀ a, fo = some a → 0 < F.length → ¬ T a.block) : FatesAt w' fo F := by
  intro j p hj
  obtain ⟨b, o, e, c1, c2⟩ := h j p hj
  have hl : 0 < F.length := Nat.lt_of_le_of_lt (Nat.zero_le _) (List.getElem?_eq_some_iff.1 hj).1
  have hb : w'.heap[b]? = w.heap[b]? := hk.block b (cell_lt c1) (hT ⟨b, o, none⟩ e hl)
  exact ⟨b, o, e, by rw [← c1]; simp [World.cell?, hb], by rw [← c2]; simp [World.cell?, hb]⟩
section
variable {w : World} {lo n size : Nat} {q : Rk} {r : Nat}
set_option maxRecDepth 20000 in
set_option maxHeartbeats 8000000 in
theorem rcrash_any (hr : q.r = r) (h : RefAt w lo n size q) (hV : q.V.length ≤ 1000000) (fo : Option Addr) (m cap : Nat) (F : List (Int × Int)) (hm : F.length = m) (_hm2 : m ≤ 140737488355328) (hF : FatesAt w fo F) (hfo : ∀ a, fo = some a → 0 < F.length → ¬ rfoot q a.block) :
    Calls Tryz.prog 72 #[.pointer (some ⟨r, 0, none⟩), .slice fo m cap] w fun e w' => ∃ q' : Rk, e = .returned (.int .i64 0) ∧ q'.r = r ∧ RefAt w' lo n size q' ∧ q'.V = [] ∧ q'.S.map Bx.xs = stlR (fun i => lasts (fateK F i) (fateA F i) size) (absV q.V) (q.S.map Bx.xs) q.V.length ∧ Kept w w' (rfoot q) ∧ ∀ i, rfoot q' i → rfoot q i := by
  obtain ⟨vo, vcap, hvw, hvo⟩ := h.wform
  obtain ⟨gv, gcap, hv⟩ := h.vform
  obtain ⟨M, hM⟩ : ∃ M, M = q.V.length := ⟨_, rfl⟩
  obtain ⟨L, hL⟩ : ∃ L : Nat → Nat, L = fun i => lasts (fateK F i) (fateA F i) size := ⟨_, rfl⟩
  have c0 := h.c0
  rw [hv, hr] at c0
  have n0 := h.shape.n0
  have n1 := h.shape.n1
  have s0 := h.shape.s0
  have s1 := h.shape.s1
  rw [← hM] at hvw hvo hV
  have HH := hide (And.intro h (And.intro hvw (And.intro hvo (And.intro hv (And.intro hM (And.intro hm (And.intro hF (And.intro hfo hr))))))))
  have HL := hide hL
  have m0 : (0 : Int) < (n : Int) := by omega
  have m1 : ¬ (n : Int) = 0 := by omega
  have m2 : ((n : Int) == 0) = false := by simpa using m1
  have m3 : decide ((n : Int) = 0) = false := by simpa using m1
  rw [← hL, ← hM]
  clear h hvw hvo hv hM hm hF hfo hL hr
  go_enter Tryz.func72, Tryz.ntmps72
  go_wp2
  go_loopg [5] M (fun gq i wr => ∃ j : Nat, gq + j = M ∧ i = .int .i64 j ∧ Hid (∃ S', RefAt wr lo n size (q.withS S') ∧ S'.map Bx.g = q.S.map Bx.g ∧ S'.map Bx.xs = stlR L (absV q.V) (q.S.map Bx.xs) j ∧ Kept w wr (fun i => ∃ b ∈ q.S, b.g = i)))
  case atStart => exact ⟨0, by omega, rfl, hide ⟨q.S, HH.out.1, rfl, rfl, Kept.refl _ _⟩⟩
  case round =>
    obtain ⟨j, hkj, rfl, HR⟩ := hrel
    obtain ⟨S', u1, u2, u3, u4⟩ := HR.out
    have d1 := u1.c1
    have d0 := u1.c0
    have d1 : wr.cell? ⟨r, 1, none⟩ = some (.slice vo M vcap) := by rw [← HH.out.2.1, ← HH.out.2.2.2.2.2.2.2.2]; exact d1
    have d0 : wr.cell? ⟨r, 0, none⟩ = some (.slice (some ⟨gv, 0, none⟩) n gcap) := by rw [← HH.out.2.2.2.1, ← HH.out.2.2.2.2.2.2.2.2]; exact d0
    by_cases hk : 0 < gk
    · have hjV : j < q.V.length := by have := HH.out.2.2.2.2.1; omega
      have hx := List.getElem?_eq_getElem hjV
      generalize q.V[j] = x at *
      have hF2 : FatesAt wr fo F := HH.out.2.2.2.2.2.2.1.offT u4 (fun a e hl hT => HH.out.2.2.2.2.2.2.2.1 a e hl (.inr (.inr (.inr (.inl hT)))))
      have HX := hide (And.intro u1 (And.intro u2 (And.intro u3 (And.intro u4 (And.intro hx hF2)))))
      have h1 : (0 : Int) ≤ (j : Int) := by omega
      have h2 : (j : Int) < (M : Int) := by omega
      have hLj := lasts_le (fateK F j) (fateA F j) size
      clear u1 u2 u3 u4 hx hF2 HR
      go_upto_if 26 with fail
      go_cut [6] (fun s6 wx => s6 = .int .i64 ((lasts (fateK F j) (fateA F j) size : Nat) : Int) ∧ Hid (wr.grownBy wx none))
      · by_cases hjm : j < m
        · obtain ⟨p, hp⟩ : ∃ p, F[j]? = some p := ⟨_, List.getElem?_eq_getElem (by have := HH.out.2.2.2.2.2.1; omega)⟩
          obtain ⟨fb, fof, rfl, f1, f2⟩ := HX.out.2.2.2.2.2 j p hp
          have hK : fateK F j = p.1 := by simp [fateK, hp]
          have hA : fateA F j = p.2 := by simp [fateA, hp]
          have HK := hide (rkept_any (q := q.withS S') (r := r) HH.out.2.2.2.2.2.2.2.2 HX.out.1 p.1 p.2)
          have HKA := hide (And.intro hK hA)
          have h3 : (j : Int) < (m : Int) := by omega
          clear hp hK hA hLj
          go_wp2_with fail
          refine HK.out.mono ?_
          rintro e w1 ⟨rfl, g1⟩
          have A1 := hide g1
          clear g1
          go_wp2
          go_meet
          exact ⟨by rw [HKA.out.1, HKA.out.2], A1⟩
        · have hp : F[j]? = none := List.getElem?_eq_none (by have := HH.out.2.2.2.2.2.1; omega)
          have hz : lasts (fateK F j) (fateA F j) size = 0 := by simp [fateK, hp, lasts]
          have HZ := hide hz
          have h3 : ¬ (j : Int) < (m : Int) := by omega
          clear hp hz hLj
          go_wp2
          go_meet
          exact ⟨by rw [HZ.out]; rfl, hide (grown_refl _ _)⟩
      · obtain ⟨rfl, HG⟩ := hcut
        obtain ⟨T, hT⟩ : ∃ T, T = lasts (fateK F j) (fateA F j) size := ⟨_, rfl⟩
        have HT := hide hT
        rw [← hT] at hLj ⊢
        clear hT
        obtain ⟨GK, rfl⟩ : ∃ x, x = gk := ⟨_, rfl⟩
        have R1 : RefAt wc lo n size (q.withS S') := HX.out.1.grown HG.out
        obtain ⟨hsn, hxl⟩ := R1.wsz x (List.mem_of_getElem? HX.out.2.2.2.2.1)
        obtain ⟨b, hb⟩ := R1.get hsn
        have hb : S'[x.1]? = some b := hb
        have hbl : b.xs.length = size := R1.sz b (List.mem_of_getElem? hb)
        obtain ⟨gw, rfl⟩ := HH.out.2.2.1 (by omega)
        have d1c := HG.out.cell d1 (by simp)
        have HB := hide (And.intro hb (And.intro hbl (And.intro hxl R1)))
        clear hb hbl hxl R1 d0 d1
        go_wp2
        go_loopg [7] T (fun gq i wt => ∃ k : Nat, gq + k = T ∧ i = .int .i64 k ∧ Hid (RefAt wt lo n size (q.withS (S'.set x.1 ⟨b.g, b.c, over (x.2.xs.take k) b.xs⟩)) ∧ wc.grownBy wt (some b.g)))
        case atStart => exact ⟨0, by omega, rfl, hide ⟨by rw [show (⟨b.g, b.c, over (x.2.xs.take 0) b.xs⟩ : Bx) = b from rfl, set_self _ _ _ HB.out.1]; exact HB.out.2.2.2, grown_refl _ _⟩⟩
        case round =>
          obtain ⟨k, hkk, rfl, HR⟩ := hrel
          by_cases hk : 0 < gk
          · obtain ⟨hb, hbl, hxl, R1⟩ := HB.out
            obtain ⟨R2, G2⟩ := HR.out
            have hkT : k < T := by omega
            obtain ⟨y, hy⟩ : ∃ y, x.2.xs[k]? = some y := ⟨_, List.getElem?_eq_getElem (by omega)⟩
            have hr := HH.out.2.2.2.2.2.2.2.2
            have e0 : wr.cell? ⟨r, 0, none⟩ = some (.slice (some ⟨gv, 0, none⟩) n gcap) := by have := R2.c0; rw [← hr, ← HH.out.2.2.2.1]; exact this
            have e1 : wr.cell? ⟨r, 1, none⟩ = some (.slice (some ⟨gw, 0, none⟩) M vcap) := by have := R2.c1; rw [← hr, ← HH.out.2.1]; exact this
            obtain ⟨e2, e3⟩ := R2.wcell (j := j) (x := x) HH.out.2.1 HX.out.2.2.2.2.1
            have hset : (S'.set x.1 ⟨b.g, b.c, over (x.2.xs.take k) b.xs⟩)[x.1]? = some ⟨b.g, b.c, over (x.2.xs.take k) b.xs⟩ := by rw [List.getElem?_set, if_pos rfl, if_pos (List.getElem?_eq_some_iff.1 hb).1]
            have e4 := R2.sec HH.out.2.2.2.1 hset
            have hbx := R2.rows.at_ _ (List.mem_of_getElem? hset)
            have e5 : wr.cell? ⟨x.2.g, k, none⟩ = some (.int .u8 ((y : Nat) : Int)) := by
              have := World.ownsRow.cells (R2.wat x (List.mem_of_getElem? HX.out.2.2.2.2.1)) rfl k _ (bv_get _ k y hy)
              rwa [Addr.add_lit, Nat.zero_add] at this
            have hol : (over (x.2.xs.take k) b.xs).length = size := by rw [over_length _ _ (by simp; omega)]; exact hbl
            obtain ⟨z, hz⟩ : ∃ z, (over (x.2.xs.take k) b.xs)[k]? = some z := ⟨_, List.getElem?_eq_getElem (by omega)⟩
            have e6 : wr.cell? ⟨b.g, k, none⟩ = some (.int .u8 ((z : Nat) : Int)) := by
              have := World.ownsRow.cells hbx rfl k _ (bv_get _ k z hz)
              rwa [Addr.add_lit, Nat.zero_add] at this
            have e7 : wr.frozen? ⟨b.g, k, none⟩ = false := World.ownsRow.frozenAt hbx k
            have k0 : b.g ≠ r := by
              intro e
              obtain ⟨_, c, hc⟩ := hbx.blk
              have hc : wr.heap[b.g]? = some (.cells c 5 (0, 0)) := hc
              have := R2.head
              rw [show (q.withS (S'.set x.1 ⟨b.g, b.c, over (x.2.xs.take k) b.xs⟩)).r = b.g from hr.trans e.symm, hc] at this
              simp at this
            have k1 : b.g ≠ gw := by
              intro e
              obtain ⟨_, c, hc⟩ := hbx.blk
              have hc : wr.heap[b.g]? = some (.cells c 5 (0, 0)) := hc
              obtain ⟨_, c2, hc2⟩ := own_block R2.wrow gw (by show q.vw.ownBlock = _; rw [HH.out.2.1]; rfl)
              rw [← e, hc] at hc2
              simp at hc2
            have k2 : b.g ≠ gv := by
              intro e
              obtain ⟨_, c, hc⟩ := hbx.blk
              have hc : wr.heap[b.g]? = some (.cells c 5 (0, 0)) := hc
              obtain ⟨_, c2, hc2⟩ := own_block R2.rows.row gv (by show q.v.ownBlock = _; rw [HH.out.2.2.2.1]; rfl)
              rw [← e, hc] at hc2
              simp at hc2
            have k3 : b.g ≠ x.2.g := fun e => R2.nv x (List.mem_of_getElem? HX.out.2.2.2.2.1) _ (List.mem_of_getElem? hset) e.symm
            have i1 : (0 : Int) ≤ (k : Int) := by omega
            have i2 : (k : Int) < (size : Int) := by omega
            have i3 : (k : Int) < (T : Int) := by omega
            have i4 : (x.1 : Int) < (n : Int) := by omega
            have i5 : (0 : Int) ≤ (x.1 : Int) := by omega
            have HY := hide (And.intro hy (And.intro hset (And.intro R2 (And.intro G2 hol))))
            have hsz1 : size ≤ 4096 := s1
            clear hb hbl hxl R1 R2 G2 hy hr hset hbx hol hz HR
            go_wp2
            go_region_held3 (fun w' => w'.cell? ⟨r, 0, none⟩ = some (.slice (some ⟨gv, 0, none⟩) n gcap) ∧ w'.cell? ⟨r, 1, none⟩ = some (.slice (some ⟨gw, 0, none⟩) M vcap) ∧ w'.cell? ⟨gw, j * 2, none⟩ = some (.int .i64 (x.1 : Int)) ∧ w'.cell? ⟨gw, j * 2 + 1, none⟩ = some (.slice (some ⟨x.2.g, 0, none⟩) size x.2.c) ∧ w'.cell? ⟨gv, x.1, none⟩ = some (.slice (some ⟨b.g, 0, none⟩) size b.c) ∧ w'.cell? ⟨x.2.g, k, none⟩ = some (.int .u8 ((y : Nat) : Int))) (first | exact ⟨e0, e1, e2, e3, e4, e5⟩ | go_keep) (fail)
            go_wp2
            go_roundg (gk - 1)
            case measure => omega
            case rel =>
              obtain ⟨hy, hset, R2, G2, hol⟩ := HY.out
              obtain ⟨z1, z2⟩ := (R2.grown (grown_drew wr none)).put hset k y
              refine ⟨k + 1, by omega, by go_num, hide ⟨?_, grown_trans G2 (grown_trans (grown_drew wr _) z2)⟩⟩
              have e : (S'.set x.1 ⟨b.g, b.c, over (x.2.xs.take k) b.xs⟩).set x.1 ⟨b.g, b.c, (over (x.2.xs.take k) b.xs).set k y⟩ = S'.set x.1 ⟨b.g, b.c, over (x.2.xs.take (k + 1)) b.xs⟩ := by
                rw [List.set_set, over_step _ _ _ _ hy (by have := HB.out.2.1; omega)]
              have z1' : RefAt _ lo n size (q.withS ((S'.set x.1 ⟨b.g, b.c, over (x.2.xs.take k) b.xs⟩).set x.1 ⟨b.g, b.c, (over (x.2.xs.take k) b.xs).set k y⟩)) := z1
              rw [e] at z1'
              exact z1'
          · have hkT : k = T := by omega
            subst hkT
            go_wp2
            go_roundg (GK - 1)
            case measure => omega
            case rel =>
              obtain ⟨hb, hbl, hxl, R1⟩ := HB.out
              obtain ⟨R2, G2⟩ := HR.out
              obtain ⟨f1, f2, f3, f4, fx, ff⟩ := HX.out
              refine ⟨j + 1, by omega, by go_num, hide ⟨_, R2, ?_, ?_, ?_⟩⟩
              · rw [← f2]
                exact set_map _ _ _ b _ hb rfl
              · rw [stlR_succ _ _ _ _ (x.1, x.2.xs) (by rw [absV, List.getElem?_map, fx]; rfl), ← f3, List.map_set, HL.out]
                show (S'.map Bx.xs).set x.1 (over (x.2.xs.take k) b.xs) = (S'.map Bx.xs).modify x.1 (over (x.2.xs.take (lasts (fateK F j) (fateA F j) size)))
                rw [← HT.out]
                exact set_modify _ _ _ _ (by rw [List.getElem?_map, hb]; rfl)
              · refine f4.trans ((Kept.new HG.out _).trans (Kept.of G2 (fun i e _ => ?_)) (fun _ _ e => e)) (fun _ _ e => e)
                have hbg : b.g ∈ S'.map Bx.g := List.mem_map_of_mem (List.mem_of_getElem? hb)
                rw [f2] at hbg
                obtain ⟨b0, h1, h2⟩ := List.mem_map.1 hbg
                exact ⟨b0, h1, h2.trans (Option.some.inj e)⟩
    · have hj : j = M := by omega
      subst hj
      have HX := hide (And.intro u1 (And.intro u2 (And.intro u3 u4)))
      have hfr : wr.frozen? ⟨r, 1, none⟩ = false := by have := u1.free 1; rw [← HH.out.2.2.2.2.2.2.2.2]; exact this
      clear u1 u2 u3 u4 HR hkj hk
      go_wp2
      go_ret
      obtain ⟨f1, f2, f3, f4⟩ := HX.out
      obtain ⟨z1, z2⟩ := f1.calm
      have hr := HH.out.2.2.2.2.2.2.2.2
      have hsub : ∀ i, (∃ b ∈ q.S, b.g = i) → rfoot q i := fun i hi => .inr (.inr (.inr (.inl hi)))
      refine ⟨⟨q.r, q.v, .slice none 0 0, S', []⟩, rfl, hr, ?_, rfl, f3, ?_, ?_⟩
      · have := z1
        rw [← hr]
        exact this
      · rw [← hr]
        exact (f4.mono (fun i _ e => hsub i e)).trans (Kept.of z2 (fun i e _ => by have := Option.some.inj e; subst this; exact .inl rfl)) (fun _ _ e => e)
      · rintro i (e | e | e | e | ⟨x, hx, e⟩)
        · exact .inl e
        · exact .inr (.inl e)
        · cases e
        · have := (rfoot_withS f2 i).1 (.inr (.inr (.inr (.inl e))))
          exact this
        · cases hx
end
end Go.Proofs.YtonokaelbpfjnaaGreatDoor
/- The document's Sync. -/
namespace Go.Proofs.YtonokaelbpfjnaaGreatDoor
open Go.RowKit Ap
attribute [local go_sem ↓] Go.wp_at_zero Go.wp_at_succ

theorem fates_own {w : World} {B m cap : Nat} {vo : Option Addr} {F : List (Int × Int)} (h : w.ownsRow B 165 2 (.slice vo m cap) m (fcells F)) : FatesAt w vo F := by
  intro j p hj
  obtain ⟨a, b⟩ := fcells_get F j p hj
  have hm : 0 < m := by
    have h1 := h.1
    have h2 := (List.getElem?_eq_some_iff.1 a).1
    omega
  obtain ⟨ao, cc, e, hao, -, -⟩ := own_form h
  cases e
  obtain ⟨g, rfl⟩ := hao hm
  have c1 := h.cells rfl _ _ a
  have c2 := h.cells rfl _ _ b
  rw [Addr.add_lit] at c1 c2
  exact ⟨g, 0, rfl, c1, c2⟩
theorem fates_one {w : World} : FatesAt (w.alloc (.cells #[.int .i64 1, .int .i64 0] 165)) (some ⟨w.heap.size, 0, none⟩) [(1, 0)] :=
  fates_row (F := [(1, 0)]) (heap_alloc_new w _)
section
variable {w : World} {lo n size : Nat} {q : Rk} {r : Nat}
set_option maxRecDepth 20000 in
set_option maxHeartbeats 4000000 in
theorem rsync_any (hr : q.r = r) (h : RefAt w lo n size q) (hV : q.V.length ≤ 1000000) :
    Calls Tryz.prog 145 #[.pointer (some ⟨r, 0, none⟩)] w fun e w' => ∃ q' : Rk, e = .returned (.int .i64 0) ∧ q'.r = r ∧ RefAt w' lo n size q' ∧ q'.V = [] ∧ q'.S.map Bx.xs = stlR (fun _ => size) (absV q.V) (q.S.map Bx.xs) q.V.length ∧ Kept w w' (rfoot q) ∧ ∀ i, rfoot q' i → rfoot q i := by
  obtain ⟨vo, vcap, hvw, hvo⟩ := h.wform
  obtain ⟨M, hM⟩ : ∃ M, M = q.V.length := ⟨_, rfl⟩
  have c1 := h.c1
  rw [hvw, hr, ← hM] at c1
  rw [← hM] at hV
  have HH := hide (And.intro h (And.intro hr hM))
  clear h hr hM hvw hvo
  go_enter Tryz.func145, Tryz.ntmps145
  go_wp2
  go_loopg [3, 4] M (fun gq v i wr => ∃ j : Nat, gq + j = M ∧ i = .int .i64 j ∧ Hid (wr.ownsRow w.heap.size 165 2 v j (fcells (List.replicate j (1, 0))) ∧ w.grownBy wr none))
  case atStart => exact ⟨0, by omega, rfl, hide ⟨World.ownsRow_nil _ _ _ _, grown_refl _ _⟩⟩
  case round =>
    obtain ⟨j, hkj, rfl, HR⟩ := hrel
    have d1 := HR.out.2.cell c1 (by simp)
    by_cases hk : 0 < gk
    · have h2 : (j : Int) < (M : Int) := by omega
      go_wp2_with (at_builtin; refine wpList_append_fates rfl (.tmp 14) (.tmp 16) rfl w.heap.size u3 j (List.replicate j (1, 0)) rfl (HR.out.1.alloc _) (some ⟨wr.heap.size, 0, none⟩) 1 1 [(1, 0)] rfl rfl fates_one (fun e => by cases e) (by omega) ?_ ?_)
      · exact Nat.le_trans HR.out.2.size (World.grownBy_alloc wr _ none).size
      intro v' w2 o2 g2
      have A2 := hide (And.intro o2 g2)
      clear o2 g2
      go_wp2
      go_roundg (gk - 1)
      case measure => omega
      case rel =>
        refine ⟨j + 1, by omega, by go_num, hide ⟨?_, ?_⟩⟩
        · rw [List.replicate_succ']; exact A2.out.1
        · exact grown_then (grown_trans HR.out.2 (World.grownBy_alloc wr _ none)) A2.out.2 (fun b e => Or.inl (own_block HR.out.1 b e).1)
    · have hj : j = M := by omega
      subst hj
      obtain ⟨fo, fcap, rfl, -, -, -⟩ := own_form HR.out.1
      obtain ⟨h, hr, hM⟩ := HH.out
      have HC := hide (rcrash_any hr (h.grown HR.out.2) (by omega) fo j fcap (List.replicate j (1, 0)) (by simp) (by omega) (fates_own HR.out.1) (fun a e hl hf => by
        have h1 := (own_block HR.out.1 a.block (by rw [e]; rfl)).1
        have h2 := (h.lt _ hf).2
        omega))
      clear h hr hM hkj hk
      go_wp2_with fail
      refine HC.out.mono ?_
      rintro e w2 ⟨q', rfl, z1, z2, z3, z4, z5, z6⟩
      have A2 := hide (And.intro z1 (And.intro z2 (And.intro z3 (And.intro z4 (And.intro z5 z6)))))
      clear z1 z2 z3 z4 z5 z6
      go_wp2
      go_ret
      obtain ⟨z1, z2, z3, z4, z5, z6⟩ := A2.out
      refine ⟨q', rfl, z1, z2, z3, z4.trans (stlR_congr _ ?_), (Kept.new HR.out.2 _).trans z5 (fun _ _ e => e), z6⟩
      intro i hi
      have hi : i < j := by rw [HH.out.2.2]; exact hi
      simp [fateK, hi, lasts]
end
end Go.Proofs.YtonokaelbpfjnaaGreatDoor
/- A call of no disk tells what it should. -/
namespace Go.Proofs.YtonokaelbpfjnaaGreatDoor
open Go.RowKit Ap
attribute [local go_sem ↓] Go.wp_at_zero Go.wp_at_succ

/-- An operation's six cells. -/
def opV (o : Int × Int × Int × Int × Int) (fo : Option Addr) (m c : Nat) : Array Value := #[.int .i64 o.1, .int .i64 o.2.1, .int .i64 o.2.2.1, .int .i64 o.2.2.2.1, .int .i64 o.2.2.2.2, .slice fo m c]
theorem pick7 (x : Int) : x % 7 = 0 ∨ x % 7 = 1 ∨ x % 7 = 2 ∨ x % 7 = 3 ∨ x % 7 = 4 ∨ x % 7 = 5 ∨ x % 7 = 6 := by omega

end Go.Proofs.YtonokaelbpfjnaaGreatDoor
/- A call of a disk that is there tells what it should: Read, Sync, what is asked, Image, Copy. -/
namespace Go.Proofs.YtonokaelbpfjnaaGreatDoor
open Go.RowKit Ap
attribute [local go_sem ↓] Go.wp_at_zero Go.wp_at_succ

/-- What a call of one comes to. -/
def Told (w0 w w' : World) (n size : Nat) (p : Pr2) (e : Ending) : Prop := e = .returned (.bool true) ∧ ∃ p', Went w0 w w' n size p p' ∧ Same n size p' ∧ p'.W.length ≤ p.W.length + 1
theorem Told.still {w0 w w' : World} {n size : Nat} {p : Pr2} (h : Pair w0 w n size p) (hg : w.grownBy w' none) : Told w0 w w' n size p (.returned (.bool true)) := ⟨rfl, p, (Went.refl h.z).new hg, h.same, by omega⟩
section
variable {w0 w : World} {n size : Nat} {p : Pr2} {d r : Nat}
end
end Go.Proofs.YtonokaelbpfjnaaGreatDoor
/- A call of a disk that is there tells what it should: Crash. -/
namespace Go.Proofs.YtonokaelbpfjnaaGreatDoor
open Go.RowKit Ap
attribute [local go_sem ↓] Go.wp_at_zero Go.wp_at_succ

theorem FatesAt.front {w : World} {fo : Option Addr} {F G : List (Int × Int)} (h : FatesAt w fo (F ++ G)) : FatesAt w fo F := by
  intro j p hj
  refine h j p ?_
  rw [List.getElem?_append_left (List.getElem?_eq_some_iff.1 hj).1]
  exact hj
theorem cell_kept {w w' : World} {T : Nat → Prop} {a : Addr} {v : Value} (hk : Kept w w' T) (hc : w.cell? a = some v) (hT : ¬ T a.block) : w'.cell? a = some v := by
  have hb : w'.heap[a.block]? = w.heap[a.block]? := hk.block a.block (cell_lt hc) hT
  rw [← hc]; simp [World.cell?, hb]
section
variable {w0 w : World} {n size : Nat} {p : Pr2} {d r : Nat}
end
end Go.Proofs.YtonokaelbpfjnaaGreatDoor
/- Rows of bytes that came in, opened. -/
namespace Go.Proofs.YtonokaelbpfjnaaGreatDoor
open Go.ChangeShapes Go.WideShapes Go.ChangeAt Go.RowKit Go.Deep Ap

/-- Rows that came in. -/
def RowsIn (w : World) (ro : Option Addr) (R : List (List Nat)) : Prop := ∀ j xs, R[j]? = some xs → ∃ b o ao cap, ro = some ⟨b, o, none⟩ ∧ w.cell? ⟨b, o + j, none⟩ = some (.slice ao xs.length cap) ∧ At w ao xs ∧ (ao = none → xs.length = 0 ∧ cap = 0) ∧ xs.length ≤ 140737488355000
theorem RowsIn.at_ {w : World} {ro : Option Addr} {R : List (List Nat)} (h : RowsIn w ro R) : RowsAt w ro R := by
  intro j xs hj
  obtain ⟨b, o, ao, cap, h1, h2, h3, h4, h5⟩ := h j xs hj
  exact ⟨b, o, ao, cap, h1, h2, h3, by omega⟩
theorem RowsIn.grown {w w' : World} {ro : Option Addr} {R : List (List Nat)} (h : RowsIn w ro R) (hg : w.grownBy w' none) : RowsIn w' ro R := by
  intro j xs hj
  obtain ⟨b, o, ao, cap, h1, h2, h3, h4⟩ := h j xs hj
  exact ⟨b, o, ao, cap, h1, hg.cell h2 (by simp), h3.grown hg, h4⟩

theorem Tryz.cells5 : Tryz.prog.cellsOf 5 = 1 := by kernel_rfl
theorem Tryz.cells46 : Tryz.prog.cellsOf 36 = 1 := by kernel_rfl
theorem Tryz.bytes46 : Tryz.prog.bytesOf 36 = 24 := by kernel_rfl
theorem Tryz.bytes5 : Tryz.prog.bytesOf 5 = 1 := by kernel_rfl
section
variable {H : Type} {enc : TypeId × Value → H}
theorem addr_flat {w : World} {a : Addr} {ao : Option Addr} {n c : Nat} (h : w.cell? a = some (.slice ao n c)) : a = ⟨a.block, a.off, none⟩ := by
  have h2 : a.spot = none := by
    unfold World.cell? at h
    split at h
    · split at h
      · cases h
      · rename_i hs; simpa using hs
    · cases h
  cases a; simp_all
theorem open_bytes {w : World} {base fuel : Nat} {spare : Nat → Bool} {held : Bool} {cs : List Value} {x : DataW H × List MemPlace} (h : DataW.trod enc Tryz.prog w base spare held fuel 36 cs = some x) (hw : ∀ n ∈ x.1.weights Tryz.prog 36, n ≤ reachBytes) :
    ∃ bo cap b, cs = [.slice bo b.length cap] ∧ At w bo b ∧ (bo = none → b.length = 0 ∧ cap = 0) ∧ b.length ≤ 140737488355000 := by
  rcases open_ints Tryz.underlying36 Tryz.underlying5 Tryz.cells5 h with ⟨rfl, rfl⟩ | ⟨a, len, cap, zs, rfl, _, hl, hm, hz, rfl, hcell, hwf⟩
  · exact ⟨none, 0, [], rfl, At.nil _ _, fun _ => ⟨rfl, rfl⟩, by simp⟩
  · have hzl : len ≤ zs.length := by rw [hz]; split <;> omega
    have hl2 : ((zs.take len).map Int.toNat).length = len := by simp; omega
    have hsz : len ≤ reachBytes := by
      have := hw (((lits .u8 (zs.take len)).length + (lits .u8 (zs.drop len)).length) * Tryz.prog.bytesOf 5) (by simp only [DataW.weights, Tryz.underlying36]; exact List.mem_cons_self)
      rw [Tryz.bytes5] at this
      simp [lits] at this
      omega
    refine ⟨some a, cap, (zs.take len).map Int.toNat, by rw [hl2], ?_, fun e => (by cases e), by rw [hl2]; unfold reachBytes at hsz; omega⟩
    intro j u hu
    refine ⟨a, rfl, ?_⟩
    rw [List.getElem?_map, List.getElem?_take] at hu
    split at hu
    · obtain ⟨z, hz1, rfl⟩ := Option.map_eq_some_iff.1 hu
      obtain ⟨hj, he⟩ := List.getElem?_eq_some_iff.1 hz1
      rw [hcell j hj]
      have := bounds_u8 (hwf z (List.mem_of_getElem? hz1))
      simp [hj, he]
      omega
    · simp at hu
theorem open_rows {w : World} {base fuel : Nat} {spare : Nat → Bool} {held : Bool} {cs : List Value} {x : DataW H × List MemPlace} (h : DataW.trod enc Tryz.prog w base spare held fuel 91 cs = some x) (hz : ∀ n ∈ x.1.weights Tryz.prog 91, n ≤ reachBytes) :
    ∃ ao cap R, cs = [.slice ao R.length cap] ∧ RowsIn w ao R ∧ R.length ≤ 140737488355328 := by
  rcases open_slice Tryz.underlying91 h with ⟨rfl, rfl⟩ | ⟨a, len, cap, m, n, D, Pl, rfl, hb, hl, hm, hmm, rfl, hx⟩
  · exact ⟨none, 0, [], rfl, fun j p hj => by simp at hj, by simp⟩
  · have hlm : len ≤ m := by rw [hmm]; split <;> omega
    have hw : ∀ i, i < len → ∀ n ∈ (D i).weights Tryz.prog 36, n ≤ reachBytes := fun i hi n hn => hz n (by
      simp only [DataW.weights, Tryz.underlying91]
      exact List.mem_cons_of_mem _ (List.mem_append_left _ (weights_all_mem (d := D i) (List.mem_map.2 ⟨i, by simpa using hi, rfl⟩) n hn)))
    have hsz : len * 24 ≤ reachBytes := by
      have := hz ((((List.range len).map D).length + ((List.range (m - len)).map fun j => D (len + j)).length) * Tryz.prog.bytesOf 36) (by simp [DataW.weights, Tryz.underlying91])
      rw [Tryz.bytes46] at this
      simp at this
      omega
    have hex : ∀ i, i < len → ∃ xs : List Nat, ∃ b o ao cap, some a = some (⟨b, o, none⟩ : Addr) ∧ w.cell? ⟨b, o + i, none⟩ = some (.slice ao xs.length cap) ∧ At w ao xs ∧ (ao = none → xs.length = 0 ∧ cap = 0) ∧ xs.length ≤ 140737488355000 := by
      intro i hi
      rw [Tryz.cells46] at hx
      have key : ∀ i, i < len → ∃ xs : List Nat, ∃ ao cap, w.cell? (a.add (i * 1)) = some (.slice ao xs.length cap) ∧ At w ao xs ∧ (ao = none → xs.length = 0 ∧ cap = 0) ∧ xs.length ≤ 140737488355000 := by
        intro i hi
        obtain ⟨cs', hc, ht⟩ := hx i (by omega)
        obtain ⟨_, hlen, hcell⟩ := World.cells?_some hc
        obtain ⟨bo, cap, b, rfl, h1, h2, h3⟩ := open_bytes ht (hw i hi)
        exact ⟨b, bo, cap, by have := hcell 0 (by omega); simpa [Addr.add] using this, h1, h2, h3⟩
      obtain ⟨_, _, _, k0, _⟩ := key 0 (by omega)
      have ha : a = ⟨a.block, a.off, none⟩ := addr_flat (by simpa [Addr.add] using k0)
      obtain ⟨xs, ao, cap, k1, k2⟩ := key i hi
      refine ⟨xs, a.block, a.off, ao, cap, by rw [← ha], ?_, k2⟩
      rw [ha, Addr.add_lit, Nat.mul_one] at k1; exact k1
    obtain ⟨R, hF1, hF2⟩ : ∃ R : List (List Nat), R.length = len ∧ RowsIn w (some a) R := by
      clear hsz hx hz h hlm hmm hl hw
      induction len with
      | zero => exact ⟨[], rfl, fun j p hj => by simp at hj⟩
      | succ k ih =>
        obtain ⟨F, f1, f2⟩ := ih (fun i hi => hex i (by omega))
        obtain ⟨p, g1⟩ := hex k (by omega)
        refine ⟨F ++ [p], by simp [f1], ?_⟩
        intro j q hj
        by_cases hjk : j < F.length
        · rw [List.getElem?_append_left hjk] at hj; exact f2 j q hj
        · have hlt := (List.getElem?_eq_some_iff.1 hj).1
          have hjk2 : j = k := by simp at hlt; omega
          subst hjk2
          rw [List.getElem?_append_right (by omega), f1, Nat.sub_self] at hj
          simp at hj
          subst hj
          exact g1
    exact ⟨some a, cap, R, by rw [hF1], hF2, by rw [hF1]; unfold reachBytes at hsz; omega⟩
end
end Go.Proofs.YtonokaelbpfjnaaGreatDoor
/- The document's disk is made. -/
namespace Go.Proofs.YtonokaelbpfjnaaGreatDoor
open Go.RowKit Ap
attribute [local go_sem ↓] Go.wp_at_zero Go.wp_at_succ

/-- A row more onto a row of rows: the run, as an equation. -/
theorem run_row {w1 : World} {lo : Nat} {vo : Option Addr} {j vcap : Nat} {xs : List Value} (ho : w1.ownsRow lo 36 1 (.slice vo j vcap) j xs) (hlo : lo ≤ w1.heap.size) (u : Value) (hu : u.oneCell' = true) (hj : j ≤ 65536) :
    ∃ g cap w2, (∀ ty, (Builtin.append_ #[91, 91] ty #[.slice vo j vcap, .slice (some ⟨w1.heap.size, 0, none⟩) 1 1]).run Tryz.prog (w1.alloc (.cells #[u] 36)) = .ok (.slice (some ⟨g, 0, none⟩) (j + 1) cap) w2) ∧ w2.ownsRow lo 36 1 (.slice (some ⟨g, 0, none⟩) (j + 1) cap) (j + 1) (xs ++ [u]) ∧ (w1.alloc (.cells #[u] 36)).grownBy w2 (Value.ownBlock (.slice vo j vcap)) := by
  obtain ⟨i46, hi, hz0, hz1, hz2⟩ := info_parts Tryz.info36
  obtain ⟨v', w2, h1, h2, h3, h4, h5⟩ := run_append_own_at (P := Tryz.prog) (w1.alloc (.cells #[u] 36)) lo 91 91 36 i46 (.slice none 0 0) 1 24 Tryz.underlying91 hi hz0 hz1 hz2 rfl (by decide) (.slice vo j vcap) j xs (ho.alloc _) ⟨w1.heap.size, 0, none⟩ 1 1 [u] rfl cell_1 (fun x hx => by simp at hx; subst hx; exact hu) (by unfold maxLen; omega) (by omega) (Nat.le_trans hlo (World.grownBy_alloc w1 _ none).size)
  obtain ⟨g, cap, rfl⟩ : ∃ g cap, v' = .slice (some ⟨g, 0, none⟩) (j + 1) cap := by
    rcases h2.2 with ⟨_, h0⟩ | ⟨g', cap', _, e, _⟩
    · cases h0
    · exact ⟨g', cap', e⟩
  exact ⟨g, cap, w2, fun ty => h1, h2, h3⟩
/-- The disk's block and its row, behind one row more. -/
theorem push_row {wr w1 w2 : World} {lo rb : Nat} {v v' vw : Value} {S : List Bx} {b : Bx} (hb : wr.heap[rb]? = some (.cells #[v, vw] 144 (0, 0))) (hR : RowAt wr lo v S) (g1 : wr.grownBy w1 none) (b1 : BxAt w1 wr.heap.size b) (hlo : lo ≤ wr.heap.size)
    (o2 : w2.ownsRow lo 36 1 v' (S.length + 1) (S.map Bx.v ++ [b.v])) (g2 : w1.grownBy w2 v.ownBlock) :
    (w2.setCell ⟨rb, 0, none⟩ v').heap[rb]? = some (.cells #[v', vw] 144 (0, 0)) ∧ RowAt (w2.setCell ⟨rb, 0, none⟩ v') lo v' (S ++ [b]) ∧ Kept wr (w2.setCell ⟨rb, 0, none⟩ v') (fun i => i = rb ∨ v.ownBlock = some i) := by
  have hvn : v.ownBlock ≠ some rb := by
    intro e
    obtain ⟨_, c1, q1⟩ := own_block hR.row rb e
    rw [hb] at q1
    simp at q1
  have hb1 := (g1.block rb (row_lt hb) (by simp)).trans hb
  have hb2 := (g2.block rb (row_lt hb1) (fun e => hvn e.symm)).trans hb1
  have hR2 := hR.snoc g1 b1 hlo g2 o2
  have gs := grown_setCell w2 rb 0 v'
  have ks : Kept w2 (w2.setCell ⟨rb, 0, none⟩ v') (fun i => i = rb) := Kept.of gs (fun j e _ => (Option.some.inj e).symm)
  refine ⟨?_, hR2.off ks ?_ ?_, ?_⟩
  · have := heap_setCell_same w2 rb 0 #[v, vw] 144 v' hb2
    simpa using this
  · intro g e e2
    subst e2
    obtain ⟨_, c1, q1⟩ := own_block hR2.row g e
    rw [hb2] at q1
    simp at q1
  · intro x hx e
    obtain ⟨_, c1, q1⟩ := (hR2.at_ x hx).blk
    rw [e, hb2] at q1
    simp at q1
  · have k2 : Kept w1 w2 (fun i => i = rb ∨ v.ownBlock = some i) := Kept.of g2 (fun j e _ => Or.inr e)
    exact ((Kept.new g1 _).trans k2 (fun _ _ e => e)).trans (ks.mono (fun i _ e => Or.inl e)) (fun _ _ e => e)

section
variable {w : World} {ro : Option Addr} {cap n : Nat} {R : List (List Nat)}
end
end Go.Proofs.YtonokaelbpfjnaaGreatDoor
/- The document's Of. -/
namespace Go.Proofs.YtonokaelbpfjnaaGreatDoor
open Go.RowKit Ap
attribute [local go_sem ↓] Go.wp_at_zero Go.wp_at_succ

/-- What Of has made of rows whose first one has sz bytes. -/
def RofAt (w w' : World) (R : List (List Nat)) (sz rb : Nat) (c : Int) : Prop :=
  w.heap.size ≤ rb ∧ w.grownBy w' none ∧ ((c = 0 ∧ (∀ y ∈ R, y.length = sz) ∧ ∃ v S, w'.heap[rb]? = some (.cells #[v, .slice none 0 0] 144 (0, 0)) ∧ RowAt w' w.heap.size v S ∧ S.map Bx.xs = R) ∨ (c = 2 ∧ (∃ y ∈ R, y.length ≠ sz) ∧ Empty w' rb))

theorem push_pre {wr w1 w2 : World} {lo rb : Nat} {v vw u : Value} {S : List Bx} (hb : wr.heap[rb]? = some (.cells #[v, vw] 144 (0, 0))) (hR : RowAt wr lo v S) (g1 : wr.grownBy w1 none) (g2 : (w1.alloc (.cells #[u] 36)).grownBy w2 v.ownBlock) :
    w1.cell? ⟨rb, 0, none⟩ = some v ∧ (w1.alloc (.cells #[u] 36)).cell? ⟨rb, 0, none⟩ = some v ∧ w2.cell? ⟨rb, 0, none⟩ = some v ∧ w2.frozen? ⟨rb, 0, none⟩ = false := by
  have hvn : v.ownBlock ≠ some rb := by
    intro e
    obtain ⟨_, c1, q1⟩ := own_block hR.row rb e
    rw [hb] at q1
    simp at q1
  have h1 := (g1.block rb (row_lt hb) (by simp)).trans hb
  have h2 := ((World.grownBy_alloc w1 (.cells #[u] 36) none).block rb (row_lt h1) (by simp)).trans h1
  have h3 := (g2.block rb (row_lt h2) (fun e => hvn e.symm)).trans h2
  exact ⟨cell_row (l := [v, vw]) h1 0, cell_row (l := [v, vw]) h2 0, cell_row (l := [v, vw]) h3 0, free_row h3 0⟩
/-- append, as one step of a region that draws, by its run. -/
theorem step_append_run {P : Program} {ops : Array Oper} {o : Oper} {a : Act} {w : World} {K : Act → World → Prop} {Q : Exit → Act → World → Prop} {E : Prop} (hg : o.guard = none) (s x : Operand) (t : TypeId) (hop : o.op = Op.call { callee := Callee.builtin Builtin.append, args := #[s, x], argTypes := #[t, t] })
    (v u : Value) (hs : a.eval s = v) (hx : a.eval x = u) {v' : Value} {w' : World} (hrun : ∀ ty, (Builtin.append_ #[t, t] ty #[v, u]).run P w = .ok v' w') (hK : K (a.put o.dst v') w') :
    if Region.wanted o (yielded ops a.tmps) = true then Oper.wp P o a w K Q else E := by
  have hw : Region.wanted o (yielded ops a.tmps) = true := by simp [Region.wanted, hg]
  rw [if_pos hw]
  have hr := hrun o.type
  unfold Oper.wp
  simp [execOp, hop, resolve, invoke, builtin, hs, hx, hr, Result.andThen]
  exact hK
/-- A row's twin, and what an append of it comes to. -/
theorem twin_push {wq : World} {lo rb j vcap sz cap : Nat} {vo ao : Option Addr} {vw : Value} {S : List Bx} {y : List Nat} (hb : wq.heap[rb]? = some (.cells #[.slice vo j vcap, vw] 144 (0, 0))) (hR : RowAt wq lo (.slice vo j vcap) S) (hS : S.length = j) (hat : At wq ao y) (hl : y.length = sz) (hs0 : 0 < sz) (hnil : ao = none → sz = 0 ∧ cap = 0) (hs1 : sz ≤ 140737488355328) (hlo : lo ≤ wq.heap.size) (hj : j ≤ 65536) :
    Calls Tryz.prog 133 #[.slice ao sz cap] wq.drew fun e w1 => ∃ gt ct g cap2 w2, e = .returned (.slice (some ⟨gt, 0, none⟩) sz ct) ∧ (∀ ty, (Builtin.append_ #[91, 91] ty #[.slice vo j vcap, .slice (some ⟨w1.heap.size, 0, none⟩) 1 1]).run Tryz.prog (w1.alloc (.cells #[.slice (some ⟨gt, 0, none⟩) sz ct] 36)) = .ok (.slice (some ⟨g, 0, none⟩) (j + 1) cap2) w2) ∧
      w1.cell? ⟨rb, 0, none⟩ = some (.slice vo j vcap) ∧ (w1.alloc (.cells #[.slice (some ⟨gt, 0, none⟩) sz ct] 36)).cell? ⟨rb, 0, none⟩ = some (.slice vo j vcap) ∧ w2.cell? ⟨rb, 0, none⟩ = some (.slice vo j vcap) ∧ w2.frozen? ⟨rb, 0, none⟩ = false ∧
      Hid ((w2.setCell ⟨rb, 0, none⟩ (.slice (some ⟨g, 0, none⟩) (j + 1) cap2)).heap[rb]? = some (.cells #[.slice (some ⟨g, 0, none⟩) (j + 1) cap2, vw] 144 (0, 0)) ∧ RowAt (w2.setCell ⟨rb, 0, none⟩ (.slice (some ⟨g, 0, none⟩) (j + 1) cap2)) lo (.slice (some ⟨g, 0, none⟩) (j + 1) cap2) (S ++ [⟨gt, ct, y⟩]) ∧ Kept wq (w2.setCell ⟨rb, 0, none⟩ (.slice (some ⟨g, 0, none⟩) (j + 1) cap2)) (fun i => i = rb ∨ (Value.slice vo j vcap).ownBlock = some i)) := by
  refine (twin_any ao sz cap y wq.drew hat hl hs0 hnil hs1).mono ?_
  rintro e w1 ⟨gt, ct, rfl, o1, g1⟩
  have g1' := grown_trans (grown_drew wq none) g1
  have hro := (hR.grown g1').row
  rw [hS] at hro
  obtain ⟨g, cap2, w2, hrun, o2, g2⟩ := run_row hro (Nat.le_trans hlo g1'.size) (.slice (some ⟨gt, 0, none⟩) sz ct) rfl hj
  obtain ⟨c1, c2, c3, c4⟩ := push_pre hb hR g1' g2
  have gz := World.grownBy_alloc w1 (.cells #[.slice (some ⟨gt, 0, none⟩) sz ct] 36) none
  exact ⟨gt, ct, g, cap2, w2, rfl, hrun, c1, c2, c3, c4, hide (push_row hb hR (grown_trans g1' gz) (BxAt.grown o1 gz) hlo (by rw [hS, ← hl] at *; exact o2) g2)⟩
end Go.Proofs.YtonokaelbpfjnaaGreatDoor
