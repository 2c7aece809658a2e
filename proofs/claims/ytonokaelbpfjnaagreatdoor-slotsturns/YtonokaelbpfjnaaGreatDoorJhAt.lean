/- Texts joined: Sl8, FHd3. -/
import Derived.Test.YtonokaelbpfjnaaGreatDoorJhAs
import Derived.Test.YtonokaelbpfjnaaGreatDoorJhAr
/- The body, then the header's sector. -/
namespace Go.Proofs.YtonokaelbpfjnaaGreatDoor
open Go.RowKit Ap
attribute [local go_sem ↓] Go.wp_at_zero Go.wp_at_succ
theorem bv_nats {ys : List Int} (h : Fm.Byt ys) : ys.map (Value.int .u8) = bv (Fm.nats ys) := by
  unfold bv Fm.nats
  rw [List.map_map]
  apply List.map_congr_left
  intro x hx
  have := h x hx
  show Value.int .u8 x = Value.int .u8 ((x.toNat : Nat) : Int)
  rw [show ((x.toNat : Nat) : Int) = x by omega]
/-- The sector of a header. -/
def sect (size : Nat) (hd : Fm.Hd) : List Nat := splice (zs size) 0 (Fm.nats hd.out)
theorem sect_length (size : Nat) (hd : Fm.Hd) (h : 32 ≤ size) : (sect size hd).length = size := by
  unfold sect
  rw [length_splice _ _ _ (by rw [Fm.nats_length, hd.out_length]; simp [zs]; omega)]
  simp [zs]
/-- What a body and its header come to. -/
def puA (size F : Nat) (hd : Fm.Hd) (xs : List Nat) (s : Dv) (D : List Nat) (A : List Pr) : Int × Dv × List Nat × List Pr :=
  if (stA size F size xs s D A).1 = 0 then stA size F 0 (sect size hd) (stA size F size xs s D A).2.1 (stA size F size xs s D A).2.2.1 (stA size F size xs s D A).2.2.2 else stA size F size xs s D A
theorem stA_ok {size F a : Nat} {xs : List Nat} {s : Dv} {D : List Nat} {A : List Pr} (h : (stA size F a xs s D A).1 = 0) : (stA size F a xs s D A).2.2.2 = [] ∧ (stA size F a xs s D A).2.1.cnt ≤ s.cnt + 2 * pcn size a xs.length + 1 := by
  have h1 := wgo_cnt (full size a xs.length) (pcn size a xs.length) 0 s
  have h2 := (wgo (full size a xs.length) (pcn size a xs.length) 0 s).2.2.next_le
  unfold stA at h ⊢
  simp only at h ⊢
  split at h
  · rename_i h3
    rw [if_pos h3]
    split at h
    · rename_i h4
      rw [if_pos h4]
      exact ⟨rfl, by simp only; omega⟩
    · simp at h
  · rename_i h3
    exact absurd h h3
section
variable {w0 w w' w2 : World} {n size b r F C : Nat} {s s' : Dv} {k k' : Dk} {D D' : List Nat} {W W' : List Wt}
set_option maxRecDepth 20000 in
set_option maxHeartbeats 16000000 in
theorem put_at (h : Dev w0 w n size b s k D W) (hr : RgAt w r b F C) (hFC : F + C ≤ n) (hd : Fm.Hd) (hok : hd.Ok) (hmay : hd.May) (cap m : Nat) (ao : Option Addr) (xs : List Nat) (hm : xs.length = m) (hat : At w ao xs) (hcap : m ≤ cap) (hC : 1 ≤ C) (hfit : size + m ≤ C * size) (hoff : ∀ a, ao = some a → a.block < w.heap.size ∧ (0 < m → ¬ k.own a.block ∧ a.block ≠ b))
    (hs32 : 32 ≤ size) (hs : size ≤ 4096) (hW : W.length ≤ 100000) (hcnt : s.cnt ≤ 10000) (hp : pcn size size m ≤ 1000) (hp0 : pcn size 0 size ≤ 1000) (hT : Fm.Cr.Tab w0) (hw : 0 < w.heap.size) :
    Calls Tryz.prog 81 #[.agg #[rp r], Fm.hdV hd, .slice ao m cap] w fun e w' => e = .returned (.int .i64 (puA size F hd xs s D (abs W)).1) ∧ ∃ k' W', StP w0 w w' n size b k W (puA size F hd xs s D (abs W)) k' W' := by
  generalize hR2 : puA size F hd xs s D (abs W) = R2
  have HR2 := hide hR2
  clear hR2
  unfold rp Fm.hdV
  have g1 := World.grownBy_alloc w (.cells #[.pointer (some ⟨r, 0, none⟩)] 120) none
  have b1 : (w.alloc (.cells #[.pointer (some ⟨r, 0, none⟩)] 120)).heap[w.heap.size]? = some (.cells [Value.pointer (some ⟨r, 0, none⟩)].toArray 120 (0, 0)) := heap_alloc_new w _
  generalize hw1 : w.alloc (.cells #[.pointer (some ⟨r, 0, none⟩)] 120) = w1 at *
  have hz1 : w1.heap.size = w.heap.size + 1 := by rw [← hw1, World.size_alloc]
  have g2 := World.grownBy_alloc w1 (.cells #[.int .u64 hd.g, .int .u64 hd.c, .int .i64 hd.n, .int .u32 hd.s] 35) none
  have b2 : (w1.alloc (.cells #[.int .u64 hd.g, .int .u64 hd.c, .int .i64 hd.n, .int .u32 hd.s] 35)).heap[w1.heap.size]? = some (.cells (Fm.hdC hd).toArray 35 (0, 0)) := heap_alloc_new w1 _
  rw [hz1] at b2
  have b1' := (g2.block _ (row_lt b1) (by simp)).trans b1
  generalize hw2 : w1.alloc (.cells #[.int .u64 hd.g, .int .u64 hd.c, .int .i64 hd.n, .int .u32 hd.s] 35) = w2 at *
  have hG := grown_trans g1 g2
  have HW := hide (And.intro hw1 hw2)
  have cX : w2.cell? ⟨w.heap.size, 0, none⟩ = some (.pointer (some ⟨r, 0, none⟩)) := cell_row b1' 0
  obtain ⟨c0, c1, c2, c3⟩ := Fm.box4 b2
  have hhd := Fm.header_any hd hok hmay w2 (hT.grown (h.then hG).disk.grown) (Nat.lt_of_lt_of_le hw hG.size)
  unfold Fm.hdV at hhd
  rw [← hw2, ← hw1] at c0 c1 c2 c3
  have HB := hide (And.intro hG (And.intro cX hhd))
  clear hw2 hw1 b1 b2 b1' hz1 g1 g2 hG cX hhd
  have HI := hide (And.intro h (And.intro hr (And.intro hat (And.intro hoff (And.intro hT hm)))))
  clear h hr hat hoff hT
  go_enter Tryz.func81, Tryz.ntmps81
  go_wp2_with fail
  rw [HW.out.1, HW.out.2]
  refine HB.out.2.2.mono ?_
  clear c0 c1 c2 c3 HW
  rintro e w3 ⟨gh, rfl, hgh, hbh, g3⟩
  have cX3 := g3.cell HB.out.2.1 (by simp)
  have H3 := hide (And.intro (grown_trans HB.out.1 g3) (And.intro hbh hgh))
  clear hbh hgh g3
  have hsz := gSize_at (HI.out.1.then H3.out.1) (HI.out.2.1.grown H3.out.1)
  go_wp2_with fail
  refine hsz.mono ?_
  clear hsz
  rintro e wx ⟨rfl, hwx⟩
  obtain rfl := hwx.symm
  have hmk := make_bytes size (by omega) w3
  have hout : w3.heap[gh]? = some (.cells (bv (Fm.nats hd.out)).toArray 5 (0, 0)) := by rw [← bv_nats hd.out_byt]; exact H3.out.2.1
  have ga := World.grownBy_alloc w3 (.cells (bv (zs size)).toArray 5) none
  obtain ⟨w5, hrun, hW5, hg5⟩ := run_copy_any (w3.alloc (.cells (bv (zs size)).toArray 5)) w3.heap.size 0 size size (some ⟨gh, 0, none⟩) 32 32 (zs size) (Fm.nats hd.out) (heap_alloc_new w3 _) (by rw [Fm.nats_length, hd.out_length]; exact (Nat.min_eq_left hs32).symm) (by rw [Fm.nats_length, hd.out_length]; simp [zs]; omega) ((at_row hout).grown ga)
  have g35 : w3.grownBy w5 none := grown_then ga hg5 (fun j e => by cases e; exact Or.inl (Nat.le_refl _))
  have cX5 := g35.cell cX3 (by simp)
  rw [Fm.nats_length, hd.out_length] at hrun
  have hlt5 := row_lt hW5
  have H5 := hide (And.intro (grown_trans H3.out.1 g35) (And.intro hW5 hlt5))
  clear hW5 hg5 g35 hout ga cX3
  have hnX := new_off HI.out.1 (Nat.le_refl w.heap.size)
  have hnY := new_off HI.out.1 (X := w3.heap.size) H3.out.1.size
  have HN := hide (And.intro hnX hnY)
  clear hnX hnY
  have HSz := hide (gSize_at ((HI.out.1.then H5.out.1).then (grown_drew w5 none)) ((HI.out.2.1.grown H5.out.1).grown (grown_drew w5 none)))
  have HSt : Hid (∀ w6 : World, w5.grownBy w6 none → Calls Tryz.prog 120 #[.agg #[.pointer (some ⟨r, 0, none⟩)], .int .i64 (size : Int), .slice ao m cap] w6 fun e w' => e = .returned (.int .i64 (stA size F size xs s D (abs W)).1) ∧ ∃ k' W', StP w0 w6 w' n size b k W (stA size F size xs s D (abs W)) k' W') := by
    intro w6 hg
    exact settle_at ((HI.out.1.then H5.out.1).then hg) ((HI.out.2.1.grown H5.out.1).grown hg) hFC size cap m ao xs HI.out.2.2.2.2.2 ((HI.out.2.2.1.grown H5.out.1).grown hg) hcap hfit (fun a e hl => (HI.out.2.2.2.1 a e).2 hl) (by omega) (by omega)
  have HS2 : Hid (∀ (w6 : World) (k' : Dk) (W' : List Wt), StP w0 w w6 n size b k W (stA size F size xs s D (abs W)) k' W' → (stA size F size xs s D (abs W)).1 = 0 → w6.heap[w3.heap.size]? = some (.cells (bv (sect size hd)).toArray 5 (0, 0)) → ¬ (k'.own w3.heap.size ∨ w3.heap.size = b) →
      Calls Tryz.prog 120 #[.agg #[.pointer (some ⟨r, 0, none⟩)], .int .i64 0, .slice (some ⟨w3.heap.size, 0, none⟩) size size] w6 fun e w' => e = .returned (.int .i64 R2.1) ∧ ∃ k' W', StP w0 w w' n size b k W R2 k' W') := by
    intro w6 k6 W6 p hz hb hny
    have hso := stA_ok hz
    have hA := p.abs
    rw [hso.1] at hA
    have hl6 : W6.length = 0 := by have := congrArg List.length hA; rw [abs_length] at this; simpa using this
    have hcn := hso.2
    rw [HI.out.2.2.2.2.2] at hcn
    have q := settle_at p.dev (HI.out.2.1.dv HI.out.1 p.mov) hFC 0 size size (some ⟨w3.heap.size, 0, none⟩) (sect size hd) (sect_length size hd hs32) (at_row hb) (Nat.le_refl _) (by rw [Nat.zero_add]; exact Nat.le_mul_of_pos_left _ hC) (fun a e _ => by cases e; exact ⟨fun e => hny (.inl e), fun e => hny (.inr e)⟩) (by omega) (by omega)
    rw [p.abs] at q
    have e1 : R2 = stA size F 0 (sect size hd) (stA size F size xs s D (abs W)).2.1 (stA size F size xs s D (abs W)).2.2.1 (stA size F size xs s D (abs W)).2.2.2 := by rw [← HR2.out]; unfold puA; rw [if_pos hz]
    rw [e1]
    refine q.mono ?_
    rintro e w' ⟨rfl, k7, W7, p7⟩
    exact ⟨rfl, k7, W7, p7.dev, p7.abs, p.mov.trans p7.mov (row_lt HI.out.1.dev.head)⟩
  have HNo : Hid ((stA size F size xs s D (abs W)).1 ≠ 0 → R2 = stA size F size xs s D (abs W)) := fun hne => by rw [← HR2.out]; unfold puA; rw [if_neg hne]
  go_wp2_with fail
  clear hrun hmk
  generalize hXX : w.heap.size = X at *
  clear HR2
  generalize stA size F size xs s D (abs W) = R1 at *
  go_region_held3 (fun w6 => w6.cell? ⟨X, 0, none⟩ = some (.pointer (some ⟨r, 0, none⟩))) (first | assumption | exact (grown_drew w5 none).cell cX5 (by simp)) ((first | (go_at_call 94; refine HSz.out.mono ?_; rintro e3 w6 ⟨rfl, hw6⟩; obtain rfl := hw6.symm; have hk3 := (grown_drew w5 none).cell cX5 (by simp)) | (go_at_call 120; refine (HSt.out _ (grown_drew w5 none)).mono ?_; rintro e4 w7 ⟨rfl, k7, W7, p7⟩; have hk4 := cell_kept ((Kept.new (grown_drew w5 none) _).trans p7.mov.kept (fun i _ e => e)) cX5 HN.out.1; have P7 := hide p7; clear p7)))
  have hP : StP w0 w w7 n size b k W R1 k7 W7 := ⟨P7.out.dev, P7.out.abs, DvM.pre (grown_trans H5.out.1 (grown_drew w5 none)) P7.out.mov⟩
  have hsec : w7.heap[w3.heap.size]? = some (.cells (bv (sect size hd)).toArray 5 (0, 0)) := P7.out.mov.kept.at H5.out.2.1 HN.out.2
  have hny : ¬ (k7.own w3.heap.size ∨ w3.heap.size = b) := by
    rintro (e | e)
    · rcases P7.out.mov.own _ e with e | e
      · exact HN.out.2 (.inl e)
      · have := H5.out.2.2
        have h5 : w5.drew.heap.size = w5.heap.size := rfl
        omega
    · exact HN.out.2 (.inr e)
  have HP := hide (And.intro hP (And.intro hsec hny))
  clear hP hsec hny P7 HSt HSz hk3
  by_cases hz : R1.1 = 0
  · have hs2 := HS2.out w7 k7 W7 HP.out.1 hz HP.out.2.1 HP.out.2.2
    have HZ := hide hz
    rw [hz]
    clear hz
    generalize w3.heap.size = Y at *
    go_wp2_with fail
    refine hs2.mono ?_
    rintro e w8 ⟨rfl, hx⟩
    go_wp2
    go_ret
    exact ⟨rfl, hx⟩
  · have hne : (R1.1 != 0) = true := by simpa using hz
    have hno := HNo.out hz
    have HR := hide (And.intro hno HP.out.1)
    clear hno HS2 HNo
    generalize hc1 : R1.1 = c1 at *
    have HC1 := hide hc1
    clear hc1
    go_wp2
    go_ret
    exact ⟨by rw [HR.out.1, HC1.out]; rfl, k7, W7, by rw [HR.out.1]; exact HR.out.2⟩
end
end Go.Proofs.YtonokaelbpfjnaaGreatDoor
/- A header read of its own bytes; Header of what may not be. -/
namespace Go.Proofs.YtonokaelbpfjnaaGreatDoor.Fm
open Go.RowKit
attribute [local go_sem ↓] Go.wp_at_zero Go.wp_at_succ
theorem Hd.parts (h : Hd) : h.out = [71, 65, 78, 71] ++ (leB h.g 8 ++ (leB h.c 8 ++ (leB h.n 4 ++ (leB h.s 4 ++ leB (sumI h.head) 4)))) := by
  simp [Hd.out, Hd.head, List.append_assoc]
theorem Hd.d1 (h : Hd) : h.out.drop 4 = leB h.g 8 ++ (leB h.c 8 ++ (leB h.n 4 ++ (leB h.s 4 ++ leB (sumI h.head) 4))) := by
  rw [h.parts]; exact List.drop_left' rfl
theorem Hd.d2 (h : Hd) : (h.out.drop 4).drop 8 = leB h.c 8 ++ (leB h.n 4 ++ (leB h.s 4 ++ leB (sumI h.head) 4)) := by
  rw [h.d1]; exact List.drop_left' (leB_length _ _)
theorem Hd.d3 (h : Hd) : ((h.out.drop 4).drop 8).drop 8 = leB h.n 4 ++ (leB h.s 4 ++ leB (sumI h.head) 4) := by
  rw [h.d2]; exact List.drop_left' (leB_length _ _)
theorem Hd.d4 (h : Hd) : (((h.out.drop 4).drop 8).drop 8).drop 4 = leB h.s 4 ++ leB (sumI h.head) 4 := by
  rw [h.d3]; exact List.drop_left' (leB_length _ _)
theorem Hd.d5 (h : Hd) : ((((h.out.drop 4).drop 8).drop 8).drop 4).drop 4 = leB (sumI h.head) 4 := by
  rw [h.d4]; exact List.drop_left' (leB_length _ _)
theorem leV_back {N : Int} (h : 0 ≤ N) (k : Nat) (h2 : N < 2 ^ (8 * k)) : leV (leB N k) = N := by
  rw [leV_leB N h k]
  exact Int.emod_eq_of_lt h h2
theorem hdOf_out (h : Hd) (hok : h.Ok) (hm : h.May) : hdOf h.out = h := by
  have e1 : leV ((h.out.drop 4).take 8) = h.g := by rw [h.d1, List.take_left' (leB_length _ _)]; exact leV_back hok.g0 8 (by have := hok.g1; show h.g < 18446744073709551616; omega)
  have e2 : leV (((h.out.drop 4).drop 8).take 8) = h.c := by rw [h.d2, List.take_left' (leB_length _ _)]; exact leV_back hok.c0 8 (by have := hok.c1; show h.c < 18446744073709551616; omega)
  have e3 : leV ((((h.out.drop 4).drop 8).drop 8).take 4) = h.n := by rw [h.d3, List.take_left' (leB_length _ _)]; exact leV_back hm.2.1 4 (by have := hm.2.2; show h.n < 4294967296; omega)
  have e4 : leV (((((h.out.drop 4).drop 8).drop 8).drop 4).take 4) = h.s := by rw [h.d4, List.take_left' (leB_length _ _)]; exact leV_back hok.s0 4 (by have := hok.s1; show h.s < 4294967296; omega)
  unfold hdOf
  rw [e1, e2, e3, e4]
theorem good_out (h : Hd) : HGood h.out := by
  refine ⟨by rw [h.parts]; exact List.take_left' rfl, ?_⟩
  have h1 : h.out.take 28 = h.head := List.take_left' h.head_length
  have hs := sumI_lt h.head_byt
  rw [h.d5, h1, List.take_of_length_le (by rw [leB_length]; omega)]
  exact leV_back hs.1 4 (by have := hs.2; show sumI h.head < 4294967296; omega)
/-- A header is read of its bytes as it is, with anything behind. -/
theorem readH_out (h : Hd) (hok : h.Ok) (hm : h.May) (tail : List Int) : readH (h.out ++ tail) = (h, 0) := by
  have h1 : (h.out ++ tail).take 32 = h.out := List.take_left' h.out_length
  unfold readH
  rw [if_neg (by rw [List.length_append, h.out_length]; omega), h1, if_pos (good_out h), hdOf_out h hok hm, if_pos hm]
theorem readH_short (xs : List Int) (h : xs.length < 32) : readH xs = (zHd, 4) := by unfold readH; rw [if_pos h]
set_option maxRecDepth 20000 in
set_option maxHeartbeats 2000000 in
theorem header_bad (h : Hd) (hm : ¬ h.May) (w : World) :
    Calls Tryz.prog 11 #[hdV h] w fun r w' => r = .returned (.tuple #[.slice none 0 0, .int .i64 2]) ∧ w.grownBy w' none := by
  have hmy := hide (mayBe_any h)
  rw [show decide h.May = false from decide_eq_false hm] at hmy
  clear hm
  unfold hdV at hmy ⊢
  have hb : (w.alloc (.cells #[.int .u64 h.g, .int .u64 h.c, .int .i64 h.n, .int .u32 h.s] 35)).heap[w.heap.size]? = some (.cells (hdC h).toArray 35 (0, 0)) := heap_alloc_new w _
  obtain ⟨c0, c1, c2, c3⟩ := box4 hb
  have HG := hide (World.grownBy_alloc w (.cells #[.int .u64 h.g, .int .u64 h.c, .int .i64 h.n, .int .u32 h.s] 35) none)
  clear hb
  go_enter Tryz.func11, Tryz.ntmps11
  go_wp2_with fail
  generalize (w.alloc (.cells #[.int .u64 h.g, .int .u64 h.c, .int .i64 h.n, .int .u32 h.s] 35)) = w1 at *
  refine (hmy.out w1).mono ?_
  rintro e w2 ⟨rfl, g2⟩
  have G2 := hide (grown_trans HG.out g2)
  clear c0 c1 c2 c3 g2 HG hmy
  go_wp2
  go_ret2
  exact ⟨rfl, G2.out⟩
end Go.Proofs.YtonokaelbpfjnaaGreatDoor.Fm
