/- Texts joined: SlS, SlM, RefN, RefZ, RDev, RDev2. -/
import Derived.Test.YtonokaelbpfjnabGreatDoorJkAm
import Derived.Test.YtonokaelbpfjnabGreatDoorJkAd
import Derived.Deep.RegionHeld3
import Derived.Test.YtonokaelbpfjnabGreatDoorJkAe
/- Save. -/
namespace Go.Proofs.YtonokaelbpfjnabGreatDoor
open Go.RowKit Ap
attribute [local go_sem ↓] Go.wp_at_zero Go.wp_at_succ
section
variable {w0 w w' w2 : World} {n size b sl ra rb Fa Fb C : Nat} {s : Dv} {k : Dk} {D : List Nat} {W : List Wt}
/-- A box that the call made is written: the device stays. -/
theorem StP.box {w3 w9 : World} {X : Nat} {o : Int × Dv × List Nat × List Pr} {k' : Dk} {W' : List Wt} {c : Array Value} {fr : Nat × Nat} (p : StP w0 w w3 n size b k W o k' W') (hb : w3.heap[X]? = some (.cells c 25 fr)) (hX : w.heap.size ≤ X) (hl : w0.heap.size ≤ X) (g : w3.grownBy w9 (some X)) : StP w0 w w9 n size b k W o k' W' := by
  have hf := p.dev.far hb (by decide) (by decide) (by decide) (by decide)
  refine ⟨p.dev.row g ?_ hf.2 hl, p.abs, p.mov.newrow g hX⟩
  rintro (e | ⟨x, hx, e⟩)
  · exact hf.1 e
  · have h3 := (p.dev.disk.disk.waits x hx).2.2.2
    rw [e, hb] at h3
    simp at h3
theorem LdP.st {w' : World} {R : Ld} {v : Value} (p : LdP w0 w w' n size b k D W R v) (c : Int) : StP w0 w w' n size b k W (c, R.s, D, abs W) k W :=
  ⟨p.dev, rfl, rfl, fun _ e => .inl e, fun x hx => .inl ⟨x, hx, rfl⟩, p.kept⟩
theorem At.keptD {w w' : World} {ao : Option Addr} {xs : List Nat} {S : Nat → Prop} (h : At w ao xs) (hk : Kept w w' S) (hS : ∀ a, ao = some a → 0 < xs.length → ¬ S a.block) : At w' ao xs := by
  intro j u hu
  obtain ⟨a, ha, hc⟩ := h j u hu
  exact ⟨a, ha, cell_kept hk hc (by rw [addr_add_block]; exact hS a ha (by have := (List.getElem?_eq_some_iff.1 hu).1; omega))⟩
set_option maxRecDepth 20000 in
set_option maxHeartbeats 16000000 in
theorem save_at (hl : SlAt w sl ra rb) (h : Dev w0 w n size b s k D W) (ha : RgAt w ra b Fa C) (hb : RgAt w rb b Fb C) (hFa : Fa + C ≤ n) (hFb : Fb + C ≤ n) (hC : 1 ≤ C) (hC2 : C ≤ 1000) (hs32 : 32 ≤ size) (hs : size ≤ 4096) (hcnt : s.cnt ≤ 7000) (hW : W.length ≤ 100000) (hT : Fm.Cr.Tab w0) (hB : Bytes (now size D (abs W)))
    (ao : Option Addr) (m cap : Nat) (xs : List Nat) (hm : xs.length = m) (hat : At w ao xs) (hcap : m ≤ cap) (hm3 : m ≤ 281474976710656) (hx : Bytes xs) (hoff : ∀ a, ao = some a → a.block < w.heap.size ∧ (0 < m → ¬ k.own a.block ∧ a.block ≠ b)) (cov : Int) (hc0 : 0 ≤ cov) (hc1 : cov < 18446744073709551616) :
    Calls Tryz.prog 6 #[.pointer (some ⟨sl, 0, none⟩), .slice ao m cap, .int .u64 cov] w fun e w' => e = .returned (.tuple #[Fm.hdV (svA size C Fa Fb cov xs s D (abs W)).h, .int .i64 (svA size C Fa Fb cov xs s D (abs W)).code]) ∧ ∃ k' W', StP w0 w w' n size b k W ((svA size C Fa Fb cov xs s D (abs W)).code, (svA size C Fa Fb cov xs s D (abs W)).o) k' W' := by
  have hld := ldA_hok (C := C) (Fa := Fa) (Fb := Fb) (s := s) hB
  have hlc := ldA_cnt (C := C) (Fa := Fa) (Fb := Fb) (s := s) (D := D) (A := abs W) (show 1 ≤ size by omega)
  generalize hR : svA size C Fa Fb cov xs s D (abs W) = R
  unfold svA at hR
  have g1 := World.grownBy_alloc w (.cells #[.int .u64 0, .int .u64 0, .int .i64 0, .int .u32 0] 25) none
  have bx : (w.alloc (.cells #[.int .u64 0, .int .u64 0, .int .i64 0, .int .u32 0] 25)).heap[w.heap.size]? = some (.cells (Fm.hdC hd0).toArray 25 (0, 0)) := heap_alloc_new w _
  generalize hw1 : w.alloc (.cells #[.int .u64 0, .int .u64 0, .int .i64 0, .int .u32 0] 25) = w1 at *
  have HN := hide (snone_at (hl.grown g1))
  have HBy := hide (sBytes_at (hl.grown g1) (h.then g1) (ha.grown g1) hC (by omega) hs)
  have HLd : Hid (∀ w3 : World, w1.grownBy w3 none → Calls Tryz.prog 10 #[.pointer (some ⟨sl, 0, none⟩)] w3 fun e w' => ∃ v, e = .returned (.tuple #[Fm.hdV (ldA size C Fa Fb s D (abs W)).h, v, .int .i64 (ldA size C Fa Fb s D (abs W)).at_, .int .i64 (ldA size C Fa Fb s D (abs W)).code]) ∧ LdP w0 w3 w' n size b k D W (ldA size C Fa Fb s D (abs W)) v) :=
    fun w3 hg => load_at ((hl.grown g1).grown hg) ((h.then g1).then hg) ((ha.grown g1).grown hg) ((hb.grown g1).grown hg) hFa hFb hC hC2 hs32 hs (by omega) hT hB
  generalize ldA size C Fa Fb s D (abs W) = L at *
  have HI := hide (And.intro hl (And.intro h (And.intro ha (And.intro hb (And.intro hT (And.intro hB (And.intro hat (And.intro hoff (And.intro hx (And.intro hm hm3))))))))))
  have HG := hide (And.intro g1 (And.intro bx (And.intro (new_off h (Nat.le_refl w.heap.size)) h.disk.grown.size)))
  have HR := hide hR
  have HLD := hide (And.intro hld hlc)
  have hXs : w.heap.size < w1.heap.size := row_lt bx
  obtain ⟨X, hX⟩ : ∃ X, w.heap.size = X := ⟨_, rfl⟩
  rw [hX] at HG bx hXs
  have HX := hide hX
  have hlenI : ((C - 1) * size : Nat) < m ↔ (((C - 1) * size : Nat) : Int) < (m : Int) := by omega
  generalize hRm : (C - 1) * size = Rm at *
  have hRm2 : Rm ≤ 999 * 4096 := by rw [← hRm]; exact Nat.mul_le_mul (by omega) hs
  have HRm := hide hRm
  clear hl h ha hb hT hB hat hoff hR g1 hld hlc hRm
  unfold Fm.hdV at *
  go_enter Tryz.func6, Tryz.ntmps6
  go_wp2_with fail
  clear hw1 hX
  refine HN.out.mono ?_
  rintro e wx ⟨rfl, hwx⟩
  obtain rfl := hwx.symm
  clear hwx HN
  go_wp2_with fail
  refine HBy.out.mono ?_
  rintro e w2 ⟨rfl, g2⟩
  have hb2 := (g2.block _ (row_lt bx) (by simp)).trans bx
  have G2 := hide (And.intro g2 hb2)
  clear HBy g2 bx
  by_cases hlong : Rm < m
  · have hRe : R = ⟨3, hd0, s, D, abs W⟩ := by rw [← HR.out, if_pos (by rw [HI.out.2.2.2.2.2.2.2.2.2.1]; exact hlong)]
    subst hRe
    have hl2 : (Rm : Int) < (m : Int) := by omega
    have HBX := hide (And.intro hb2 (And.intro trivial trivial))
    obtain ⟨e0, e1, e2, e3⟩ := Fm.box4 HBX.out.1
    have f0 := free_row HBX.out.1 0
    have f1 := free_row HBX.out.1 1
    have f2 := free_row HBX.out.1 2
    have f3 := free_row HBX.out.1 3
    unfold hd0 at e0 e1 e2 e3
    simp only at e0 e1 e2 e3
    clear hlong hb2 HR
    go_wp2
    obtain ⟨eb, eg⟩ := Fm.set4 HBX.out.1 (.int .u64 0) (.int .u64 0) (.int .i64 0) (.int .u32 0)
    clear e0 e1 e2 e3 f0 f1 f2 f3
    obtain ⟨e0, e1, e2, e3⟩ := Fm.box4 eb
    have EG := hide eg
    clear eb eg
    generalize ((((w2.setCell ⟨X, 0, none⟩ (.int .u64 0)).setCell ⟨X, 1, none⟩ (.int .u64 0)).setCell ⟨X, 2, none⟩ (.int .i64 0)).setCell ⟨X, 3, none⟩ (.int .u32 0)) = w9 at *
    refine bodyPost_ret (v := .tuple #[.agg #[.int .u64 0, .int .u64 0, .int .i64 0, .int .u32 0], .int .i64 3]) ?_ rfl ?_
    · rw [Fm.results_cell_tmp1 rfl]; go_simp
    refine ⟨rfl, k, W, StP.box ⟨(HI.out.2.1.then HG.out.1).then G2.out.1, rfl, DvM.new (DvM.new (DvM.refl _ _ _ _) HG.out.1) G2.out.1⟩ G2.out.2 (by rw [HX.out]; exact Nat.le_refl _) HG.out.2.2.2 EG.out⟩
  · have hl2 : ¬ (Rm : Int) < (m : Int) := by omega
    have hRe := HR.out
    rw [if_neg (by rw [HI.out.2.2.2.2.2.2.2.2.2.1]; exact hlong)] at hRe
    have HRE := hide hRe
    have HLd2 := hide (HLd.out w2 G2.out.1)
    clear HLd HR hb2 hRe hlenI hlong
    go_wp2_with fail
    refine HLd2.out.mono ?_
    rintro e w3 ⟨v, rfl, p3⟩
    have P3 := hide p3
    clear p3 HLd2
    have b4 : (w3.alloc (.cells #[.int .u64 L.h.g, .int .u64 L.h.c, .int .i64 L.h.n, .int .u32 L.h.s] 25)).heap[w3.heap.size]? = some (.cells (Fm.hdC L.h).toArray 25 (0, 0)) := heap_alloc_new w3 _
    have g4 := World.grownBy_alloc w3 (.cells #[.int .u64 L.h.g, .int .u64 L.h.c, .int .i64 L.h.n, .int .u32 L.h.s] 25) none
    generalize hw4 : w3.alloc (.cells #[.int .u64 L.h.g, .int .u64 L.h.c, .int .i64 L.h.n, .int .u32 L.h.s] 25) = w4 at *
    obtain ⟨Y, hY⟩ : ∃ Y, w3.heap.size = Y := ⟨_, rfl⟩
    rw [hY] at b4
    have hXoff : ¬ (k.own X ∨ X = b) := by rw [← HX.out]; exact new_off HI.out.2.1 (Nat.le_refl _)
    have hb3 := P3.out.kept.at G2.out.2 hXoff
    have hb4 := (g4.block _ (row_lt hb3) (by simp)).trans hb3
    have hk4 : Kept w w4 (fun i => k.own i ∨ i = b) := (((Kept.new HG.out.1 _).trans (Kept.new G2.out.1 _) (fun _ _ e => e)).trans P3.out.kept (fun _ _ e => e)).trans (Kept.new g4 _) (fun _ _ e => e)
    have ST : Hid (∀ c : Int, StP w0 w w4 n size b k W (c, L.s, D, abs W) k W) := fun c => ⟨P3.out.dev.then g4, rfl, rfl, fun _ e => .inl e, fun x hx => .inl ⟨x, hx, rfl⟩, hk4⟩
    have HB4 := hide (And.intro hb4 (And.intro b4 (And.intro hk4 (show w.heap.size ≤ Y by rw [← hY]; exact Nat.le_trans HG.out.1.size (Nat.le_trans G2.out.1.size P3.out.kept.size)))))
    obtain ⟨y0, y1, y2, y3⟩ := Fm.box4 b4
    have HBX := hide (And.intro hb4 (And.intro trivial trivial))
    clear hb3 hb4 hk4 b4 g4 hXoff G2
    have hRe := HRE.out
    clear HRE
    by_cases hcode : L.code ≠ 0
    · rw [if_pos hcode] at hRe
      subst hRe
      have hne : (L.code != 0) = true := by simpa using hcode
      obtain ⟨e0, e1, e2, e3⟩ := Fm.box4 HBX.out.1
      have f0 := free_row HBX.out.1 0
      have f1 := free_row HBX.out.1 1
      have f2 := free_row HBX.out.1 2
      have f3 := free_row HBX.out.1 3
      unfold hd0 at e0 e1 e2 e3
      simp only at e0 e1 e2 e3
      go_wp2
      obtain ⟨eb, eg⟩ := Fm.set4 HBX.out.1 (.int .u64 0) (.int .u64 0) (.int .i64 0) (.int .u32 0)
      clear e0 e1 e2 e3 f0 f1 f2 f3
      obtain ⟨e0, e1, e2, e3⟩ := Fm.box4 eb
      have EG := hide eg
      clear eb eg
      generalize ((((w4.setCell ⟨X, 0, none⟩ (.int .u64 0)).setCell ⟨X, 1, none⟩ (.int .u64 0)).setCell ⟨X, 2, none⟩ (.int .i64 0)).setCell ⟨X, 3, none⟩ (.int .u32 0)) = w9 at *
      refine bodyPost_ret (v := .tuple #[.agg #[.int .u64 0, .int .u64 0, .int .i64 0, .int .u32 0], .int .i64 L.code]) ?_ rfl ?_
      · rw [Fm.results_cell_tmp1 rfl]; go_simp
      exact ⟨rfl, k, W, StP.box (ST.out _) HB4.out.1 (by rw [HX.out]; exact Nat.le_refl _) HG.out.2.2.2 EG.out⟩
    · have hcz : L.code = 0 := by simpa using hcode
      rw [if_neg hcode] at hRe
      clear hcode
      rw [hcz]
      clear hcz
      by_cases hfull : L.h.g = 18446744073709551615
      · rw [if_pos hfull] at hRe
        subst hRe
        have hfb : (L.h.g == 18446744073709551615) = true := by simpa using hfull
        clear hfull
        obtain ⟨e0, e1, e2, e3⟩ := Fm.box4 HBX.out.1
        have f0 := free_row HBX.out.1 0
        have f1 := free_row HBX.out.1 1
        have f2 := free_row HBX.out.1 2
        have f3 := free_row HBX.out.1 3
        unfold hd0 at e0 e1 e2 e3
        simp only at e0 e1 e2 e3
        go_wp2
        obtain ⟨eb, eg⟩ := Fm.set4 HBX.out.1 (.int .u64 0) (.int .u64 0) (.int .i64 0) (.int .u32 0)
        clear e0 e1 e2 e3 f0 f1 f2 f3
        obtain ⟨e0, e1, e2, e3⟩ := Fm.box4 eb
        have EG := hide eg
        clear eb eg
        generalize ((((w4.setCell ⟨X, 0, none⟩ (.int .u64 0)).setCell ⟨X, 1, none⟩ (.int .u64 0)).setCell ⟨X, 2, none⟩ (.int .i64 0)).setCell ⟨X, 3, none⟩ (.int .u32 0)) = w9 at *
        refine bodyPost_ret (v := .tuple #[.agg #[.int .u64 0, .int .u64 0, .int .i64 0, .int .u32 0], .int .i64 6]) ?_ rfl ?_
        · rw [Fm.results_cell_tmp1 rfl]; go_simp
        exact ⟨rfl, k, W, StP.box (ST.out _) HB4.out.1 (by rw [HX.out]; exact Nat.le_refl _) HG.out.2.2.2 EG.out⟩
      · rw [if_neg hfull] at hRe
        have hg0 := HLD.out.1.1.g0
        have hg1 := HLD.out.1.1.g1
        have hfb : (L.h.g == 18446744073709551615) = false := by simpa using hfull
        have hwg : IntKind.u64.wrap (L.h.g + 1) = L.h.g + 1 := by rw [IntKind.wrap_u64]; omega
        have HSu : Hid (∀ w5 : World, w4.grownBy w5 none → Calls Tryz.prog 26 #[.slice ao m cap] w5 fun e w' => e = .returned (.int .u32 (sumN xs)) ∧ w' = w5) := by
          intro w5 g5
          obtain ⟨hl, h, ha, hb, hT, hB, hat, hoff, hx, hm, hm3⟩ := HI.out
          exact Fm.Cr.sum_any ao m cap xs w5 hm hx (At.keptD hat (HB4.out.2.2.1.trans (Kept.new g5 _) (fun _ _ e => e)) (fun a e h0 => by have := (hoff a e).2 (by omega); exact fun e => e.elim this.1 this.2)) ((hT.grown (ST.out 0).dev.disk.grown).grown g5) (by omega)
        have HRE := hide hRe
        clear hRe hfull
        go_wp2_with fail
        clear hw4 hY
        go_region_held3 (fun w5 => w5.cell? ⟨Y, 0, none⟩ = some (.int .u64 L.h.g)) (first | assumption | go_keep) ((go_at_call 26; refine (HSu.out _ (by first | exact grown_drew _ none | exact grown_trans (grown_drew _ none) (World.grownBy_alloc _ _ none))).mono ?_; rintro e5 w5 ⟨rfl, hw5⟩; obtain rfl := hw5.symm))
        · clear y0 y1 y2 y3 HSu
          have b5 : (w4.alloc (.cells #[.int .u64 (L.h.g + 1), .int .u64 cov, .int .i64 (m : Int), .int .u32 (sumN xs)] 25)).drew.heap[w4.heap.size]? = some (.cells [Value.int .u64 (L.h.g + 1), .int .u64 cov, .int .i64 (m : Int), .int .u32 (sumN xs)].toArray 25 (0, 0)) := heap_alloc_new w4 _
          have g5 := grown_trans (World.grownBy_alloc w4 (.cells #[.int .u64 (L.h.g + 1), .int .u64 cov, .int .i64 (m : Int), .int .u32 (sumN xs)] 25) none) (grown_drew _ none)
          obtain ⟨V, hV⟩ : ∃ V, w4.heap.size = V := ⟨_, rfl⟩
          rw [hV] at b5
          rw [hV]
          generalize (w4.alloc (.cells #[.int .u64 (L.h.g + 1), .int .u64 cov, .int .i64 (m : Int), .int .u32 (sumN xs)] 25)).drew = w5 at *
          obtain ⟨o, hO, ho2⟩ : ∃ o : Nat, (if L.at_ = 0 then (1 : Int) else 0) = (o : Int) ∧ o < 2 := by
            split
            · exact ⟨1, rfl, by omega⟩
            · exact ⟨0, rfl, by omega⟩
          obtain ⟨r, hr⟩ : ∃ r, r = if o = 0 then ra else rb := ⟨_, rfl⟩
          obtain ⟨F, hF⟩ : ∃ F, F = if L.at_ = 0 then Fb else Fa := ⟨_, rfl⟩
          have HOt := hide (fun w6 => other_any L.at_ w6)
          rw [hO] at HOt
          have hk5 : Kept w w5 (fun i => k.own i ∨ i = b) := HB4.out.2.2.1.trans (Kept.new g5 _) (fun _ _ e => e)
          have hVw : w.heap.size ≤ V := by rw [← hV]; exact HB4.out.2.2.1.size
          obtain ⟨hl, h, ha, hb, hT, hB, hat, hoff, hx', hm', hm3'⟩ := HI.out
          have hVoff : ¬ (k.own V ∨ V = b) := new_off h hVw
          have hXoff : ¬ (k.own X ∨ X = b) := HG.out.2.2.1
          have hrg : RgAt w5 r b F C := by
            by_cases e : L.at_ = 0
            · rw [if_pos e] at hO hF
              have : o = 1 := by omega
              subst this
              rw [if_neg (by omega)] at hr
              rw [hr, hF]
              exact hb.keptD h hk5
            · rw [if_neg e] at hO hF
              have : o = 0 := by omega
              subst this
              rw [if_pos rfl] at hr
              rw [hr, hF]
              exact ha.keptD h hk5
          have hFn : F + C ≤ n := by rw [hF]; split <;> assumption
          have hsl := (hl.keptD h hk5).one ho2
          rw [← hr] at hsl
          have hsloff : ¬ (k.own sl ∨ sl = b) := by
            have := h.far hl.head (by decide) (by decide) (by decide) (by decide)
            rintro (e | e)
            · exact this.1 e
            · exact this.2 e
          obtain ⟨hnO, hnM⟩ := nxH_ok HLD.out.1.1 (by simpa using hfb) hc0 hc1 hx (by omega)
          have hfit : size + m ≤ C * size := by
            have := HRm.out
            obtain ⟨c, rfl⟩ : ∃ c, C = c + 1 := ⟨C - 1, by omega⟩
            rw [Nat.add_mul]; simp at this ⊢; omega
          have hpcn := pcn_body (size := size) (C := C) (m := m) (by omega) (by rw [HRm.out]; omega)
          have hp1 := pcn_one size (by omega)
          have hat5 : At w5 ao xs := At.keptD hat hk5 (fun a e h0 => by have := (hoff a e).2 (by omega); exact fun e => e.elim this.1 this.2)
          generalize hq : puA size F (nxH L.h cov xs) xs L.s D (abs W) = Q
          have HPu : Hid (∀ w6 : World, w5.grownBy w6 none → Calls Tryz.prog 28 #[.agg #[.pointer (some ⟨r, 0, none⟩)], .agg #[.int .u64 (L.h.g + 1), .int .u64 cov, .int .i64 (m : Int), .int .u32 (sumN xs)], .slice ao m cap] w6 fun e w' => e = .returned (.int .i64 Q.1) ∧ ∃ k' W', StP w0 w6 w' n size b k W Q k' W') := by
            intro w6 g6
            have q := put_at (((ST.out 0).dev.then g5).then g6) (hrg.grown g6) hFn (nxH L.h cov xs) hnO hnM cap m ao xs hm (hat5.grown g6) hcap hC hfit (fun a e => ⟨Nat.lt_of_lt_of_le (hoff a e).1 (Nat.le_trans hk5.size g6.size), (hoff a e).2⟩) hs32 hs hW (show L.s.cnt ≤ 10000 by have := HLD.out.2; omega) (by omega) (by omega) hT (Nat.lt_of_lt_of_le (by omega) (Nat.le_trans (row_lt b5) g6.size))
            rw [hq] at q
            unfold rp Fm.hdV nxH at q
            simp only at q
            rw [hm] at q
            exact q
          have hS0 : ∀ w6 : World, Kept w5 w6 (fun i => k.own i ∨ i = b) → w6.cell? ⟨V, 0, none⟩ = some (.int .u64 (L.h.g + 1)) ∧ w6.cell? ⟨V, 1, none⟩ = some (.int .u64 cov) ∧ w6.cell? ⟨V, 2, none⟩ = some (.int .i64 (m : Int)) ∧ w6.cell? ⟨V, 3, none⟩ = some (.int .u32 (sumN xs)) ∧ w6.cell? ⟨sl, o, none⟩ = some (.pointer (some ⟨r, 0, none⟩)) := by
            intro w6 hk6
            exact ⟨cell_kept hk6 (cell_row b5 0) hVoff, cell_kept hk6 (cell_row b5 1) hVoff, cell_kept hk6 (cell_row b5 2) hVoff, cell_kept hk6 (cell_row b5 3) hVoff, cell_kept hk6 hsl hsloff⟩
          have hbx5 := (g5.block _ (row_lt HB4.out.1) (by simp)).trans HB4.out.1
          have HS0 := hide (And.intro hS0 (And.intro hbx5 (And.intro hXoff (And.intro hk5 (And.intro hq hF)))))
          obtain ⟨u0, u1, u2, u3, u4⟩ := hS0 w5 (Kept.refl _ _)
          have ho0 : (0 : Int) ≤ (o : Int) := by omega
          have ho3 : (o : Int) < 2 := by omega
          clear hS0 hbx5 hXoff hVoff hrg hFn hsl hsloff hnO hnM hfit hpcn hp1 hat5 hq hF hr hO hl h ha hb hT hB hat hoff hx' hm' hm3' b5 g5 hV hVw
          go_wp2_with fail
          go_region_held3 (fun w6 => w6.cell? ⟨V, 0, none⟩ = some (.int .u64 (L.h.g + 1)) ∧ w6.cell? ⟨V, 1, none⟩ = some (.int .u64 cov) ∧ w6.cell? ⟨V, 2, none⟩ = some (.int .i64 (m : Int)) ∧ w6.cell? ⟨V, 3, none⟩ = some (.int .u32 (sumN xs)) ∧ w6.cell? ⟨sl, o, none⟩ = some (.pointer (some ⟨r, 0, none⟩))) (first | exact ⟨u0, u1, u2, u3, u4⟩ | assumption | exact HS0.out.1 _ (Kept.new (grown_drew w5 none) _)) ((first | (go_at_call 27; refine (HOt.out _).mono ?_; rintro e6 w6 ⟨rfl, hw6⟩; obtain rfl := hw6.symm; have hk3 := HS0.out.1 _ (Kept.new (grown_drew w5 none) _)) | (go_at_call 28; refine (HPu.out _ (grown_drew w5 none)).mono ?_; rintro e7 w7 ⟨rfl, k7, W7, p7⟩; have hk7 := HS0.out.1 _ ((Kept.new (grown_drew w5 none) _).trans p7.mov.kept (fun i _ e => e)); have P7 := hide p7; clear p7)))
          obtain ⟨u0', u1', u2', u3', u4'⟩ := hk7
          clear u0 u1 u2 u3 u4 hk3 HPu HOt
          obtain ⟨_, hbx5, hXoff, hk5, hq, hF⟩ := HS0.out
          have hbx7 := P7.out.mov.kept.at ((grown_drew w5 none).block _ (row_lt hbx5) (by simp) |>.trans hbx5) hXoff
          have ST7 : Hid (StP w0 w w7 n size b k W Q k7 W7) := ⟨P7.out.dev, P7.out.abs, P7.out.mov.d, fun i e => (P7.out.mov.own i e).elim .inl (fun e => .inr (Nat.le_trans hk5.size e)), fun x hx => (P7.out.mov.blk x hx).elim .inl (fun e => .inr (Nat.le_trans hk5.size e)), (hk5.trans (Kept.new (grown_drew w5 none) _) (fun _ _ e => e)).trans P7.out.mov.kept (fun _ _ e => e)⟩
          have HBX := hide (And.intro hbx7 (And.intro trivial trivial))
          have hRe := HRE.out
          rw [← hF, hq] at hRe
          clear hbx7 hbx5 hXoff hk5 hq hF HRE P7 HS0
          obtain ⟨e0, e1, e2, e3⟩ := Fm.box4 HBX.out.1
          have f0 := free_row HBX.out.1 0
          have f1 := free_row HBX.out.1 1
          have f2 := free_row HBX.out.1 2
          have f3 := free_row HBX.out.1 3
          unfold hd0 at e0 e1 e2 e3
          simp only at e0 e1 e2 e3
          by_cases hqz : Q.1 = 0
          · rw [if_neg (by simpa using hqz)] at hRe
            subst hRe
            have hqb : (Q.1 != 0) = false := by simp [hqz]
            have HQ0 := hide hqz
            clear hqz
            go_wp2
            obtain ⟨eb, eg⟩ := Fm.set4 HBX.out.1 (.int .u64 (L.h.g + 1)) (.int .u64 cov) (.int .i64 (m : Int)) (.int .u32 (sumN xs))
            clear e0 e1 e2 e3 f0 f1 f2 f3
            obtain ⟨e0, e1, e2, e3⟩ := Fm.box4 eb
            have EG := hide eg
            clear eb eg
            generalize ((((w7.setCell ⟨X, 0, none⟩ (.int .u64 (L.h.g + 1))).setCell ⟨X, 1, none⟩ (.int .u64 cov)).setCell ⟨X, 2, none⟩ (.int .i64 (m : Int))).setCell ⟨X, 3, none⟩ (.int .u32 (sumN xs))) = w9 at *
            refine bodyPost_ret (v := .tuple #[.agg #[.int .u64 (L.h.g + 1), .int .u64 cov, .int .i64 (m : Int), .int .u32 (sumN xs)], .int .i64 0]) ?_ rfl ?_
            · rw [Fm.results_cell_tmp1 rfl]; go_simp
            refine ⟨?_, k7, W7, ?_⟩
            · unfold nxH; simp only; rw [hm]
            · have q7 := StP.box ST7.out HBX.out.1 (by rw [HX.out]; exact Nat.le_refl _) HG.out.2.2.2 EG.out
              exact ⟨q7.dev, q7.abs, q7.mov⟩
          · rw [if_pos hqz] at hRe
            subst hRe
            have hqb : (Q.1 != 0) = true := by simpa using hqz
            clear hqz
            go_wp2
            obtain ⟨eb, eg⟩ := Fm.set4 HBX.out.1 (.int .u64 0) (.int .u64 0) (.int .i64 0) (.int .u32 0)
            clear e0 e1 e2 e3 f0 f1 f2 f3
            obtain ⟨e0, e1, e2, e3⟩ := Fm.box4 eb
            have EG := hide eg
            clear eb eg
            generalize ((((w7.setCell ⟨X, 0, none⟩ (.int .u64 0)).setCell ⟨X, 1, none⟩ (.int .u64 0)).setCell ⟨X, 2, none⟩ (.int .i64 0)).setCell ⟨X, 3, none⟩ (.int .u32 0)) = w9 at *
            refine bodyPost_ret (v := .tuple #[.agg #[.int .u64 0, .int .u64 0, .int .i64 0, .int .u32 0], .int .i64 Q.1]) ?_ rfl ?_
            · rw [Fm.results_cell_tmp1 rfl]; go_simp
            refine ⟨rfl, k7, W7, ?_⟩
            have q7 := StP.box ST7.out HBX.out.1 (by rw [HX.out]; exact Nat.le_refl _) HG.out.2.2.2 EG.out
            exact ⟨q7.dev, q7.abs, q7.mov⟩
        · clear y0 y1 y2 y3 HSu
          have b5 : (w4.alloc (.cells #[.int .u64 (L.h.g + 1), .int .u64 cov, .int .i64 (m : Int), .int .u32 (sumN xs)] 25)).drew.heap[w4.heap.size]? = some (.cells [Value.int .u64 (L.h.g + 1), .int .u64 cov, .int .i64 (m : Int), .int .u32 (sumN xs)].toArray 25 (0, 0)) := heap_alloc_new w4 _
          have g5 := grown_trans (World.grownBy_alloc w4 (.cells #[.int .u64 (L.h.g + 1), .int .u64 cov, .int .i64 (m : Int), .int .u32 (sumN xs)] 25) none) (grown_drew _ none)
          obtain ⟨V, hV⟩ : ∃ V, w4.heap.size = V := ⟨_, rfl⟩
          rw [hV] at b5
          rw [hV]
          generalize (w4.alloc (.cells #[.int .u64 (L.h.g + 1), .int .u64 cov, .int .i64 (m : Int), .int .u32 (sumN xs)] 25)).drew = w5 at *
          obtain ⟨o, hO, ho2⟩ : ∃ o : Nat, (if L.at_ = 0 then (1 : Int) else 0) = (o : Int) ∧ o < 2 := by
            split
            · exact ⟨1, rfl, by omega⟩
            · exact ⟨0, rfl, by omega⟩
          obtain ⟨r, hr⟩ : ∃ r, r = if o = 0 then ra else rb := ⟨_, rfl⟩
          obtain ⟨F, hF⟩ : ∃ F, F = if L.at_ = 0 then Fb else Fa := ⟨_, rfl⟩
          have HOt := hide (fun w6 => other_any L.at_ w6)
          rw [hO] at HOt
          have hk5 : Kept w w5 (fun i => k.own i ∨ i = b) := HB4.out.2.2.1.trans (Kept.new g5 _) (fun _ _ e => e)
          have hVw : w.heap.size ≤ V := by rw [← hV]; exact HB4.out.2.2.1.size
          obtain ⟨hl, h, ha, hb, hT, hB, hat, hoff, hx', hm', hm3'⟩ := HI.out
          have hVoff : ¬ (k.own V ∨ V = b) := new_off h hVw
          have hXoff : ¬ (k.own X ∨ X = b) := HG.out.2.2.1
          have hrg : RgAt w5 r b F C := by
            by_cases e : L.at_ = 0
            · rw [if_pos e] at hO hF
              have : o = 1 := by omega
              subst this
              rw [if_neg (by omega)] at hr
              rw [hr, hF]
              exact hb.keptD h hk5
            · rw [if_neg e] at hO hF
              have : o = 0 := by omega
              subst this
              rw [if_pos rfl] at hr
              rw [hr, hF]
              exact ha.keptD h hk5
          have hFn : F + C ≤ n := by rw [hF]; split <;> assumption
          have hsl := (hl.keptD h hk5).one ho2
          rw [← hr] at hsl
          have hsloff : ¬ (k.own sl ∨ sl = b) := by
            have := h.far hl.head (by decide) (by decide) (by decide) (by decide)
            rintro (e | e)
            · exact this.1 e
            · exact this.2 e
          obtain ⟨hnO, hnM⟩ := nxH_ok HLD.out.1.1 (by simpa using hfb) hc0 hc1 hx (by omega)
          have hfit : size + m ≤ C * size := by
            have := HRm.out
            obtain ⟨c, rfl⟩ : ∃ c, C = c + 1 := ⟨C - 1, by omega⟩
            rw [Nat.add_mul]; simp at this ⊢; omega
          have hpcn := pcn_body (size := size) (C := C) (m := m) (by omega) (by rw [HRm.out]; omega)
          have hp1 := pcn_one size (by omega)
          have hat5 : At w5 ao xs := At.keptD hat hk5 (fun a e h0 => by have := (hoff a e).2 (by omega); exact fun e => e.elim this.1 this.2)
          generalize hq : puA size F (nxH L.h cov xs) xs L.s D (abs W) = Q
          have HPu : Hid (∀ w6 : World, w5.grownBy w6 none → Calls Tryz.prog 28 #[.agg #[.pointer (some ⟨r, 0, none⟩)], .agg #[.int .u64 (L.h.g + 1), .int .u64 cov, .int .i64 (m : Int), .int .u32 (sumN xs)], .slice ao m cap] w6 fun e w' => e = .returned (.int .i64 Q.1) ∧ ∃ k' W', StP w0 w6 w' n size b k W Q k' W') := by
            intro w6 g6
            have q := put_at (((ST.out 0).dev.then g5).then g6) (hrg.grown g6) hFn (nxH L.h cov xs) hnO hnM cap m ao xs hm (hat5.grown g6) hcap hC hfit (fun a e => ⟨Nat.lt_of_lt_of_le (hoff a e).1 (Nat.le_trans hk5.size g6.size), (hoff a e).2⟩) hs32 hs hW (show L.s.cnt ≤ 10000 by have := HLD.out.2; omega) (by omega) (by omega) hT (Nat.lt_of_lt_of_le (by omega) (Nat.le_trans (row_lt b5) g6.size))
            rw [hq] at q
            unfold rp Fm.hdV nxH at q
            simp only at q
            rw [hm] at q
            exact q
          have hS0 : ∀ w6 : World, Kept w5 w6 (fun i => k.own i ∨ i = b) → w6.cell? ⟨V, 0, none⟩ = some (.int .u64 (L.h.g + 1)) ∧ w6.cell? ⟨V, 1, none⟩ = some (.int .u64 cov) ∧ w6.cell? ⟨V, 2, none⟩ = some (.int .i64 (m : Int)) ∧ w6.cell? ⟨V, 3, none⟩ = some (.int .u32 (sumN xs)) ∧ w6.cell? ⟨sl, o, none⟩ = some (.pointer (some ⟨r, 0, none⟩)) := by
            intro w6 hk6
            exact ⟨cell_kept hk6 (cell_row b5 0) hVoff, cell_kept hk6 (cell_row b5 1) hVoff, cell_kept hk6 (cell_row b5 2) hVoff, cell_kept hk6 (cell_row b5 3) hVoff, cell_kept hk6 hsl hsloff⟩
          have hbx5 := (g5.block _ (row_lt HB4.out.1) (by simp)).trans HB4.out.1
          have HS0 := hide (And.intro hS0 (And.intro hbx5 (And.intro hXoff (And.intro hk5 (And.intro hq hF)))))
          obtain ⟨u0, u1, u2, u3, u4⟩ := hS0 w5 (Kept.refl _ _)
          have ho0 : (0 : Int) ≤ (o : Int) := by omega
          have ho3 : (o : Int) < 2 := by omega
          clear hS0 hbx5 hXoff hVoff hrg hFn hsl hsloff hnO hnM hfit hpcn hp1 hat5 hq hF hr hO hl h ha hb hT hB hat hoff hx' hm' hm3' b5 g5 hV hVw
          go_wp2_with fail
          go_region_held3 (fun w6 => w6.cell? ⟨V, 0, none⟩ = some (.int .u64 (L.h.g + 1)) ∧ w6.cell? ⟨V, 1, none⟩ = some (.int .u64 cov) ∧ w6.cell? ⟨V, 2, none⟩ = some (.int .i64 (m : Int)) ∧ w6.cell? ⟨V, 3, none⟩ = some (.int .u32 (sumN xs)) ∧ w6.cell? ⟨sl, o, none⟩ = some (.pointer (some ⟨r, 0, none⟩))) (first | exact ⟨u0, u1, u2, u3, u4⟩ | assumption | exact HS0.out.1 _ (Kept.new (grown_drew w5 none) _)) ((first | (go_at_call 27; refine (HOt.out _).mono ?_; rintro e6 w6 ⟨rfl, hw6⟩; obtain rfl := hw6.symm; have hk3 := HS0.out.1 _ (Kept.new (grown_drew w5 none) _)) | (go_at_call 28; refine (HPu.out _ (grown_drew w5 none)).mono ?_; rintro e7 w7 ⟨rfl, k7, W7, p7⟩; have hk7 := HS0.out.1 _ ((Kept.new (grown_drew w5 none) _).trans p7.mov.kept (fun i _ e => e)); have P7 := hide p7; clear p7)))
          obtain ⟨u0', u1', u2', u3', u4'⟩ := hk7
          clear u0 u1 u2 u3 u4 hk3 HPu HOt
          obtain ⟨_, hbx5, hXoff, hk5, hq, hF⟩ := HS0.out
          have hbx7 := P7.out.mov.kept.at ((grown_drew w5 none).block _ (row_lt hbx5) (by simp) |>.trans hbx5) hXoff
          have ST7 : Hid (StP w0 w w7 n size b k W Q k7 W7) := ⟨P7.out.dev, P7.out.abs, P7.out.mov.d, fun i e => (P7.out.mov.own i e).elim .inl (fun e => .inr (Nat.le_trans hk5.size e)), fun x hx => (P7.out.mov.blk x hx).elim .inl (fun e => .inr (Nat.le_trans hk5.size e)), (hk5.trans (Kept.new (grown_drew w5 none) _) (fun _ _ e => e)).trans P7.out.mov.kept (fun _ _ e => e)⟩
          have HBX := hide (And.intro hbx7 (And.intro trivial trivial))
          have hRe := HRE.out
          rw [← hF, hq] at hRe
          clear hbx7 hbx5 hXoff hk5 hq hF HRE P7 HS0
          obtain ⟨e0, e1, e2, e3⟩ := Fm.box4 HBX.out.1
          have f0 := free_row HBX.out.1 0
          have f1 := free_row HBX.out.1 1
          have f2 := free_row HBX.out.1 2
          have f3 := free_row HBX.out.1 3
          unfold hd0 at e0 e1 e2 e3
          simp only at e0 e1 e2 e3
          by_cases hqz : Q.1 = 0
          · rw [if_neg (by simpa using hqz)] at hRe
            subst hRe
            have hqb : (Q.1 != 0) = false := by simp [hqz]
            have HQ0 := hide hqz
            clear hqz
            go_wp2
            obtain ⟨eb, eg⟩ := Fm.set4 HBX.out.1 (.int .u64 (L.h.g + 1)) (.int .u64 cov) (.int .i64 (m : Int)) (.int .u32 (sumN xs))
            clear e0 e1 e2 e3 f0 f1 f2 f3
            obtain ⟨e0, e1, e2, e3⟩ := Fm.box4 eb
            have EG := hide eg
            clear eb eg
            generalize ((((w7.setCell ⟨X, 0, none⟩ (.int .u64 (L.h.g + 1))).setCell ⟨X, 1, none⟩ (.int .u64 cov)).setCell ⟨X, 2, none⟩ (.int .i64 (m : Int))).setCell ⟨X, 3, none⟩ (.int .u32 (sumN xs))) = w9 at *
            refine bodyPost_ret (v := .tuple #[.agg #[.int .u64 (L.h.g + 1), .int .u64 cov, .int .i64 (m : Int), .int .u32 (sumN xs)], .int .i64 0]) ?_ rfl ?_
            · rw [Fm.results_cell_tmp1 rfl]; go_simp
            refine ⟨?_, k7, W7, ?_⟩
            · unfold nxH; simp only; rw [hm]
            · have q7 := StP.box ST7.out HBX.out.1 (by rw [HX.out]; exact Nat.le_refl _) HG.out.2.2.2 EG.out
              exact ⟨q7.dev, q7.abs, q7.mov⟩
          · rw [if_pos hqz] at hRe
            subst hRe
            have hqb : (Q.1 != 0) = true := by simpa using hqz
            clear hqz
            go_wp2
            obtain ⟨eb, eg⟩ := Fm.set4 HBX.out.1 (.int .u64 0) (.int .u64 0) (.int .i64 0) (.int .u32 0)
            clear e0 e1 e2 e3 f0 f1 f2 f3
            obtain ⟨e0, e1, e2, e3⟩ := Fm.box4 eb
            have EG := hide eg
            clear eb eg
            generalize ((((w7.setCell ⟨X, 0, none⟩ (.int .u64 0)).setCell ⟨X, 1, none⟩ (.int .u64 0)).setCell ⟨X, 2, none⟩ (.int .i64 0)).setCell ⟨X, 3, none⟩ (.int .u32 0)) = w9 at *
            refine bodyPost_ret (v := .tuple #[.agg #[.int .u64 0, .int .u64 0, .int .i64 0, .int .u32 0], .int .i64 Q.1]) ?_ rfl ?_
            · rw [Fm.results_cell_tmp1 rfl]; go_simp
            refine ⟨rfl, k7, W7, ?_⟩
            have q7 := StP.box ST7.out HBX.out.1 (by rw [HX.out]; exact Nat.le_refl _) HG.out.2.2.2 EG.out
            exact ⟨q7.dev, q7.abs, q7.mov⟩
end
end Go.Proofs.YtonokaelbpfjnabGreatDoor
/- Pick; spans. -/
namespace Go.Proofs.YtonokaelbpfjnabGreatDoor
open Go.RowKit Ap
attribute [local go_sem ↓] Go.wp_at_zero Go.wp_at_succ
/-- Pick, told as a number of its own. -/
theorem pick_nat (x : Int) (n : Nat) (hn : 1 ≤ n) (hn2 : n ≤ 65536) (w : World) :
    Calls Tryz.prog 8 #[.int .i64 x, .int .i64 (n : Int)] w fun e w' => e = .returned (.int .i64 ((x % (n : Int)).toNat : Int)) ∧ w' = w := by
  have h := pick_any x n n w rfl hn hn2
  have h2 := Int.emod_nonneg x (show (n : Int) ≠ 0 by omega)
  rw [Int.toNat_of_nonneg h2]
  exact h


/-- The two spans of a number. -/
def spn (j : Nat) : Nat × Nat × Nat × Nat :=
  if j = 1 then (5, 4, 0, 4) else if j = 2 then (2, 2, 4, 2) else if j = 3 then (0, 4, 2, 4) else if j = 4 then (0, 4, 0, 4) else if j = 5 then (0, 4, 5, 3) else if j = 6 then (0, 1, 5, 1) else (0, 4, 5, 4)
def spV (F C : Nat) : Value := .agg #[.int .i64 (F : Int), .int .i64 (C : Int)]
theorem four52 (w : World) (a b c d : Value) :
    let w4 := ((((w.alloc (.cells #[.int .i64 0, .int .i64 0] 53)).alloc (.cells #[.int .i64 0, .int .i64 0] 53)).alloc (.cells #[a, b] 53)).alloc (.cells #[c, d] 53))
    w4.heap[w.heap.size]? = some (.cells [Value.int .i64 0, .int .i64 0].toArray 53 (0, 0)) ∧ w4.heap[w.heap.size + 1]? = some (.cells [Value.int .i64 0, .int .i64 0].toArray 53 (0, 0)) ∧ w4.heap[w.heap.size + 1 + 1]? = some (.cells [a, b].toArray 53 (0, 0)) ∧ w4.heap[w.heap.size + 1 + 1 + 1]? = some (.cells [c, d].toArray 53 (0, 0)) ∧ w.grownBy w4 none := by
  intro w4
  have g : ∀ (v : World) (o : Obj), v.grownBy (v.alloc o) none := fun v o => World.grownBy_alloc v o none
  have h1 := heap_alloc_new w (.cells #[.int .i64 0, .int .i64 0] 53)
  have h2 := heap_alloc_new (w.alloc (.cells #[.int .i64 0, .int .i64 0] 53)) (.cells #[.int .i64 0, .int .i64 0] 53)
  have h3 := heap_alloc_new ((w.alloc (.cells #[.int .i64 0, .int .i64 0] 53)).alloc (.cells #[.int .i64 0, .int .i64 0] 53)) (.cells #[a, b] 53)
  have h4 := heap_alloc_new (((w.alloc (.cells #[.int .i64 0, .int .i64 0] 53)).alloc (.cells #[.int .i64 0, .int .i64 0] 53)).alloc (.cells #[a, b] 53)) (.cells #[c, d] 53)
  rw [World.size_alloc] at h2
  rw [World.size_alloc, World.size_alloc] at h3
  rw [World.size_alloc, World.size_alloc, World.size_alloc] at h4
  have k1 := ((g _ (.cells #[.int .i64 0, .int .i64 0] 53)).block _ (row_lt h1) (by simp)).trans h1
  have k1 := ((g _ (.cells #[a, b] 53)).block _ (row_lt k1) (by simp)).trans k1
  have k1 := ((g _ (.cells #[c, d] 53)).block _ (row_lt k1) (by simp)).trans k1
  have k2 := ((g _ (.cells #[a, b] 53)).block _ (row_lt h2) (by simp)).trans h2
  have k2 := ((g _ (.cells #[c, d] 53)).block _ (row_lt k2) (by simp)).trans k2
  have k3 := ((g _ (.cells #[c, d] 53)).block _ (row_lt h3) (by simp)).trans h3
  exact ⟨k1, k2, k3, h4, grown_trans (grown_trans (grown_trans (g _ _) (g _ _)) (g _ _)) (g _ _)⟩
theorem results_cell2 {fn : Func} {p u : Tmp} {t1 t2 : TypeId} (h : fn.results = #[.cell p t1, .cell u t2]) (tmps : Array Value) (P : Program) (w : World) :
    (results fn tmps).run P w =
      ((asAddr (tmps.getD p undef)).run P w).andThen fun a w₁ => ((loadVar t1 a).run P w₁).andThen fun v w₂ => ((asAddr (tmps.getD u undef)).run P w₂).andThen fun a' w₃ => ((loadVar t2 a').run P w₃).andThen fun v' w₄ => .ok (.tuple #[v, v']) w₄ := by
  simp only [results, h]
  simp [Sem.run_bind, Result.andThen]
set_option maxRecDepth 20000 in
set_option maxHeartbeats 4000000 in
theorem spans_zero (x : Int) (j : Nat) (hj : (x % ((8 : Nat) : Int)).toNat = j) (h0 : j = 0 ∨ 6 < j) (w : World) : Calls Tryz.prog 15 #[.int .i64 x] w fun e w' => e = .returned (.tuple #[spV 0 4, spV 5 4]) ∧ w.grownBy w' none := by
  have P := hide (pick_nat x 8 (by omega) (by omega))
  rw [hj] at P
  have h1 : ((j : Int) == 1) = false := by simp; omega
  have h2 : ((j : Int) == 2) = false := by simp; omega
  have h3 : ((j : Int) == 3) = false := by simp; omega
  have h4 : ((j : Int) == 4) = false := by simp; omega
  have h5 : ((j : Int) == 5) = false := by simp; omega
  have h6 : ((j : Int) == 6) = false := by simp; omega
  clear hj h0
  unfold spV
  go_enter Tryz.func15, Tryz.ntmps15
  go_wp2_with fail
  refine (P.out _).mono ?_
  rintro e wx ⟨rfl, hwx⟩
  obtain rfl := hwx.symm
  obtain ⟨q0, q1, q2, q3, gq⟩ := four52 w (.int .i64 0) (.int .i64 4) (.int .i64 5) (.int .i64 4)
  generalize ((((w.alloc (.cells #[.int .i64 0, .int .i64 0] 53)).alloc (.cells #[.int .i64 0, .int .i64 0] 53)).alloc (.cells #[.int .i64 0, .int .i64 4] 53)).alloc (.cells #[.int .i64 5, .int .i64 4] 53)) = w4 at *
  have HQ := hide (And.intro q0 (And.intro q1 gq))
  have a0 := cell_row q0 0
  have a1 := cell_row q0 1
  have b0 := cell_row q1 0
  have b1 := cell_row q1 1
  have c0 := cell_row q2 0
  have c1 := cell_row q2 1
  have d0 := cell_row q3 0
  have d1 := cell_row q3 1
  have fa0 := free_row q0 0
  have fa1 := free_row q0 1
  have fb0 := free_row q1 0
  have fb1 := free_row q1 1
  simp only [List.getElem?_cons_zero, List.getElem?_cons_succ] at a0 a1 b0 b1 c0 c1 d0 d1
  clear q0 q1 q2 q3 gq P
  go_wp2
  go_region
  go_wp2
  obtain ⟨q0, q1, gq⟩ := HQ.out
  have r0 := row_setCell q0 0 (.int .i64 0)
  have r0 := row_setCell r0 1 (.int .i64 4)
  have r1 := (Below.heap_setCell (w4.setCell ⟨w.heap.size, 0, none⟩ (.int .i64 0)) ⟨w.heap.size, 1, none⟩ (.int .i64 4) (w.heap.size + 1) (by simp)).trans ((Below.heap_setCell w4 ⟨w.heap.size, 0, none⟩ (.int .i64 0) (w.heap.size + 1) (by simp)).trans q1)
  have gs := grown_trans (grown_trans (grown_setCell w4 w.heap.size 0 (.int .i64 0)) (grown_setCell _ w.heap.size 1 (.int .i64 4))) (grown_refl _ _)
  have g5 := grown_then gq gs (fun i e => by cases e; exact Or.inl (Nat.le_refl _))
  have s1 := row_setCell r1 0 (.int .i64 5)
  have s1 := row_setCell s1 1 (.int .i64 4)
  have s0 := (Below.heap_setCell _ ⟨w.heap.size + 1, 1, none⟩ (.int .i64 4) w.heap.size (by simp)).trans ((Below.heap_setCell _ ⟨w.heap.size + 1, 0, none⟩ (.int .i64 5) w.heap.size (by simp)).trans r0)
  have gt := grown_trans (grown_setCell ((w4.setCell ⟨w.heap.size, 0, none⟩ (.int .i64 0)).setCell ⟨w.heap.size, 1, none⟩ (.int .i64 4)) (w.heap.size + 1) 0 (.int .i64 5)) (grown_setCell _ (w.heap.size + 1) 1 (.int .i64 4))
  have g6 := grown_trans (grown_then g5 gt (fun i e => by cases e; exact Or.inl (Nat.le_succ _))) (grown_drew _ none)
  have G6 := hide g6
  clear a0 a1 b0 b1 c0 c1 d0 d1 fa0 fa1 fb0 fb1 r0 r1 gs g5 gt g6 q0 q1 gq HQ
  have a0 := cell_row s0 0
  have a1 := cell_row s0 1
  have b0 := cell_row s1 0
  have b1 := cell_row s1 1
  simp only [List.set_cons_zero, List.set_cons_succ, List.getElem?_cons_zero, List.getElem?_cons_succ] at a0 a1 b0 b1
  clear s0 s1
  replace a0 := (grown_drew _ none).cell a0 (by simp)
  replace a1 := (grown_drew _ none).cell a1 (by simp)
  replace b0 := (grown_drew _ none).cell b0 (by simp)
  replace b1 := (grown_drew _ none).cell b1 (by simp)
  generalize ((((w4.setCell ⟨w.heap.size, 0, none⟩ (.int .i64 0)).setCell ⟨w.heap.size, 1, none⟩ (.int .i64 4)).setCell ⟨w.heap.size + 1, 0, none⟩ (.int .i64 5)).setCell ⟨w.heap.size + 1, 1, none⟩ (.int .i64 4)).drew = w9 at *
  refine bodyPost_ret (v := .tuple #[.agg #[.int .i64 0, .int .i64 4], .agg #[.int .i64 5, .int .i64 4]]) ?_ rfl ⟨rfl, G6.out⟩
  rw [results_cell2 rfl]; go_simp
end Go.Proofs.YtonokaelbpfjnabGreatDoor
/- The document's New. -/
namespace Go.Proofs.YtonokaelbpfjnabGreatDoor
open Go.RowKit Ap
attribute [local go_sem ↓] Go.wp_at_zero Go.wp_at_succ

/-- New bytes, and what an append of them comes to. -/
theorem make_push {wq : World} {lo rb j vcap sz : Nat} {vo : Option Addr} {vw : Value} {S : List Bx} (hb : wq.heap[rb]? = some (.cells #[.slice vo j vcap, vw] 127 (0, 0))) (hR : RowAt wq lo (.slice vo j vcap) S) (hS : S.length = j) (hs1 : sz ≤ 4096) (hlo : lo ≤ wq.heap.size) (hj : j ≤ 65536) :
    ∃ g cap2 w2, (∀ ty, (Builtin.append_ #[50, 50] ty #[.slice vo j vcap, .slice (some ⟨wq.heap.size + 1, 0, none⟩) 1 1]).run Tryz.prog ((wq.drew.alloc (.cells (bv (zs sz)).toArray 5)).alloc (.cells #[.slice (some ⟨wq.heap.size, 0, none⟩) sz sz] 39)) = .ok (.slice (some ⟨g, 0, none⟩) (j + 1) cap2) w2) ∧
      (wq.drew.alloc (.cells (bv (zs sz)).toArray 5)).cell? ⟨rb, 0, none⟩ = some (.slice vo j vcap) ∧ ((wq.drew.alloc (.cells (bv (zs sz)).toArray 5)).alloc (.cells #[.slice (some ⟨wq.heap.size, 0, none⟩) sz sz] 39)).cell? ⟨rb, 0, none⟩ = some (.slice vo j vcap) ∧ w2.cell? ⟨rb, 0, none⟩ = some (.slice vo j vcap) ∧ w2.frozen? ⟨rb, 0, none⟩ = false ∧
      Hid ((w2.setCell ⟨rb, 0, none⟩ (.slice (some ⟨g, 0, none⟩) (j + 1) cap2)).heap[rb]? = some (.cells #[.slice (some ⟨g, 0, none⟩) (j + 1) cap2, vw] 127 (0, 0)) ∧ RowAt (w2.setCell ⟨rb, 0, none⟩ (.slice (some ⟨g, 0, none⟩) (j + 1) cap2)) lo (.slice (some ⟨g, 0, none⟩) (j + 1) cap2) (S ++ [⟨wq.heap.size, sz, zs sz⟩]) ∧ Kept wq (w2.setCell ⟨rb, 0, none⟩ (.slice (some ⟨g, 0, none⟩) (j + 1) cap2)) (fun i => i = rb ∨ (Value.slice vo j vcap).ownBlock = some i)) := by
  have g1' : wq.grownBy (wq.drew.alloc (.cells (bv (zs sz)).toArray 5)) none := grown_trans (grown_drew wq none) (World.grownBy_alloc _ _ none)
  have hsz : (wq.drew.alloc (.cells (bv (zs sz)).toArray 5)).heap.size = wq.heap.size + 1 := Array.size_push ..
  have hzl : (zs sz).length = sz := by simp [zs]
  have o1 : BxAt (wq.drew.alloc (.cells (bv (zs sz)).toArray 5)) wq.heap.size ⟨wq.heap.size, sz, zs sz⟩ := by
    have := World.ownsRow_lit (base := wq.heap.size) (e := 5) (size := 1) wq.drew (bv (zs sz)).toArray sz (Nat.le_refl _) (by unfold maxLen; omega) (by simp [bv_length, zs])
    simp only [BxAt, Bx.v, hzl]
    exact this
  have hro := (hR.grown g1').row
  rw [hS] at hro
  obtain ⟨g, cap2, w2, hrun, o2, g2⟩ := run_row hro (Nat.le_trans hlo g1'.size) (.slice (some ⟨wq.heap.size, 0, none⟩) sz sz) rfl hj
  obtain ⟨c1, c2, c3, c4⟩ := push_pre hb hR g1' g2
  have gz := World.grownBy_alloc (wq.drew.alloc (.cells (bv (zs sz)).toArray 5)) (.cells #[.slice (some ⟨wq.heap.size, 0, none⟩) sz sz] 39) none
  rw [hsz] at hrun
  exact ⟨g, cap2, w2, hrun, c1, c2, c3, c4, hide (push_row hb hR (grown_trans g1' gz) (BxAt.grown o1 gz) hlo (by rw [hS, Bx.v]; simp only [hzl]; exact o2) g2)⟩

set_option maxHeartbeats 1000000 in
theorem rnew_bad (s z : Int) (w : World) (h : mayB s z = false) : Calls Tryz.prog 17 #[.int .i64 s, .int .i64 z] w fun e w' => ∃ rb, e = .returned (.tuple #[.pointer (some ⟨rb, 0, none⟩), .int .i64 2]) ∧ Empty w' rb ∧ w.heap.size ≤ rb ∧ w.grownBy w' none := by
  have HM := hide (mayR_any s z)
  rw [h] at HM
  clear h
  go_enter Tryz.func17, Tryz.ntmps17
  go_wp2_with fail
  refine (HM.out _).mono ?_
  rintro e w1 ⟨rfl, rfl⟩
  go_wp2
  go_ret2
  exact ⟨_, rfl, heap_alloc_new w _, Nat.le_refl _, World.grownBy_alloc w _ none⟩
set_option maxRecDepth 20000 in
set_option maxHeartbeats 4000000 in
theorem rnew_any (n size : Nat) (w : World) (h : mayB (n : Int) (size : Int) = true) : Calls Tryz.prog 17 #[.int .i64 (n : Int), .int .i64 (size : Int)] w fun e w' => ∃ q : Rk, e = .returned (.tuple #[.pointer (some ⟨q.r, 0, none⟩), .int .i64 0]) ∧ RefAt w' w.heap.size n size q ∧ q.S.map Bx.xs = List.replicate n (zs size) ∧ q.V = [] ∧ w.grownBy w' none := by
  have HM := hide (mayR_any n size)
  rw [h] at HM
  have hs := shape_of h
  have s1 := hs.s1
  have n1 := hs.n1
  have hmk := make_bytes size (by omega)
  have HSH := hide hs
  have H0 := hide (And.intro (heap_alloc_new w (.cells #[.slice none 0 0, .slice none 0 0] 127)) (World.grownBy_alloc w (.cells #[.slice none 0 0, .slice none 0 0] 127) none))
  clear h hs
  go_enter Tryz.func17, Tryz.ntmps17
  go_wp2_with fail
  refine (HM.out _).mono ?_
  rintro e w1 ⟨rfl, rfl⟩
  obtain ⟨rb, hrb⟩ : ∃ rb, rb = w.heap.size := ⟨_, rfl⟩
  have HB := hide hrb
  rw [← hrb] at H0 ⊢
  clear hrb
  go_wp2
  go_loopg [7] n (fun q i wr => ∃ j : Nat, q + j = n ∧ i = .int .i64 j ∧ Hid (∃ v S, S.length = j ∧ wr.heap[rb]? = some (.cells #[v, .slice none 0 0] 127 (0, 0)) ∧ RowAt wr rb v S ∧ S.map Bx.xs = List.replicate j (zs size) ∧ w.grownBy wr none))
  case atStart => exact ⟨0, by omega, rfl, hide ⟨.slice none 0 0, [], rfl, by rw [HB.out] at H0 ⊢; exact H0.out.1, RowAt.nil _ _, by simp, H0.out.2⟩⟩
  case round =>
    obtain ⟨j, hkj, rfl, HR⟩ := hrel
    obtain ⟨v, S, u0, u1, u2, u3, u5⟩ := HR.out
    by_cases hk : 0 < gk
    · obtain ⟨vo, vcap, hv, -, -, -⟩ := own_form u2.row
      rw [u0] at hv
      subst hv
      have hcv : wr.cell? ⟨rb, 0, none⟩ = some (.slice vo j vcap) := cell_row (l := [.slice vo j vcap, .slice none 0 0]) u1 0
      obtain ⟨g, cap2, w2, hrun, c1, c2, c3, c4, P2⟩ := make_push (sz := size) u1 u2 u0 (by omega) (Nat.le_of_lt (row_lt u1)) (by omega)
      have c1' : (wr.alloc (.cells (bv (zs size)).toArray 5)).cell? ⟨rb, 0, none⟩ = some (.slice vo j vcap) := c1
      have c2' : ((wr.alloc (.cells (bv (zs size)).toArray 5)).alloc (.cells #[.slice (some ⟨wr.heap.size, 0, none⟩) size size] 39)).cell? ⟨rb, 0, none⟩ = some (.slice vo j vcap) := c2
      have HX := hide (And.intro u0 (And.intro u1 (And.intro u2 (And.intro u3 u5))))
      have h2 : (j : Int) < (n : Int) := by omega
      clear u0 u1 u2 u3 u5 HR
      go_wp2
      go_region_law (refine step_append_run (by rfl) _ _ _ (by rfl) _ _ (by rfl) (by rfl) hrun ?_)
      all_goals
        go_wp2
        go_roundg (gk - 1)
        case measure => omega
        case rel =>
          obtain ⟨p1, p2, p3⟩ := P2.out
          obtain ⟨f0, f1, f2, f3, f5⟩ := HX.out
          refine ⟨j + 1, by omega, by go_num, hide ⟨_, S ++ [⟨wr.heap.size, size, zs size⟩], by simp [f0], p1, p2, ?_, ?_⟩⟩
          · rw [List.map_append, f3, List.replicate_succ']; rfl
          · refine ((Kept.new f5 _).trans p3 (fun _ _ e => e)).grown ?_
            rintro i hi (e | e)
            · have := HB.out; omega
            · have := (own_block f2.row i e).1; have := HB.out; omega
    · have hj : j = n := by omega
      subst hj
      have HX := hide (And.intro u0 (And.intro u1 (And.intro u2 (And.intro u3 u5))))
      clear u0 u1 u2 u3 u5 HR hkj hk
      go_wp2
      go_ret2
      obtain ⟨f0, f1, f2, f3, f5⟩ := HX.out
      refine ⟨⟨rb, v, .slice none 0 0, S, []⟩, rfl, ⟨f1, by rw [HB.out]; exact Nat.le_refl _, by rw [← HB.out]; exact f2, World.ownsRow_nil _ _ _ _, by simp, by simp, HSH.out, f0, ?_, by simp⟩, f3, rfl, f5⟩
      intro b hb
      have : b.xs ∈ List.replicate j (zs size) := by rw [← f3]; exact List.mem_map_of_mem hb
      rw [List.eq_of_mem_replicate this]
      simp [zs]
end Go.Proofs.YtonokaelbpfjnabGreatDoor
/- The document's Copy. -/
namespace Go.Proofs.YtonokaelbpfjnabGreatDoor
open Go.RowKit Ap
attribute [local go_sem ↓] Go.wp_at_zero Go.wp_at_succ

section
variable {wq : World} {lo n size : Nat} {q : Rk}
end
section
variable {w : World} {lo n size : Nat} {q : Rk} {r : Nat}
end
end Go.Proofs.YtonokaelbpfjnabGreatDoor
/- The document's device. -/
namespace Go.Proofs.YtonokaelbpfjnabGreatDoor
open Go.RowKit Ap
attribute [local go_sem ↓] Go.wp_at_zero Go.wp_at_succ

def rvcells (r : Nat) (s : Dv) : List Value := [.pointer (some ⟨r, 0, none⟩), .bool s.off, .int .i64 s.arm, .int .i64 (s.cnt : Int)]
structure RvAt (w : World) (c r : Nat) (s : Dv) : Prop where
  head : w.heap[c]? = some (.cells (rvcells r s).toArray 129 (0, 0))
  ok : s.Ok
structure RDev (w : World) (lo n size c : Nat) (s : Dv) (q : Rk) : Prop where
  ref : RefAt w lo n size q
  dev : RvAt w c q.r s
  low : lo ≤ c
structure RM (w w' : World) (c : Nat) (q q' : Rk) : Prop where
  r : q'.r = q.r
  rf : ∀ i, rfoot q' i → rfoot q i ∨ w.heap.size ≤ i
  kept : Kept w w' (fun i => rfoot q i ∨ i = c)
/-- What the document's disk holds. -/
def rst (q : Rk) : List (List Nat) × List Pr := (q.S.map Bx.xs, absV q.V)
def rsyncA (size : Nat) (st : List (List Nat) × List Pr) : List (List Nat) × List Pr := (stlR (fun _ => size) st.2 st.1 st.2.length, [])
def rcrashA (size : Nat) (F : List (Int × Int)) (st : List (List Nat) × List Pr) : List (List Nat) × List Pr := (stlR (fun i => lasts (fateK F i) (fateA F i) size) st.2 st.1 st.2.length, [])
theorem absV_length (V : List (Nat × Bx)) : (absV V).length = V.length := by simp [absV]
section
variable {w w' w'' : World} {lo n size c r : Nat} {s s' : Dv} {q q' q'' : Rk}
theorem RvAt.same (h : RvAt w c r s) (hb : w'.heap[c]? = w.heap[c]?) : RvAt w' c r s := ⟨hb.trans h.head, h.ok⟩
theorem RvAt.lt (h : RvAt w c r s) : c < w.heap.size := row_lt h.head
theorem RvAt.grown (h : RvAt w c r s) (hg : w.grownBy w' none) : RvAt w' c r s := h.same (hg.block c h.lt (by simp))
theorem RvAt.kept {S : Nat → Prop} (h : RvAt w c r s) (hk : Kept w w' S) (hS : ¬ S c) : RvAt w' c r s := h.same (hk.block c h.lt hS)
theorem RvAt.c0 (h : RvAt w c r s) : w.cell? ⟨c, 0, none⟩ = some (.pointer (some ⟨r, 0, none⟩)) := cell_row h.head 0
theorem RvAt.c1 (h : RvAt w c r s) : w.cell? ⟨c, 1, none⟩ = some (.bool s.off) := cell_row h.head 1
theorem RvAt.c2 (h : RvAt w c r s) : w.cell? ⟨c, 2, none⟩ = some (.int .i64 s.arm) := cell_row h.head 2
theorem RvAt.c3 (h : RvAt w c r s) : w.cell? ⟨c, 3, none⟩ = some (.int .i64 (s.cnt : Int)) := cell_row h.head 3
theorem RvAt.free (h : RvAt w c r s) (j : Nat) : w.frozen? ⟨c, j, none⟩ = false := free_row h.head j
theorem RDev.off (h : RDev w lo n size c s q) : ¬ rfoot q c := h.ref.other_off h.dev.head (by decide) (by decide) (by decide) (by decide)
theorem RDev.then (h : RDev w lo n size c s q) (hg : w.grownBy w' none) : RDev w' lo n size c s q := ⟨h.ref.grown hg, h.dev.grown hg, h.low⟩
theorem RM.refl (w : World) (c : Nat) (q : Rk) : RM w w c q q := ⟨rfl, fun _ e => .inl e, Kept.refl _ _⟩
theorem RM.trans (h : RM w w' c q q') (g : RM w' w'' c q' q'') : RM w w'' c q q'' := by
  refine ⟨g.r.trans h.r, ?_, h.kept.trans g.kept ?_⟩
  · intro i hi
    rcases g.rf i hi with e | e
    · exact h.rf i e
    · exact Or.inr (Nat.le_trans h.kept.size e)
  · rintro i hi (e | e)
    · rcases h.rf i e with e | e
      · exact Or.inl e
      · omega
    · exact Or.inr e
theorem RM.new (h : RM w w' c q q') (g : w'.grownBy w'' none) : RM w w'' c q q' := ⟨h.r, h.rf, h.kept.trans (Kept.new g _) (fun _ _ e => e)⟩
theorem RM.pre (g : w.grownBy w' none) (h : RM w' w'' c q q') : RM w w'' c q q' := ⟨h.r, fun i hi => (h.rf i hi).imp id (fun e => Nat.le_trans g.size e), (Kept.new g _).trans h.kept (fun _ _ e => e)⟩
theorem RM.row (hg : w.grownBy w' (some c)) : RM w w' c q q := ⟨rfl, fun _ e => .inl e, Kept.of hg (fun _ e _ => Or.inr (Option.some.inj e).symm)⟩
theorem RM.of (hr : q'.r = q.r) (hk : Kept w w' (rfoot q)) (hf : ∀ i, rfoot q' i → rfoot q i ∨ w.heap.size ≤ i) : RM w w' c q q' := ⟨hr, hf, hk.mono (fun _ _ e => Or.inl e)⟩
theorem RDev.rset (h : RDev w lo n size c s q) (hg : w.grownBy w' (some c)) (hd : RvAt w' c q.r s') : RDev w' lo n size c s' q :=
  ⟨h.ref.kept (Kept.of hg (S := fun i => i = c) (fun _ e _ => (Option.some.inj e).symm)) (fun i hi e => by have e : i = c := e; exact h.off (e ▸ hi)), hd, h.low⟩
theorem RDev.rsk (h : RDev w lo n size c s q) (hr : q'.r = q.r) (hq : RefAt w' lo n size q') (hk : Kept w w' (rfoot q)) : RDev w' lo n size c s q' :=
  ⟨hq, by rw [hr]; exact h.dev.kept hk h.off, h.low⟩
theorem at_rdev {ao : Option Addr} {xs : List Nat} (hat : At w ao xs) (h : RvAt w c r s) (hg : w.grownBy w' (some c)) : At w' ao xs := by
  intro j u hu
  obtain ⟨a, e, hc⟩ := hat j u hu
  refine ⟨a, e, hg.cell hc ?_⟩
  rintro e2
  have e2 : (a.add j).block = c := Option.some.inj e2
  have hsp : (a.add j).spot = none := by
    unfold World.cell? at hc
    split at hc
    · split at hc
      · cases hc
      · rename_i hs; simpa using hs
    · cases hc
  have he : a.add j = ⟨c, (a.add j).off, none⟩ := by
    cases hh : a.add j
    rw [hh] at e2 hsp
    simp at e2 hsp
    subst e2 hsp
    rfl
  rw [he, cell_row h.head] at hc
  generalize (a.add j).off = i at hc
  match i, hc with
  | 0, hc => simp [rvcells] at hc
  | 1, hc => simp [rvcells] at hc
  | 2, hc => simp [rvcells] at hc
  | 3, hc => simp [rvcells] at hc
  | i + 4, hc => simp [rvcells] at hc

set_option maxHeartbeats 400000 in
theorem rdsize_any (h : RDev w lo n size c s q) : Calls Tryz.prog 47 #[.pointer (some ⟨c, 0, none⟩)] w fun e w' => e = .returned (.int .i64 (size : Int)) ∧ w' = w := by
  have c0 := h.dev.c0
  have HH := hide h.ref
  clear h
  go_enter Tryz.func47, Tryz.ntmps47
  go_wp2_with fail
  refine (rsize_any rfl HH.out).mono ?_
  rintro e w' ⟨rfl, rfl⟩
  go_wp2
  go_ret
  exact ⟨rfl, rfl⟩
set_option maxHeartbeats 400000 in
theorem rdsectors_any (h : RDev w lo n size c s q) : Calls Tryz.prog 43 #[.pointer (some ⟨c, 0, none⟩)] w fun e w' => e = .returned (.int .i64 (n : Int)) ∧ w' = w := by
  have c0 := h.dev.c0
  have HH := hide h.ref
  clear h
  go_enter Tryz.func43, Tryz.ntmps43
  go_wp2_with fail
  refine (rsectors_any rfl HH.out).mono ?_
  rintro e w' ⟨rfl, rfl⟩
  go_wp2
  go_ret
  exact ⟨rfl, rfl⟩
end
end Go.Proofs.YtonokaelbpfjnabGreatDoor
/- The document's device: its calls that reach its disk. -/
namespace Go.Proofs.YtonokaelbpfjnabGreatDoor
open Go.RowKit Ap
attribute [local go_sem ↓] Go.wp_at_zero Go.wp_at_succ

section
variable {w w' : World} {lo n size c r : Nat} {s : Dv} {q q' : Rk}
/-- Bytes that the document's device has told. -/
def RGives (w' : World) (size : Nat) (v : Value) (xs : List Nat) : Prop := (v = .slice none 0 0 ∧ xs = []) ∨ ∃ g cc, v = .slice (some ⟨g, 0, none⟩) size cc ∧ At w' (some ⟨g, 0, none⟩) xs ∧ xs.length = size
def rrbytes (n : Nat) (st : List (List Nat) × List Pr) (a : Int) : List Nat := if 0 ≤ a ∧ a < (n : Int) then finds st.2 st.1 a.toNat else []
theorem fold_mem (P : List Pr) (i : Nat) (r0 : Option (List Nat)) (y : List Nat) (h : P.foldl (fun r x => if i = x.1 then some x.2 else r) r0 = some y) : r0 = some y ∨ ∃ x ∈ P, x.2 = y := by
  induction P generalizing r0 with
  | nil => exact Or.inl h
  | cons x l ih =>
    rw [List.foldl_cons] at h
    rcases ih _ h with e | ⟨z, hz, e⟩
    · split at e
      · exact Or.inr ⟨x, by simp, Option.some.inj e⟩
      · exact Or.inl e
    · exact Or.inr ⟨z, by simp [hz], e⟩
theorem finds_len (h : RefAt w lo n size q) (i : Nat) (hi : i < n) : (finds (absV q.V) (q.S.map Bx.xs) i).length = size := by
  unfold finds
  cases hl : lastP (absV q.V) i with
  | some y =>
    rcases fold_mem _ _ _ _ hl with e | ⟨x, hx, e⟩
    · cases e
    · simp only [Option.getD_some]
      rw [absV, List.mem_map] at hx
      obtain ⟨z, hz, rfl⟩ := hx
      rw [← e]
      exact (h.wsz z hz).2
  | none =>
    have hl2 : i < q.S.length := by rw [h.len]; exact hi
    simp only [Option.getD_none, List.getElem?_map, List.getElem?_eq_getElem hl2, Option.map_some, Option.getD_some]
    exact h.sz _ (List.getElem_mem hl2)
set_option maxHeartbeats 1000000 in
theorem rdnew_any (h : RefAt w lo n size q) (hlo : lo ≤ w.heap.size) : Calls Tryz.prog 18 #[.pointer (some ⟨q.r, 0, none⟩)] w fun e w' => ∃ c, e = .returned (.pointer (some ⟨c, 0, none⟩)) ∧ RDev w' lo n size c Dv.anew q ∧ w.heap.size ≤ c ∧ w.grownBy w' none := by
  have HH := hide (And.intro h hlo)
  clear h hlo
  go_enter Tryz.func18, Tryz.ntmps18
  go_wp2
  go_ret
  have g1 := World.grownBy_alloc w (.cells (rvcells q.r Dv.anew).toArray 129) none
  exact ⟨w.heap.size, rfl, ⟨HH.out.1.grown g1, ⟨heap_alloc_new w _, ⟨by show (-1 : Int) ≤ -1; omega, by show (-1 : Int) ≤ _; omega, by show 0 ≤ _; omega⟩⟩, HH.out.2⟩, Nat.le_refl _, g1⟩
theorem RefAt.mono {lo' : Nat} (h : RefAt w lo n size q) (hl : lo' ≤ lo) : RefAt w lo' n size q :=
  ⟨h.head, Nat.le_trans hl h.low, h.rows.mono hl, owns_mono h.wrow hl, fun x hx => (h.wat x hx).mono hl, h.nv, h.shape, h.len, h.sz, h.wsz⟩
end
end Go.Proofs.YtonokaelbpfjnabGreatDoor
