/- Texts joined: SlL, SlS0, SlF. -/
import Derived.Test.YtonokaelbpfjnabGreatDoorJkAl
import Derived.Test.YtonokaelbpfjnabGreatDoorJkAg
/- Load. -/
namespace Go.Proofs.YtonokaelbpfjnabGreatDoor
open Go.RowKit Ap
attribute [local go_sem ↓] Go.wp_at_zero Go.wp_at_succ
/-- What Load leaves. -/
structure LdP (w0 w w' : World) (n size b : Nat) (k : Dk) (D : List Nat) (W : List Wt) (R : Ld) (v : Value) : Prop where
  dev : Dev w0 w' n size b R.s k D W
  kept : Kept w w' (fun i => k.own i ∨ i = b)
  no : R.xs = none → v = .slice none 0 0
  yes : ∀ xs, R.xs = some xs → ∃ g, v = .slice (some ⟨g, 0, none⟩) xs.length xs.length ∧ w.heap.size ≤ g ∧ w'.heap[g]? = some (.cells (bv xs).toArray 5 (0, 0))
section
variable {w0 w w' w2 : World} {n size b sl ra rb Fa Fb C : Nat} {s : Dv} {k : Dk} {D : List Nat} {W : List Wt}
/-- A claim's five cells. -/
theorem cs_cells {w : World} {g t : Nat} {L : List (Fm.Hd × Int)} {p : Fm.Hd × Int} (h : CsAt w g L) (hp : L[t]? = some p) :
    w.cell? ⟨g, t * 5, none⟩ = some (.int .u64 p.1.g) ∧ w.cell? ⟨g, t * 5 + 1, none⟩ = some (.int .u64 p.1.c) ∧ w.cell? ⟨g, t * 5 + 2, none⟩ = some (.int .i64 p.1.n) ∧ w.cell? ⟨g, t * 5 + 3, none⟩ = some (.int .u32 p.1.s) ∧ w.cell? ⟨g, t * 5 + 4, none⟩ = some (.int .i64 p.2) :=
  ⟨h t p hp 0 _ rfl, h t p hp 1 _ rfl, h t p hp 2 _ rfl, h t p hp 3 _ rfl, h t p hp 4 _ rfl⟩
theorem SlAt.one {w : World} {s ra rb : Nat} (h : SlAt w s ra rb) {a : Nat} (ha : a < 2) : w.cell? ⟨s, a, none⟩ = some (.pointer (some ⟨if a = 0 then ra else rb, 0, none⟩)) := by
  rcases (show a = 0 ∨ a = 1 by omega) with rfl | rfl
  · exact h.cells.1
  · exact h.cells.2
/-- Inside Load: its box for the header. -/
structure LdS (w0 w wr : World) (n size b : Nat) (st : Dv) (k : Dk) (D : List Nat) (W : List Wt) (X g : Nat) (L : List (Fm.Hd × Int)) : Prop where
  dev : Dev w0 wr n size b st k D W
  kept : Kept w wr (fun i => k.own i ∨ i = b)
  box : wr.heap[X]? = some (.cells (Fm.hdC hd0).toArray 25 (0, 0))
  row : 0 < L.length → CsAt wr g L
theorem box_fin {w3 w9 : World} {X : Nat} {st : Dv} {c : Array Value} {fr : Nat × Nat} (hd : Dev w0 w3 n size b st k D W) (hk : Kept w w3 (fun i => k.own i ∨ i = b)) (hb : w3.heap[X]? = some (.cells c 25 fr)) (hX : w.heap.size ≤ X) (hl : w0.heap.size ≤ X) (g : w3.grownBy w9 (some X)) : Dev w0 w9 n size b st k D W ∧ Kept w w9 (fun i => k.own i ∨ i = b) := by
  have hf := hd.far hb (by decide) (by decide) (by decide) (by decide)
  refine ⟨hd.row g ?_ hf.2 hl, hk.trans (Kept.of (S := fun j => j = X) g (fun j e _ => (Option.some.inj e).symm)) (fun j hj e => by omega)⟩
  rintro (e | ⟨x, hx, e⟩)
  · exact hf.1 e
  · have h3 := (hd.disk.disk.waits x hx).2.2.2
    rw [e, hb] at h3
    simp at h3
theorem CsAt.keptD {w w' : World} {g : Nat} {L : List (Fm.Hd × Int)} {S : Nat → Prop} (h : CsAt w g L) (hk : Kept w w' S) (hS : ¬ S g) : CsAt w' g L := fun j p hj i v hv => cell_kept hk (h j p hj i v hv) hS
set_option maxRecDepth 20000 in
set_option maxHeartbeats 8000000 in
theorem load_at (hl : SlAt w sl ra rb) (h : Dev w0 w n size b s k D W) (ha : RgAt w ra b Fa C) (hb : RgAt w rb b Fb C) (hFa : Fa + C ≤ n) (hFb : Fb + C ≤ n) (hC : 1 ≤ C) (hC2 : C ≤ 1000) (hs32 : 32 ≤ size) (hs : size ≤ 4096) (hcnt : s.cnt ≤ 80000) (hT : Fm.Cr.Tab w0) (hB : Bytes (now size D (abs W))) :
    Calls Tryz.prog 10 #[.pointer (some ⟨sl, 0, none⟩)] w fun e w' => ∃ v, e = .returned (.tuple #[Fm.hdV (ldA size C Fa Fb s D (abs W)).h, v, .int .i64 (ldA size C Fa Fb s D (abs W)).at_, .int .i64 (ldA size C Fa Fb s D (abs W)).code]) ∧ LdP w0 w w' n size b k D W (ldA size C Fa Fb s D (abs W)) v := by
  have g1 := World.grownBy_alloc w (.cells #[.int .u64 0, .int .u64 0, .int .i64 0, .int .u32 0] 25) none
  have bx : (w.alloc (.cells #[.int .u64 0, .int .u64 0, .int .i64 0, .int .u32 0] 25)).heap[w.heap.size]? = some (.cells (Fm.hdC hd0).toArray 25 (0, 0)) := heap_alloc_new w _
  generalize hw1 : w.alloc (.cells #[.int .u64 0, .int .u64 0, .int .i64 0, .int .u32 0] 25) = w1 at *
  have HN := hide (snone_at (hl.grown g1))
  have HCl := hide (claims_at (hl.grown g1) (h.then g1) (ha.grown g1) (hb.grown g1) hFa hFb hC (by omega) hs32 hs (by omega) hT hB)
  generalize hR : ldA size C Fa Fb s D (abs W) = R
  have HR := hide hR
  have HI := hide (And.intro hl (And.intro h (And.intro ha (And.intro hb (And.intro hT hB)))))
  have HG := hide (And.intro g1 (And.intro bx hw1))
  obtain ⟨e0, e1, e2, e3⟩ := Fm.box4 bx
  have f0 := free_row bx 0
  have f1 := free_row bx 1
  have f2 := free_row bx 2
  have f3 := free_row bx 3
  clear hl h ha hb hT hB hR g1 bx
  unfold Fm.hdV
  go_enter Tryz.func10, Tryz.ntmps10
  go_wp2_with fail
  clear hw1
  refine HN.out.mono ?_
  rintro e wx ⟨rfl, hwx⟩
  obtain rfl := hwx.symm
  go_wp2_with fail
  refine HCl.out.mono ?_
  clear HCl HN
  rintro e w2 hp
  have hoffX := new_off HI.out.2.1 (Nat.le_refl w.heap.size)
  have hlX : w0.heap.size ≤ w.heap.size := HI.out.2.1.disk.grown.size
  have hk1 : ∀ {w3 : World}, Kept w1 w3 (fun i => k.own i ∨ i = b) → Kept w w3 (fun i => k.own i ∨ i = b) := fun hk => (Kept.new HG.out.1 _).trans hk (fun _ _ e => e)
  have HK1 := hide (And.intro (@hk1) (And.intro hoffX hlX))
  clear hk1 hoffX hlX e0 e1 e2 e3 f0 f1 f2 f3
  obtain ⟨X, hX⟩ : ∃ X, X = w.heap.size := ⟨_, rfl⟩
  rw [← hX] at HG
  have HX := hide hX
  rcases hp with ⟨hz, rfl, hdev, hkept⟩ | ⟨hz1, hz2, rfl, hdev, hkept⟩ | ⟨hz1, hz2, hdev, hkept, so, cap, rfl, hrow⟩
  · have hRe : R = ⟨hd0, none, 0, (rgo 1 s).1, (rgo 1 s).2⟩ := by rw [← HR.out]; unfold ldA; rw [if_pos hz]
    subst hRe
    have hbx := hkept.at HG.out.2.1 (by rw [hX]; exact HK1.out.2.1)
    have HBX : Hid (w2.heap[X]? = some (.cells (Fm.hdC hd0).toArray 25 (0, 0)) ∧ Dev w0 w2 n size b (rgo 1 s).2 k D W ∧ Kept w w2 (fun i => k.own i ∨ i = b) ∧ w.heap.size ≤ X ∧ w0.heap.size ≤ X) := ⟨hbx, hdev, HK1.out.1 hkept, by omega, by rw [hX]; exact HK1.out.2.2⟩
    obtain ⟨e0, e1, e2, e3⟩ := Fm.box4 hbx
    have f0 := free_row hbx 0
    have f1 := free_row hbx 1
    have f2 := free_row hbx 2
    have f3 := free_row hbx 3
    unfold hd0 at e0 e1 e2 e3
    simp only at e0 e1 e2 e3
    have hne : ((rgo 1 s).1 != 0) = true := by simpa using hz
    rw [← HX.out]
    clear hbx hdev hkept HR hX
    go_wp2
    obtain ⟨eb, eg⟩ := Fm.set4 HBX.out.1 (.int .u64 0) (.int .u64 0) (.int .i64 0) (.int .u32 0)
    clear e0 e1 e2 e3 f0 f1 f2 f3
    obtain ⟨e0, e1, e2, e3⟩ := Fm.box4 eb
    have FIN := hide (And.intro (box_fin HBX.out.2.1 HBX.out.2.2.1 HBX.out.1 HBX.out.2.2.2.1 HBX.out.2.2.2.2 eg) eg)
    clear eb eg
    generalize ((((w2.setCell ⟨X, 0, none⟩ (.int .u64 0)).setCell ⟨X, 1, none⟩ (.int .u64 0)).setCell ⟨X, 2, none⟩ (.int .i64 0)).setCell ⟨X, 3, none⟩ (.int .u32 0)) = w9 at *
    refine bodyPost_ret (v := .tuple #[.agg #[.int .u64 0, .int .u64 0, .int .i64 0, .int .u32 0], .slice none 0 0, .int .i64 0, .int .i64 (rgo 1 s).1]) ?_ rfl ?_
    · rw [results_cell_tmp3 rfl]; go_simp
    exact ⟨_, rfl, FIN.out.1.1, FIN.out.1.2, fun _ => rfl, fun xs e => by cases e⟩
  · have hRe : R = ⟨hd0, none, 0, (rgo 1 (rgo 1 s).2).1, (rgo 1 (rgo 1 s).2).2⟩ := by rw [← HR.out]; unfold ldA; rw [if_neg (by simpa using hz1), if_pos hz2]
    subst hRe
    have hbx := hkept.at HG.out.2.1 (by rw [hX]; exact HK1.out.2.1)
    have HBX : Hid (w2.heap[X]? = some (.cells (Fm.hdC hd0).toArray 25 (0, 0)) ∧ Dev w0 w2 n size b (rgo 1 (rgo 1 s).2).2 k D W ∧ Kept w w2 (fun i => k.own i ∨ i = b) ∧ w.heap.size ≤ X ∧ w0.heap.size ≤ X) := ⟨hbx, hdev, HK1.out.1 hkept, by omega, by rw [hX]; exact HK1.out.2.2⟩
    obtain ⟨e0, e1, e2, e3⟩ := Fm.box4 hbx
    have f0 := free_row hbx 0
    have f1 := free_row hbx 1
    have f2 := free_row hbx 2
    have f3 := free_row hbx 3
    unfold hd0 at e0 e1 e2 e3
    simp only at e0 e1 e2 e3
    have hne : ((rgo 1 (rgo 1 s).2).1 != 0) = true := by simpa using hz2
    rw [← HX.out]
    clear hbx hdev hkept HR hX
    go_wp2
    obtain ⟨eb, eg⟩ := Fm.set4 HBX.out.1 (.int .u64 0) (.int .u64 0) (.int .i64 0) (.int .u32 0)
    clear e0 e1 e2 e3 f0 f1 f2 f3
    obtain ⟨e0, e1, e2, e3⟩ := Fm.box4 eb
    have FIN := hide (And.intro (box_fin HBX.out.2.1 HBX.out.2.2.1 HBX.out.1 HBX.out.2.2.2.1 HBX.out.2.2.2.2 eg) eg)
    clear eb eg
    generalize ((((w2.setCell ⟨X, 0, none⟩ (.int .u64 0)).setCell ⟨X, 1, none⟩ (.int .u64 0)).setCell ⟨X, 2, none⟩ (.int .i64 0)).setCell ⟨X, 3, none⟩ (.int .u32 0)) = w9 at *
    refine bodyPost_ret (v := .tuple #[.agg #[.int .u64 0, .int .u64 0, .int .i64 0, .int .u32 0], .slice none 0 0, .int .i64 0, .int .i64 (rgo 1 (rgo 1 s).2).1]) ?_ rfl ?_
    · rw [results_cell_tmp3 rfl]; go_simp
    exact ⟨_, rfl, FIN.out.1.1, FIN.out.1.2, fun _ => rfl, fun xs e => by cases e⟩
  · generalize hL : clm size C Fa Fb D (abs W) = L at *
    have hlen : (acc size C D (abs W) Fa 0 ++ acc size C D (abs W) Fb 1).length = L.length := by rw [← hL, clm_length]
    have hok : ∀ p ∈ L, ClOk size C p := by rw [← hL]; exact clm_ok
    have hl2 : L.length ≤ 2 := by rw [← hL]; exact clm_two _ _ _ _ _ _
    rw [show srt (acc size C D (abs W) Fa 0 ++ acc size C D (abs W) Fb 1) = L from hL] at hrow
    rw [hlen] at hrow ⊢
    have hRe : R = lgo size Fa Fb D (abs W) L (rgo 1 (rgo 1 s).2).2 := by
      rw [← HR.out]; unfold ldA; rw [if_neg (by simpa using hz1), if_neg (by simpa using hz2), hL]
    obtain ⟨g, hg⟩ : ∃ g, 0 < L.length → so = some ⟨g, 0, none⟩ ∧ w1.heap.size ≤ g ∧ CsAt w2 g L := by
      by_cases h0 : 0 < L.length
      · obtain ⟨g, h1⟩ := hrow h0
        exact ⟨g, fun _ => h1⟩
      · exact ⟨0, fun h => absurd h h0⟩
    have hgo : 0 < L.length → ¬ (k.own g ∨ g = b) := fun h0 => new_off (HI.out.2.1.then HG.out.1) (hg h0).2.1
    have hs1 := rgo_cntL 1 s
    have hs2 := rgo_cntL 1 (rgo 1 s).2
    have S0 : Hid (LdS w0 w w2 n size b (rgo 1 (rgo 1 s).2).2 k D W X g L) := ⟨hdev, HK1.out.1 hkept, hkept.at HG.out.2.1 (by rw [hX]; exact HK1.out.2.1), fun h0 => (hg h0).2.2⟩
    have hc0 : (rgo 1 (rgo 1 s).2).2.cnt ≤ s.cnt + 2 := by omega
    have HS := hide (And.intro hRe (And.intro hok (And.intro hgo hg)))
    rw [← HX.out]
    clear hdev hkept hrow hg hgo hok hRe hlen hL hz1 hz2 hs1 hs2 hX HR
    generalize (rgo 1 (rgo 1 s).2).2 = s2 at *
    obtain ⟨len, hlen⟩ : ∃ len, len = L.length := ⟨_, rfl⟩
    rw [← hlen] at hl2 ⊢
    have HLen := hide hlen
    clear hlen
    go_wp2
    go_loopg [27] len (fun q i wr => ∃ (t : Nat) (st : Dv), q + t = len ∧ i = .int .i64 (t : Int) ∧ st.cnt ≤ s.cnt + 2 + t * C ∧ Hid (R = lgo size Fa Fb D (abs W) (L.drop t) st ∧ LdS w0 w wr n size b st k D W X g L))
    case atStart => exact ⟨0, s2, by omega, rfl, by omega, HS.out.1, S0.out⟩
    case round =>
      obtain ⟨t, st, hqt, rfl, hct, HQ⟩ := hrel
      have hlenE := HLen.out
      obtain ⟨hQ1, hQ2⟩ := HQ.out
      have ht0 : (0 : Int) ≤ (t : Int) := by omega
      by_cases hq : 0 < gk
      · have htl : t < L.length := by omega
        have ht1 : (t : Int) < (len : Int) := by omega
        obtain ⟨p, hp⟩ : ∃ p, L[t]? = some p := ⟨_, List.getElem?_eq_getElem htl⟩
        have hpo := HS.out.2.1 p (List.mem_of_getElem? hp)
        obtain ⟨hso, hg1, _⟩ := HS.out.2.2.2 (by omega)
        have hgo := HS.out.2.2.1 (by omega)
        subst hso
        have hdrop : L.drop t = p :: L.drop (t + 1) := by
          rw [List.drop_eq_getElem_cons htl]
          rw [List.getElem?_eq_getElem htl] at hp
          rw [Option.some.inj hp]
        rw [hdrop] at hQ1
        obtain ⟨a, ha, ha2⟩ : ∃ a : Nat, p.2 = (a : Int) ∧ a < 2 := by
          rcases hpo.at_ with e | e
          · exact ⟨0, e, by omega⟩
          · exact ⟨1, e, by omega⟩
        obtain ⟨m, hm⟩ : ∃ m : Nat, p.1.n = (m : Int) := ⟨p.1.n.toNat, by have := hpo.n0; omega⟩
        obtain ⟨c0, c1, c2, c3, c4⟩ := cs_cells (hQ2.row (by omega)) hp
        rw [ha] at c4
        rw [hm] at c2
        have gY := World.grownBy_alloc wr (.cells #[.int .u64 p.1.g, .int .u64 p.1.c, .int .i64 (m : Int), .int .u32 p.1.s, .int .i64 (a : Int)] 87) none
        have bY : (wr.alloc (.cells #[.int .u64 p.1.g, .int .u64 p.1.c, .int .i64 (m : Int), .int .u32 p.1.s, .int .i64 (a : Int)] 87)).heap[wr.heap.size]? = some (.cells [Value.int .u64 p.1.g, .int .u64 p.1.c, .int .i64 (m : Int), .int .u32 p.1.s, .int .i64 (a : Int)].toArray 87 (0, 0)) := heap_alloc_new wr _
        generalize hwY : wr.alloc (.cells #[.int .u64 p.1.g, .int .u64 p.1.c, .int .i64 (m : Int), .int .u32 p.1.s, .int .i64 (a : Int)] 87) = wY at *
        obtain ⟨Y, hY⟩ : ∃ Y, Y = wr.heap.size := ⟨_, rfl⟩
        rw [← hY] at bY
        obtain ⟨hl, hdv, hra, hrb, hT, hB⟩ := HI.out
        have hrr : RgAt wr (if a = 0 then ra else rb) b (fOf Fa Fb p.2) C := by
          unfold fOf
          rw [ha]
          rcases (show a = 0 ∨ a = 1 by omega) with rfl | rfl
          · exact hra.keptD hdv hQ2.kept
          · exact hrb.keptD hdv hQ2.kept
        have hFr : fOf Fa Fb p.2 + C ≤ n := by unfold fOf; split <;> assumption
        have hslr := hl.keptD hdv hQ2.kept
        have hsloff : ¬ (k.own sl ∨ sl = b) := by
          have := hdv.far hl.head (by decide) (by decide) (by decide) (by decide)
          rintro (e | e)
          · exact this.1 e
          · exact this.2 e
        have hYoff : ¬ (k.own Y ∨ Y = b) := new_off hQ2.dev (by omega)
        have hxs : bytesAt (now size D (abs W)) (fOf Fa Fb p.2 * size + size) m = bodyOf size Fa Fb D (abs W) p := by
          unfold bodyOf; rw [hm]; rfl
        have hmn : p.1.n.toNat = m := by rw [hm]; rfl
        have hfitN : m ≤ (C - 1) * size := by have := hpo.fit; omega
        have hfit : size + m ≤ C * size := by
          obtain ⟨c, rfl⟩ : ∃ c, C = c + 1 := ⟨C - 1, by omega⟩
          rw [Nat.add_mul]; simp at hfitN ⊢; omega
        have hpcn := pcn_body (size := size) (by omega) hfitN
        have htC : t * C ≤ 1 * C := Nat.mul_le_mul_right _ (by omega)
        have HBd : Hid (∀ w3 : World, wY.grownBy w3 none → Calls Tryz.prog 31 #[.agg #[.pointer (some ⟨if a = 0 then ra else rb, 0, none⟩)], .agg #[.int .u64 p.1.g, .int .u64 p.1.c, .int .i64 (m : Int), .int .u32 p.1.s]] w3 fun e w' => ∃ v c, e = .returned (.tuple #[v, .bool (decide (c = 0 ∧ sumN (bodyOf size Fa Fb D (abs W) p) = p.1.s)), .int .i64 c]) ∧ ReadP w0 w3 w' n size b st k D W m (pcn size size m) (bodyOf size Fa Fb D (abs W) p) v c) := by
          intro w3 hg3
          have q := body_at ((hQ2.dev.then gY).then hg3) ((hrr.grown gY).grown hg3) hFr p.1 m hm hfit (by omega) hT (by have := hpo.n1; omega) (by rw [hxs]; exact fun x hx => hB x (List.mem_of_mem_drop (List.mem_of_mem_take hx)))
          rw [hxs] at q
          unfold rp Fm.hdV at q
          rw [hm] at q
          exact q
        have hS0 : ∀ w3 : World, Kept wY w3 (fun i => k.own i ∨ i = b) → w3.cell? ⟨Y, 0, none⟩ = some (.int .u64 p.1.g) ∧ w3.cell? ⟨Y, 1, none⟩ = some (.int .u64 p.1.c) ∧ w3.cell? ⟨Y, 2, none⟩ = some (.int .i64 (m : Int)) ∧ w3.cell? ⟨Y, 3, none⟩ = some (.int .u32 p.1.s) ∧ w3.cell? ⟨Y, 4, none⟩ = some (.int .i64 (a : Int)) ∧ w3.cell? ⟨sl, a, none⟩ = some (.pointer (some ⟨if a = 0 then ra else rb, 0, none⟩)) := by
          intro w3 hk3
          refine ⟨cell_kept hk3 (cell_row bY 0) hYoff, cell_kept hk3 (cell_row bY 1) hYoff, cell_kept hk3 (cell_row bY 2) hYoff, cell_kept hk3 (cell_row bY 3) hYoff, cell_kept hk3 (cell_row bY 4) hYoff, cell_kept hk3 ((hslr.grown gY).one ha2) hsloff⟩
        have HS0 := hide hS0
        have hKw : ∀ {w3 : World}, Kept wY w3 (fun i => k.own i ∨ i = b) → Kept w w3 (fun i => k.own i ∨ i = b) ∧ w3.heap[X]? = some (.cells (Fm.hdC hd0).toArray 25 (0, 0)) ∧ CsAt w3 g L := by
          intro w3 hk3
          have k9 : Kept wr w3 (fun i => k.own i ∨ i = b) := (Kept.new gY _).trans hk3 (fun _ _ e => e)
          have hXo : ¬ (k.own X ∨ X = b) := by rw [HX.out]; exact HK1.out.2.1
          exact ⟨hQ2.kept.trans k9 (fun _ _ e => e), k9.at hQ2.box hXo, (hQ2.row (by omega)).keptD k9 hgo⟩
        have HKw := hide (And.intro (@hKw) (And.intro (show w.heap.size ≤ wY.heap.size from Nat.le_trans hQ2.kept.size gY.size) (And.intro ha hm)))
        obtain ⟨u0, u1, u2, u3, u4, u5⟩ := hS0 wY (Kept.refl _ _)
        have HQ1 := hide (And.intro hQ1 (And.intro hmn hpcn))
        have ha0 : (0 : Int) ≤ (a : Int) := by omega
        have ha3 : (a : Int) < 2 := by omega
        have hY2 := hY.symm
        generalize (if a = 0 then ra else rb) = r at *
        clear hS0 hKw hrr hFr hslr hsloff hYoff hxs hfitN hfit bY hl hdv hra hrb hT hB hQ1 hQ2 HQ hpo hgo hg1 hdrop gY hY hm ha hmn hpcn htC hlenE
        go_wp2_with fail
        clear hY2 hwY c0 c1 c2 c3 c4
        go_region_held3 (fun w3 => w3.cell? ⟨Y, 0, none⟩ = some (.int .u64 p.1.g) ∧ w3.cell? ⟨Y, 1, none⟩ = some (.int .u64 p.1.c) ∧ w3.cell? ⟨Y, 2, none⟩ = some (.int .i64 (m : Int)) ∧ w3.cell? ⟨Y, 3, none⟩ = some (.int .u32 p.1.s) ∧ w3.cell? ⟨Y, 4, none⟩ = some (.int .i64 (a : Int)) ∧ w3.cell? ⟨sl, a, none⟩ = some (.pointer (some ⟨r, 0, none⟩))) (first | exact ⟨u0, u1, u2, u3, u4, u5⟩ | assumption | exact HS0.out _ (Kept.new (grown_drew wY none) _)) ((go_at_call 31; refine (HBd.out _ (grown_drew wY none)).mono ?_; rintro e4 w4 ⟨v4, c4, rfl, p4⟩; have hk4 := HS0.out _ ((Kept.new (grown_drew wY none) _).trans p4.kept (fun i _ e => e)); have P4 := hide (ReadP.pre (grown_drew wY none) p4); clear p4))
        obtain ⟨u0', u1', u2', u3', u4', u5'⟩ := hk4
        clear u0 u1 u2 u3 u4 u5 HBd HS0
        obtain ⟨hR1, hmn, hpcn⟩ := HQ1.out
        have hcode := P4.out.code
        obtain ⟨hk4w, hbx4, hcs4⟩ := HKw.out.1 P4.out.kept
        have HBX : Hid (w4.heap[X]? = some (.cells (Fm.hdC hd0).toArray 25 (0, 0)) ∧ Dev w0 w4 n size b (rgo (pcn size size m) st).2 k D W ∧ Kept w w4 (fun i => k.own i ∨ i = b) ∧ w.heap.size ≤ X ∧ w0.heap.size ≤ X) := ⟨hbx4, P4.out.dev, hk4w, by rw [HX.out]; exact Nat.le_refl _, by rw [HX.out]; exact HK1.out.2.2⟩
        have HCS := hide hcs4
        have hct2 := rgo_cntL (pcn size size m) st
        unfold lgo at hR1
        rw [hmn, ← hcode] at hR1
        clear hk4w hbx4 hcs4 hmn
        by_cases hc : c4 = 0
        · subst hc
          rw [if_neg (by simp)] at hR1
          by_cases hsum : sumN (bodyOf size Fa Fb D (abs W) p) = p.1.s
          · rw [if_pos hsum] at hR1
            obtain ⟨gv, hv, hgv, hbv, hlv⟩ := P4.out.ok rfl
            subst hv
            have hdt : (decide ((0 : Int) = 0) && decide (sumN (bodyOf size Fa Fb D (abs W) p) = p.1.s)) = true := by simp [hsum]
            have HV := hide (And.intro hR1 (And.intro hgv (And.intro hbv hlv)))
            have hwYs := HKw.out.2.1
            have haE := HKw.out.2.2.1
            have hmE := HKw.out.2.2.2
            have HE := hide (And.intro hwYs (And.intro haE hmE))
            obtain ⟨e0, e1, e2, e3⟩ := Fm.box4 HBX.out.1
            have f0 := free_row HBX.out.1 0
            have f1 := free_row HBX.out.1 1
            have f2 := free_row HBX.out.1 2
            have f3 := free_row HBX.out.1 3
            unfold hd0 at e0 e1 e2 e3
            simp only at e0 e1 e2 e3
            rw [hdt]
            clear hsum hR1 hgv hbv hlv hdt hct2 hpcn hcode HQ1 HKw hwYs haE hmE
            go_wp2
            go_region
            go_wp2
            obtain ⟨eb, eg⟩ := Fm.set4 HBX.out.1 (.int .u64 p.1.g) (.int .u64 p.1.c) (.int .i64 (m : Int)) (.int .u32 p.1.s)
            clear e0 e1 e2 e3 f0 f1 f2 f3
            have eb := (show ((((w4.setCell ⟨X, 0, none⟩ (.int .u64 p.1.g)).setCell ⟨X, 1, none⟩ (.int .u64 p.1.c)).setCell ⟨X, 2, none⟩ (.int .i64 (m : Int))).setCell ⟨X, 3, none⟩ (.int .u32 p.1.s)).drew.heap[X]? = _ from eb)
            have eg := grown_trans eg (grown_drew ((((w4.setCell ⟨X, 0, none⟩ (.int .u64 p.1.g)).setCell ⟨X, 1, none⟩ (.int .u64 p.1.c)).setCell ⟨X, 2, none⟩ (.int .i64 (m : Int))).setCell ⟨X, 3, none⟩ (.int .u32 p.1.s)) (some X))
            obtain ⟨e0, e1, e2, e3⟩ := Fm.box4 eb
            have FIN := hide (And.intro (box_fin HBX.out.2.1 HBX.out.2.2.1 HBX.out.1 HBX.out.2.2.2.1 HBX.out.2.2.2.2 eg) eg)
            clear eb eg
            generalize ((((w4.setCell ⟨X, 0, none⟩ (.int .u64 p.1.g)).setCell ⟨X, 1, none⟩ (.int .u64 p.1.c)).setCell ⟨X, 2, none⟩ (.int .i64 (m : Int))).setCell ⟨X, 3, none⟩ (.int .u32 p.1.s)).drew = w9 at *
            refine bodyPost_ret (v := .tuple #[.agg #[.int .u64 p.1.g, .int .u64 p.1.c, .int .i64 (m : Int), .int .u32 p.1.s], .slice (some ⟨gv, 0, none⟩) m m, .int .i64 (a : Int), .int .i64 0]) ?_ rfl ?_
            · rw [results_cell_tmp3 rfl]; go_simp
            have hRe := HV.out.1
            subst hRe
            refine ⟨.slice (some ⟨gv, 0, none⟩) m m, ?_, FIN.out.1.1, FIN.out.1.2, (fun e => by cases e), ?_⟩
            · rw [HE.out.2.1, HE.out.2.2]
            · intro xs e
              cases e
              refine ⟨gv, by rw [HV.out.2.2.2], Nat.le_trans HE.out.1 HV.out.2.1, ?_⟩
              exact (FIN.out.2.block gv (row_lt HV.out.2.2.1) (by intro e; cases e; have := HV.out.2.2.1; rw [HBX.out.1] at this; simp at this)).trans HV.out.2.2.1
          · rw [if_neg hsum] at hR1
            have hdt : (decide ((0 : Int) = 0) && decide (sumN (bodyOf size Fa Fb D (abs W) p) = p.1.s)) = false := by simp [hsum]
            have HV := hide (And.intro hR1 (show (rgo (pcn size size m) st).2.cnt ≤ s.cnt + 2 + (t + 1) * C by rw [Nat.add_mul]; omega))
            rw [hdt]
            clear hsum hR1 hdt hct2 hpcn hcode HQ1
            go_wp2
            go_roundg (gk - 1)
            case measure => omega
            case rel => exact ⟨t + 1, (rgo (pcn size size m) st).2, by omega, by go_num, HV.out.2, HV.out.1, HBX.out.2.1, HBX.out.2.2.1, HBX.out.1, fun _ => HCS.out⟩
        · rw [if_pos hc] at hR1
          have hv := P4.out.no hc
          subst hv
          have hne : (c4 != 0) = true := by simpa using hc
          have HV := hide hR1
          have hdt : (decide (c4 = 0) && decide (sumN (bodyOf size Fa Fb D (abs W) p) = p.1.s)) = false := by simp [hc]
          obtain ⟨e0, e1, e2, e3⟩ := Fm.box4 HBX.out.1
          have f0 := free_row HBX.out.1 0
          have f1 := free_row HBX.out.1 1
          have f2 := free_row HBX.out.1 2
          have f3 := free_row HBX.out.1 3
          unfold hd0 at e0 e1 e2 e3
          simp only at e0 e1 e2 e3
          rw [hdt]
          clear hR1 hdt hct2 hpcn hcode HQ1
          go_wp2
          obtain ⟨eb, eg⟩ := Fm.set4 HBX.out.1 (.int .u64 0) (.int .u64 0) (.int .i64 0) (.int .u32 0)
          clear e0 e1 e2 e3 f0 f1 f2 f3
          obtain ⟨e0, e1, e2, e3⟩ := Fm.box4 eb
          have FIN := hide (And.intro (box_fin HBX.out.2.1 HBX.out.2.2.1 HBX.out.1 HBX.out.2.2.2.1 HBX.out.2.2.2.2 eg) eg)
          clear eb eg
          generalize ((((w4.setCell ⟨X, 0, none⟩ (.int .u64 0)).setCell ⟨X, 1, none⟩ (.int .u64 0)).setCell ⟨X, 2, none⟩ (.int .i64 0)).setCell ⟨X, 3, none⟩ (.int .u32 0)) = w9 at *
          refine bodyPost_ret (v := .tuple #[.agg #[.int .u64 0, .int .u64 0, .int .i64 0, .int .u32 0], .slice none 0 0, .int .i64 0, .int .i64 c4]) ?_ rfl ?_
          · rw [results_cell_tmp3 rfl]; go_simp
          have hRe := HV.out
          subst hRe
          exact ⟨_, rfl, FIN.out.1.1, FIN.out.1.2, fun _ => rfl, fun xs e => by cases e⟩
      · have ht : t = L.length := by omega
        rw [List.drop_of_length_le (by omega)] at hQ1
        have HBX : Hid (wr.heap[X]? = some (.cells (Fm.hdC hd0).toArray 25 (0, 0)) ∧ Dev w0 wr n size b st k D W ∧ Kept w wr (fun i => k.own i ∨ i = b) ∧ w.heap.size ≤ X ∧ w0.heap.size ≤ X) := ⟨hQ2.box, hQ2.dev, hQ2.kept, by rw [HX.out]; exact Nat.le_refl _, by rw [HX.out]; exact HK1.out.2.2⟩
        have HV := hide hQ1
        have ht2 : ¬ (t : Int) < (len : Int) := by omega
        obtain ⟨e0, e1, e2, e3⟩ := Fm.box4 HBX.out.1
        have f0 := free_row HBX.out.1 0
        have f1 := free_row HBX.out.1 1
        have f2 := free_row HBX.out.1 2
        have f3 := free_row HBX.out.1 3
        unfold hd0 at e0 e1 e2 e3
        simp only at e0 e1 e2 e3
        clear hQ1 hQ2 ht hlenE HQ
        go_wp2
        obtain ⟨eb, eg⟩ := Fm.set4 HBX.out.1 (.int .u64 0) (.int .u64 0) (.int .i64 0) (.int .u32 0)
        clear e0 e1 e2 e3 f0 f1 f2 f3
        obtain ⟨e0, e1, e2, e3⟩ := Fm.box4 eb
        have FIN := hide (And.intro (box_fin HBX.out.2.1 HBX.out.2.2.1 HBX.out.1 HBX.out.2.2.2.1 HBX.out.2.2.2.2 eg) eg)
        clear eb eg
        generalize ((((wr.setCell ⟨X, 0, none⟩ (.int .u64 0)).setCell ⟨X, 1, none⟩ (.int .u64 0)).setCell ⟨X, 2, none⟩ (.int .i64 0)).setCell ⟨X, 3, none⟩ (.int .u32 0)) = w9 at *
        refine bodyPost_ret (v := .tuple #[.agg #[.int .u64 0, .int .u64 0, .int .i64 0, .int .u32 0], .slice none 0 0, .int .i64 (-1), .int .i64 0]) ?_ rfl ?_
        · rw [results_cell_tmp3 rfl]; go_simp
        have hRe := HV.out
        unfold lgo at hRe
        subst hRe
        exact ⟨_, rfl, FIN.out.1.1, FIN.out.1.2, fun _ => rfl, fun xs e => by cases e⟩
end
end Go.Proofs.YtonokaelbpfjnabGreatDoor
/- What Save comes to: numbers alone. -/
namespace Go.Proofs.YtonokaelbpfjnabGreatDoor
open Go.RowKit Ap

theorem byt_take {xs : List Int} (h : Fm.Byt xs) (n : Nat) : Fm.Byt (xs.take n) := fun x hx => h x (List.mem_of_mem_take hx)
theorem byt_drop {xs : List Int} (h : Fm.Byt xs) (n : Nat) : Fm.Byt (xs.drop n) := fun x hx => h x (List.mem_of_mem_drop hx)
theorem leV_lt {xs : List Int} (h : Fm.Byt xs) (n : Nat) (hn : xs.length ≤ n) : 0 ≤ Fm.leV xs ∧ Fm.leV xs < 2 ^ (8 * n) := by
  have h1 := Fm.leV_bound xs h
  refine ⟨h1.1, Int.lt_of_lt_of_le h1.2 ?_⟩
  have : (2 : Nat) ^ (8 * xs.length) ≤ 2 ^ (8 * n) := Nat.pow_le_pow_right (by decide) (by omega)
  exact_mod_cast this
theorem zHd_ok : (⟨0, 0, 0, 0⟩ : Fm.Hd).Ok := ⟨by decide, by decide, by decide, by decide, by decide, by decide, by decide, by decide⟩
theorem hdOf_ok {E : List Int} (h : Fm.Byt E) : (Fm.hdOf E).Ok := by
  have b1 := leV_lt (xs := (E.drop 4).take 8) (byt_take (byt_drop h 4) 8) 8 (by simp; omega)
  have b2 := leV_lt (xs := ((E.drop 4).drop 8).take 8) (byt_take (byt_drop (byt_drop h 4) 8) 8) 8 (by simp; omega)
  have b3 := leV_lt (xs := (((E.drop 4).drop 8).drop 8).take 4) (byt_take (byt_drop (byt_drop (byt_drop h 4) 8) 8) 4) 4 (by simp; omega)
  have b4 := leV_lt (xs := ((((E.drop 4).drop 8).drop 8).drop 4).take 4) (byt_take (byt_drop (byt_drop (byt_drop (byt_drop h 4) 8) 8) 4) 4) 4 (by simp; omega)
  simp only [Nat.reduceMul, Int.reducePow] at b1 b2 b3 b4
  exact ⟨b1.1, b1.2, b2.1, b2.2, by show _ ≤ Fm.leV _; omega, by show Fm.leV _ ≤ _; omega, b4.1, b4.2⟩
theorem readH_ok {xs : List Int} (h : Fm.Byt xs) : (Fm.readH xs).1.Ok := by
  unfold Fm.readH
  split
  · exact zHd_ok
  · split
    · split
      · exact hdOf_ok (byt_take h 32)
      · exact zHd_ok
    · exact zHd_ok
theorem bytesAt_bytes {A : List Nat} (h : Bytes A) (o m : Nat) : Bytes (bytesAt A o m) := fun x hx => h x (List.mem_of_mem_drop (List.mem_of_mem_take hx))
theorem acc_hok {size C : Nat} {D : List Nat} {A : List Pr} {F : Nat} {a : Int} (hB : Bytes (now size D A)) : ∀ p ∈ acc size C D A F a, p.1.Ok := by
  intro p hp
  unfold acc at hp
  split at hp
  · simp at hp
    subst hp
    exact readH_ok (intz_byt (bytesAt_bytes hB _ _))
  · simp at hp
theorem clm_hok {size C Fa Fb : Nat} {D : List Nat} {A : List Pr} (hB : Bytes (now size D A)) : ∀ p ∈ clm size C Fa Fb D A, p.1.Ok := by
  intro p hp
  rcases List.mem_append.1 (srt_mem hp) with h | h
  · exact acc_hok hB p h
  · exact acc_hok hB p h
theorem lgo_hok {size Fa Fb : Nat} {D : List Nat} {A : List Pr} : ∀ (L : List (Fm.Hd × Int)) (s : Dv), (∀ p ∈ L, p.1.Ok ∧ (p.2 = 0 ∨ p.2 = 1)) → (lgo size Fa Fb D A L s).h.Ok ∧ ((lgo size Fa Fb D A L s).at_ = 0 ∨ (lgo size Fa Fb D A L s).at_ = 1 ∨ (lgo size Fa Fb D A L s).at_ = -1)
  | [], s, _ => ⟨zHd_ok, .inr (.inr rfl)⟩
  | p :: r, s, h => by
    unfold lgo
    split
    · exact ⟨zHd_ok, .inl rfl⟩
    · split
      · exact ⟨(h p (by simp)).1, (h p (by simp)).2.elim .inl (fun e => .inr (.inl e))⟩
      · exact lgo_hok r _ (fun q hq => h q (by simp [hq]))
theorem ldA_hok {size C Fa Fb : Nat} {s : Dv} {D : List Nat} {A : List Pr} (hB : Bytes (now size D A)) : (ldA size C Fa Fb s D A).h.Ok ∧ ((ldA size C Fa Fb s D A).at_ = 0 ∨ (ldA size C Fa Fb s D A).at_ = 1 ∨ (ldA size C Fa Fb s D A).at_ = -1) := by
  unfold ldA
  split
  · exact ⟨zHd_ok, .inl rfl⟩
  · split
    · exact ⟨zHd_ok, .inl rfl⟩
    · exact lgo_hok _ _ (fun p hp => ⟨clm_hok hB p hp, (clm_ok p hp).at_⟩)
theorem lgo_cnt {size C Fa Fb : Nat} {D : List Nat} {A : List Pr} (hs : 1 ≤ size) : ∀ (L : List (Fm.Hd × Int)) (s : Dv), (∀ p ∈ L, ClOk size C p) → (lgo size Fa Fb D A L s).s.cnt ≤ s.cnt + L.length * C
  | [], s, _ => by simp [lgo]
  | p :: r, s, h => by
    have ho := h p (by simp)
    have h1 := rgo_cntL (pcn size size p.1.n.toNat) s
    have h2 := pcn_body (size := size) (C := C) (m := p.1.n.toNat) hs (by have := ho.fit; have := ho.n0; omega)
    have h3 := lgo_cnt (Fa := Fa) (Fb := Fb) (D := D) (A := A) hs r (rgo (pcn size size p.1.n.toNat) s).2 (fun q hq => h q (by simp [hq]))
    have e : (p :: r).length * C = r.length * C + C := by rw [List.length_cons, Nat.add_mul, Nat.one_mul]
    rw [e]
    unfold lgo
    split
    · simp only; omega
    · split
      · simp only; omega
      · omega
theorem ldA_cnt {size C Fa Fb : Nat} {s : Dv} {D : List Nat} {A : List Pr} (hs : 1 ≤ size) : (ldA size C Fa Fb s D A).s.cnt ≤ s.cnt + 2 + 2 * C := by
  have h1 := rgo_cntL 1 s
  have h2 := rgo_cntL 1 (rgo 1 s).2
  have h3 := lgo_cnt (C := C) (Fa := Fa) (Fb := Fb) (D := D) (A := A) hs (clm size C Fa Fb D A) (rgo 1 (rgo 1 s).2).2 clm_ok
  have h4 : (clm size C Fa Fb D A).length * C ≤ 2 * C := Nat.mul_le_mul_right _ (clm_two _ _ _ _ _ _)
  unfold ldA
  split
  · simp only; omega
  · split
    · simp only; omega
    · omega
/-- What Save comes to. -/
structure Sv where
  code : Int
  h : Fm.Hd
  o : Dv × List Nat × List Pr
/-- The next header. -/
def nxH (h : Fm.Hd) (cov : Int) (xs : List Nat) : Fm.Hd := ⟨h.g + 1, cov, (xs.length : Int), sumN xs⟩
def svA (size C Fa Fb : Nat) (cov : Int) (xs : List Nat) (s : Dv) (D : List Nat) (A : List Pr) : Sv :=
  if (C - 1) * size < xs.length then ⟨3, hd0, s, D, A⟩
  else if (ldA size C Fa Fb s D A).code ≠ 0 then ⟨(ldA size C Fa Fb s D A).code, hd0, (ldA size C Fa Fb s D A).s, D, A⟩
  else if (ldA size C Fa Fb s D A).h.g = 18446744073709551615 then ⟨6, hd0, (ldA size C Fa Fb s D A).s, D, A⟩
  else if (puA size (if (ldA size C Fa Fb s D A).at_ = 0 then Fb else Fa) (nxH (ldA size C Fa Fb s D A).h cov xs) xs (ldA size C Fa Fb s D A).s D A).1 ≠ 0 then
    ⟨(puA size (if (ldA size C Fa Fb s D A).at_ = 0 then Fb else Fa) (nxH (ldA size C Fa Fb s D A).h cov xs) xs (ldA size C Fa Fb s D A).s D A).1, hd0, (puA size (if (ldA size C Fa Fb s D A).at_ = 0 then Fb else Fa) (nxH (ldA size C Fa Fb s D A).h cov xs) xs (ldA size C Fa Fb s D A).s D A).2⟩
  else ⟨0, nxH (ldA size C Fa Fb s D A).h cov xs, (puA size (if (ldA size C Fa Fb s D A).at_ = 0 then Fb else Fa) (nxH (ldA size C Fa Fb s D A).h cov xs) xs (ldA size C Fa Fb s D A).s D A).2⟩
theorem sumN_lt {xs : List Nat} (h : Bytes xs) : 0 ≤ sumN xs ∧ sumN xs < 4294967296 := by
  have := Fm.Cr.Poly.more_lt (s := 0) xs (by decide) h
  unfold sumN
  omega
theorem nxH_ok {h : Fm.Hd} {cov : Int} {xs : List Nat} (ho : h.Ok) (hg : h.g ≠ 18446744073709551615) (hc0 : 0 ≤ cov) (hc1 : cov < 18446744073709551616) (hx : Bytes xs) (hl : xs.length ≤ 67108864) : (nxH h cov xs).Ok ∧ (nxH h cov xs).May := by
  have h1 := sumN_lt hx
  have h2 := ho.g0
  have h3 := ho.g1
  refine ⟨⟨?_, ?_, hc0, hc1, ?_, ?_, h1.1, h1.2⟩, ?_, ?_, ?_⟩ <;> simp only [nxH] <;> omega
end Go.Proofs.YtonokaelbpfjnabGreatDoor
/- Slots over a device that is not armed: one row of bytes, numbers alone. -/
namespace Go.Proofs.YtonokaelbpfjnabGreatDoor
open Go.RowKit Ap

theorem stA_free {n size F a c : Nat} {xs : List Nat} {D : List Nat} {A : List Pr} (hs : 0 < size) (hA : (now size D A).length = n * size) (hfit : F * size + a + xs.length ≤ n * size) :
    ∃ c', c' ≤ c + 2 * pcn size a xs.length + 1 ∧ stA size F a xs (frD c) D A = (0, frD c', splice (now size D A) (F * size + a) xs, []) := by
  refine ⟨c + cst (full size a xs.length) (pcn size a xs.length) 0 + 1, ?_, ?_⟩
  · have := cst_le (full size a xs.length) (pcn size a xs.length) 0
    omega
  · unfold stA
    simp only
    rw [wgo_free]
    simp only [if_true, frD_goes, frD_next]
    have h1 := now_all (F := F) (at_ := a) (b := xs) hs hA hfit
    unfold now at h1
    unfold syncA
    simp only
    rw [show (stlP size (fun _ => size) D A A.length) = now size D A from rfl] at h1
    rw [h1]
theorem splice_len {A xs : List Nat} {o : Nat} (h : o + xs.length ≤ A.length) : (splice A o xs).length = A.length := by
  simp only [splice, List.length_append, List.length_take, List.length_drop]; omega
theorem puA_free {n size F c : Nat} {hd : Fm.Hd} {xs : List Nat} {D : List Nat} {A : List Pr} (hs : 32 ≤ size) (hA : (now size D A).length = n * size) (hfit : F * size + size + xs.length ≤ n * size) :
    ∃ c', c' ≤ c + 2 * pcn size size xs.length + 4 ∧ puA size F hd xs (frD c) D A = (0, frD c', splice (splice (now size D A) (F * size + size) xs) (F * size) (sect size hd), []) := by
  obtain ⟨c1, h1, e1⟩ := stA_free (c := c) (show 0 < size by omega) hA hfit
  have hl := splice_len (A := now size D A) (xs := xs) (o := F * size + size) (by rw [hA]; exact hfit)
  obtain ⟨c2, h2, e2⟩ := stA_free (n := n) (size := size) (F := F) (a := 0) (c := c1) (xs := sect size hd) (D := splice (now size D A) (F * size + size) xs) (A := []) (by omega) (by rw [now_nil, hl, hA]) (by rw [sect_length size hd hs]; omega)
  rw [sect_length size hd hs, pcn_one size (by omega)] at h2
  refine ⟨c2, by omega, ?_⟩
  unfold puA
  rw [e1]
  simp only [if_true]
  rw [e2, now_nil, Nat.add_zero]
/-- A slot holds a body, and its header. -/
structure Holds (T : List Nat) (size F : Nat) (hd : Fm.Hd) (xs : List Nat) : Prop where
  ok : hd.Ok
  may : hd.May
  n : hd.n = (xs.length : Int)
  s : sumN xs = hd.s
  head : bytesAt T (F * size) size = sect size hd
  body : bytesAt T (F * size + size) xs.length = xs
/-- A slot's first sector is no header. -/
def Blank (T : List Nat) (size F : Nat) : Prop := (Fm.readH (intz (bytesAt T (F * size) size))).2 ≠ 0
theorem sect_read {size : Nat} {hd : Fm.Hd} (_hs : 32 ≤ size) (ho : hd.Ok) (hm : hd.May) : Fm.readH (intz (sect size hd)) = (hd, 0) := by
  have e : intz (sect size hd) = hd.out ++ intz (zs (size - 32)) := by
    unfold sect
    have hl : (Fm.nats hd.out).length = 32 := by rw [Fm.nats_length, hd.out_length]
    have e1 : splice (zs size) 0 (Fm.nats hd.out) = Fm.nats hd.out ++ zs (size - 32) := by
      simp only [splice, List.take_zero, List.nil_append, hl, zs, List.drop_replicate, Nat.zero_add]
    rw [e1]
    unfold intz
    rw [List.map_append]
    congr 1
    unfold Fm.nats
    rw [List.map_map]
    conv => rhs; rw [← List.map_id hd.out]
    apply List.map_congr_left
    intro x hx
    have := hd.out_byt x hx
    simp; omega
  rw [e]
  exact Fm.readH_out hd ho hm _
theorem acc_holds {size C F : Nat} {D : List Nat} {A : List Pr} {a : Int} {hd : Fm.Hd} {xs : List Nat} (hs : 32 ≤ size) (h : Holds (now size D A) size F hd xs) (hl : xs.length ≤ (C - 1) * size) : acc size C D A F a = [(hd, a)] := by
  have e : hx size D A F = (hd, 0) := by unfold hx; rw [Nat.add_zero, h.head]; exact sect_read hs h.ok h.may
  unfold acc
  rw [e]
  rw [if_pos ⟨rfl, by show hd.n ≤ _; rw [h.n]; exact_mod_cast hl⟩]
theorem acc_blank {size C F : Nat} {D : List Nat} {A : List Pr} {a : Int} (h : Blank (now size D A) size F) : acc size C D A F a = [] := by
  unfold acc hx
  rw [Nat.add_zero, if_neg (fun e => h e.1)]
theorem ldA_free (size C Fa Fb c : Nat) (D : List Nat) (A : List Pr) : ldA size C Fa Fb (frD c) D A = lgo size Fa Fb D A (clm size C Fa Fb D A) (frD (c + 2)) := by
  unfold ldA
  rw [rgo_free]
  simp only [rgo_free]
  rfl
theorem lgo_first {size Fa Fb c : Nat} {D : List Nat} {A : List Pr} {hd : Fm.Hd} {a : Int} {xs : List Nat} (r : List (Fm.Hd × Int)) (h : Holds (now size D A) size (fOf Fa Fb a) hd xs) : lgo size Fa Fb D A ((hd, a) :: r) (frD c) = ⟨hd, some xs, a, 0, frD (c + pcn size size xs.length)⟩ := by
  have hn : hd.n.toNat = xs.length := by rw [h.n]; rfl
  have hb : bodyOf size Fa Fb D A (hd, a) = xs := by unfold bodyOf; rw [hn]; exact h.body
  unfold lgo
  simp only
  rw [hn, rgo_free, hb]
  rw [if_neg (by simp), if_pos h.s]
/-- What Load finds. -/
structure Found (T : List Nat) (size Fa Fb C : Nat) (R : Fm.Hd × Option (List Nat) × Int) : Prop where
  ld : ∀ (c : Nat) (D : List Nat) (A : List Pr), now size D A = T → ∃ c', c' ≤ c + 2 + C ∧ ldA size C Fa Fb (frD c) D A = ⟨R.1, R.2.1, R.2.2, 0, frD c'⟩
section
variable {T : List Nat} {size Fa Fb C : Nat} {ha hb : Fm.Hd} {xa xb : List Nat}
theorem found_none (h1 : Blank T size Fa) (h2 : Blank T size Fb) : Found T size Fa Fb C (hd0, none, -1) := ⟨fun c D A e => by
  subst e
  refine ⟨c + 2, by omega, ?_⟩
  rw [ldA_free]
  unfold clm
  rw [acc_blank h1, acc_blank h2]
  rfl⟩
theorem found_a (hs : 32 ≤ size) (h1 : Holds T size Fa ha xa) (hl : xa.length ≤ (C - 1) * size) (h2 : Blank T size Fb) : Found T size Fa Fb C (ha, some xa, 0) := ⟨fun c D A e => by
  subst e
  have hp := pcn_body (size := size) (by omega) hl
  refine ⟨c + 2 + pcn size size xa.length, by omega, ?_⟩
  rw [ldA_free]
  unfold clm
  rw [acc_holds hs h1 hl, acc_blank h2]
  exact lgo_first [] h1⟩
theorem found_ab (hs : 32 ≤ size) (h1 : Holds T size Fa ha xa) (hl : xa.length ≤ (C - 1) * size) (h2 : Holds T size Fb hb xb) (hl2 : xb.length ≤ (C - 1) * size) (hg : hb.g ≤ ha.g) : Found T size Fa Fb C (ha, some xa, 0) := ⟨fun c D A e => by
  subst e
  have hp := pcn_body (size := size) (by omega) hl
  refine ⟨c + 2 + pcn size size xa.length, by omega, ?_⟩
  rw [ldA_free]
  unfold clm
  rw [acc_holds hs h1 hl, acc_holds hs h2 hl2]
  have e : srt ([(ha, (0 : Int))] ++ [(hb, (1 : Int))]) = [(ha, 0), (hb, 1)] := by
    show (if ha.g < hb.g then _ else _) = _
    rw [if_neg (by omega)]
  rw [e]
  exact lgo_first _ h1⟩
theorem found_ba (hs : 32 ≤ size) (h1 : Holds T size Fa ha xa) (hl : xa.length ≤ (C - 1) * size) (h2 : Holds T size Fb hb xb) (hl2 : xb.length ≤ (C - 1) * size) (hg : ha.g < hb.g) : Found T size Fa Fb C (hb, some xb, 1) := ⟨fun c D A e => by
  subst e
  have hp := pcn_body (size := size) (by omega) hl2
  refine ⟨c + 2 + pcn size size xb.length, by omega, ?_⟩
  rw [ldA_free]
  unfold clm
  rw [acc_holds hs h1 hl, acc_holds hs h2 hl2]
  have e : srt ([(ha, (0 : Int))] ++ [(hb, (1 : Int))]) = [(hb, 1), (ha, 0)] := by
    show (if ha.g < hb.g then _ else _) = _
    rw [if_pos hg]
  rw [e]
  exact lgo_first _ h2⟩
end
/-- What a save leaves. -/
def svT (T : List Nat) (size F : Nat) (hd : Fm.Hd) (xs : List Nat) : List Nat := splice (splice T (F * size + size) xs) (F * size) (sect size hd)
theorem svT_len {T : List Nat} {n size F : Nat} {hd : Fm.Hd} {xs : List Nat} (hs : 32 ≤ size) (hT : T.length = n * size) (hfit : F * size + size + xs.length ≤ n * size) : (svT T size F hd xs).length = n * size := by
  unfold svT
  rw [splice_len, splice_len (by rw [hT]; omega), hT]
  rw [splice_len (by rw [hT]; omega), sect_length _ _ hs, hT]; omega
theorem svA_free {T : List Nat} {n size Fa Fb C : Nat} {R : Fm.Hd × Option (List Nat) × Int} {cov : Int} {xs : List Nat} (hf : Found T size Fa Fb C R) (hs : 32 ≤ size) (hT : T.length = n * size) (hFa : Fa + C ≤ n) (hFb : Fb + C ≤ n) (hC : 1 ≤ C) (hl : xs.length ≤ (C - 1) * size) (hg : R.1.g ≠ 18446744073709551615) (c : Nat) (D : List Nat) (A : List Pr) (hN : now size D A = T) :
    ∃ c', c' ≤ c + 3 * C + 6 ∧ svA size C Fa Fb cov xs (frD c) D A = ⟨0, nxH R.1 cov xs, frD c', svT T size (if R.2.2 = 0 then Fb else Fa) (nxH R.1 cov xs) xs, []⟩ := by
  obtain ⟨c1, h1, e1⟩ := hf.ld c D A hN
  have hp := pcn_body (size := size) (by omega) hl
  have hC2 : size + (C - 1) * size = C * size := by
    obtain ⟨c, rfl⟩ : ∃ c, C = c + 1 := ⟨C - 1, by omega⟩
    rw [Nat.add_mul]; simp; omega
  have hF : (if R.2.2 = 0 then Fb else Fa) + C ≤ n := by split <;> assumption
  have hfit : (if R.2.2 = 0 then Fb else Fa) * size + size + xs.length ≤ n * size := by
    have := Nat.mul_le_mul_right size hF
    rw [Nat.add_mul] at this
    omega
  obtain ⟨c2, h2, e2⟩ := puA_free (c := c1) (F := if R.2.2 = 0 then Fb else Fa) (hd := nxH R.1 cov xs) (xs := xs) (D := D) (A := A) hs (by rw [hN, hT]) hfit
  refine ⟨c2, by omega, ?_⟩
  unfold svA
  rw [if_neg (by omega), e1]
  simp only
  rw [if_neg (by simp), if_neg hg, e2]
  simp only
  rw [if_neg (by simp), hN]
  rfl
theorem bytesAt_off {T xs : List Nat} {o p m : Nat} (h : o + xs.length ≤ T.length) (hd : p + m ≤ o ∨ o + xs.length ≤ p) : bytesAt (splice T o xs) p m = bytesAt T p m := by
  apply List.ext_getElem?
  intro i
  rw [bytesAt_get, bytesAt_get]
  split
  · rw [splice_get _ _ _ _ h, if_neg (by omega)]
  · rfl
theorem bytesAt_same {T xs : List Nat} {o : Nat} (h : o + xs.length ≤ T.length) : bytesAt (splice T o xs) o xs.length = xs := by
  apply List.ext_getElem?
  intro i
  rw [bytesAt_get]
  split
  · rw [splice_get _ _ _ _ h, if_pos (by omega), show o + i - o = i by omega]
  · rw [List.getElem?_eq_none (by omega)]
theorem holds_saved {T : List Nat} {n size F : Nat} {hd : Fm.Hd} {xs : List Nat} (hs : 32 ≤ size) (hT : T.length = n * size) (hfit : F * size + size + xs.length ≤ n * size) (ho : hd.Ok) (hm : hd.May) (hn : hd.n = (xs.length : Int)) (hsum : sumN xs = hd.s) : Holds (svT T size F hd xs) size F hd xs := by
  have hl := sect_length size hd hs
  have h1 : (splice T (F * size + size) xs).length = T.length := splice_len (by rw [hT]; omega)
  refine ⟨ho, hm, hn, hsum, ?_, ?_⟩
  · unfold svT
    have := bytesAt_same (T := splice T (F * size + size) xs) (xs := sect size hd) (o := F * size) (by rw [h1, hT, hl]; omega)
    rw [hl] at this
    exact this
  · unfold svT
    rw [bytesAt_off (by rw [h1, hT, hl]; omega) (.inr (by rw [hl]; omega))]
    exact bytesAt_same (by rw [hT]; omega)
theorem svT_other {T : List Nat} {n size F G C : Nat} {hd : Fm.Hd} {xs : List Nat} (hs : 32 ≤ size) (hT : T.length = n * size) (hfit : F * size + size + xs.length ≤ n * size) (hl : xs.length ≤ (C - 1) * size) (hC : 1 ≤ C) (hFG : F + C ≤ G ∨ G + C ≤ F) (p m : Nat) (hp : G * size ≤ p) (hpm : p + m ≤ (G + C) * size) : bytesAt (svT T size F hd xs) p m = bytesAt T p m := by
  have hls := sect_length size hd hs
  have h1 : (splice T (F * size + size) xs).length = T.length := splice_len (by rw [hT]; omega)
  have hC2 : size + (C - 1) * size = C * size := by
    obtain ⟨c, rfl⟩ : ∃ c, C = c + 1 := ⟨C - 1, by omega⟩
    rw [Nat.add_mul]; simp; omega
  have hx : (F + C) * size = F * size + C * size := Nat.add_mul _ _ _
  have hy : (G + C) * size = G * size + C * size := Nat.add_mul _ _ _
  have key : p + m ≤ F * size ∨ F * size + C * size ≤ p := by
    rcases hFG with h | h
    · right
      have := Nat.mul_le_mul_right size h
      omega
    · left
      have := Nat.mul_le_mul_right size h
      omega
  unfold svT
  rw [bytesAt_off (by rw [h1, hT, hls]; omega) (by rw [hls]; omega), bytesAt_off (by rw [hT]; omega) (by omega)]
theorem Holds.other {T : List Nat} {n size F G C : Nat} {hd hd' : Fm.Hd} {xs ys : List Nat} (h : Holds T size G hd' ys) (hs : 32 ≤ size) (hT : T.length = n * size) (hfit : F * size + size + xs.length ≤ n * size) (hl : xs.length ≤ (C - 1) * size) (hl2 : ys.length ≤ (C - 1) * size) (hC : 1 ≤ C) (hFG : F + C ≤ G ∨ G + C ≤ F) : Holds (svT T size F hd xs) size G hd' ys := by
  have hC2 : size + (C - 1) * size = C * size := by
    obtain ⟨c, rfl⟩ : ∃ c, C = c + 1 := ⟨C - 1, by omega⟩
    rw [Nat.add_mul]; simp; omega
  have hy : (G + C) * size = G * size + C * size := Nat.add_mul _ _ _
  refine ⟨h.ok, h.may, h.n, h.s, ?_, ?_⟩
  · rw [svT_other hs hT hfit hl hC hFG _ _ (Nat.le_refl _) (by omega)]; exact h.head
  · rw [svT_other hs hT hfit hl hC hFG _ _ (Nat.le_add_right _ _) (by omega)]; exact h.body
theorem Blank.other {T : List Nat} {n size F G C : Nat} {hd : Fm.Hd} {xs : List Nat} (h : Blank T size G) (hs : 32 ≤ size) (hT : T.length = n * size) (hfit : F * size + size + xs.length ≤ n * size) (hl : xs.length ≤ (C - 1) * size) (hC : 1 ≤ C) (hFG : F + C ≤ G ∨ G + C ≤ F) : Blank (svT T size F hd xs) size G := by
  have hC2 : size + (C - 1) * size = C * size := by
    obtain ⟨c, rfl⟩ : ∃ c, C = c + 1 := ⟨C - 1, by omega⟩
    rw [Nat.add_mul]; simp; omega
  have hy : (G + C) * size = G * size + C * size := Nat.add_mul _ _ _
  unfold Blank
  rw [svT_other hs hT hfit hl hC hFG _ _ (Nat.le_refl _) (by omega)]
  exact h
theorem blank_zero (n size F : Nat) (hs : 32 ≤ size) (hF : F * size + size ≤ n) : Blank (zs n) size F := by
  have e : bytesAt (zs n) (F * size) size = zs size := by
    unfold bytesAt zs
    rw [List.drop_replicate, List.take_replicate, Nat.min_eq_left (by omega)]
  unfold Blank
  rw [e]
  unfold Fm.readH
  have hl : (intz (zs size)).length = size := by rw [intz_length]; simp [zs]
  rw [if_neg (by omega)]
  have hg : ¬ Fm.HGood ((intz (zs size)).take 32) := by
    intro h
    have h1 := h.1
    rw [List.take_take] at h1
    have h2 : (intz (zs size))[0]? = some 0 := by
      unfold intz zs
      rw [List.getElem?_map, List.getElem?_replicate, if_pos (by omega)]; rfl
    have h3 : ((intz (zs size)).take (min 4 32))[0]? = some 0 := by rw [List.getElem?_take, if_pos (by omega), h2]
    rw [h1] at h3
    simp at h3
  rw [if_neg hg]
  simp
end Go.Proofs.YtonokaelbpfjnabGreatDoor
