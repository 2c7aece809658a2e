/- DiskSurvives answers true. -/
import Derived.Test.YtgcfjphjekkkmaaSurv0
namespace Go.Proofs.Ytgcfjphjekkkmaa
open Go.RowKit Ap
attribute [local go_sem ↓] Go.wp_at_zero Go.wp_at_succ

theorem Try.info3 : (Try.prog.info? 3).map (fun i => (i.zero, i.size, i.bytes)) = some (some (.int .i64 0), 1, 8) := by kernel_rfl
theorem cell_one {w : World} {u : Value} {t : TypeId} : ∀ j x, [u][j]? = some x → (w.alloc (.cells #[u] t)).cell? ((⟨w.heap.size, 0, none⟩ : Addr).add j) = some x := by
  intro j x h
  rw [Addr.add_lit, Nat.zero_add, cell_of_row _ _ j #[u] t (0, 0) (heap_alloc_new w _)]
  simpa using h
theorem slv_snoc (size : Nat) (gs : List Nat) (g : Nat) : slv size (gs ++ [g]) = slv size gs ++ [bsl g size] := by simp [slv]
/-- Behind both appends of a round. -/
theorem log_step {w0 w1 w2 w3 w4 w5 : World} {B : Nat} {v u v' u' : Value} {W : List Wt} {gs : List Nat} {k : Dk} {D : List Nat} {V : List Wt} (s gb : Nat) (xs : List Nat) (bk : Nat)
    (hl : Log w1 B v u W gs) (hk : DkS w0 w1 k 4 64 D V) (hb : w1.heap[gb]? = some (.cells (bv xs).toArray 5 (0, 0))) (hgb : B ≤ gb) (hB : w0.heap.size ≤ B)
    (h2 : w2 = w1.alloc (.cells #[bsl gb 64] 46)) (o3 : w3.ownsRow B 46 1 v' (W.length + 1) (slv 64 gs ++ [bsl gb 64])) (g3 : w2.grownBy w3 v.ownBlock)
    (h4 : w4 = w3.alloc (.cells #[.int .i64 (s : Int)] 3)) (o5 : w5.ownsRow B 3 1 u' (W.length + 1) ((W.map fun x => .int .i64 (x.sec : Int)) ++ [.int .i64 (s : Int)])) (g5 : w4.grownBy w5 u.ownBlock) :
    DkS w0 w5 k 4 64 D V ∧ Log w5 B v' u' (W ++ [⟨s, bk, xs⟩]) (gs ++ [gb]) ∧ ∀ (A : Nat) (c : Array Value), w1.heap[A]? = some (.cells c 5 (0, 0)) → w5.heap[A]? = some (.cells c 5 (0, 0)) := by
  have g2 : w1.grownBy w2 none := h2 ▸ World.grownBy_alloc w1 _ none
  have g4 : w3.grownBy w4 none := h4 ▸ World.grownBy_alloc w3 _ none
  have v1 := fun b (e : v.ownBlock = some b) => own_block hl.wro b e
  have u1 := fun b (e : u.ownBlock = some b) => own_block hl.whe b e
  have v2 : ∀ b, v.ownBlock = some b → w0.heap.size ≤ b ∧ ∃ c t, w2.heap[b]? = some (.cells c t (0, 0)) ∧ t ≠ 58 ∧ t ≠ 5 ∧ t ≠ 83 := fun b e => by
    obtain ⟨a1, cur, a2⟩ := v1 b e
    exact ⟨by omega, cur, 46, (g2.block b (row_lt a2) (by simp)).trans a2, by decide, by decide, by decide⟩
  have hub : ∀ b, u.ownBlock = some b → ∃ cur, w4.heap[b]? = some (.cells cur 3 (0, 0)) := fun b e => by
    obtain ⟨a1, cur, a2⟩ := u1 b e
    have a3 := (g2.block b (row_lt a2) (by simp)).trans a2
    have a4 := (g3.block b (row_lt a3) (fun e2 => by
      obtain ⟨_, cur2, c2⟩ := v1 b e2.symm
      rw [a2] at c2; simp at c2)).trans a3
    exact ⟨cur, (g4.block b (row_lt a4) (by simp)).trans a4⟩
  have u2 : ∀ b, u.ownBlock = some b → w0.heap.size ≤ b ∧ ∃ c t, w4.heap[b]? = some (.cells c t (0, 0)) ∧ t ≠ 58 ∧ t ≠ 5 ∧ t ≠ 83 := fun b e => by
    obtain ⟨cur, a⟩ := hub b e
    have := (u1 b e).1
    exact ⟨by omega, cur, 3, a, by decide, by decide, by decide⟩
  have by5 : ∀ (A : Nat) (c : Array Value), w1.heap[A]? = some (.cells c 5 (0, 0)) → w5.heap[A]? = some (.cells c 5 (0, 0)) := fun A c hA => by
    have a3 := (g2.block A (row_lt hA) (by simp)).trans hA
    have a4 := (g3.block A (row_lt a3) (fun e2 => by
      obtain ⟨_, cur2, c2⟩ := v1 A e2.symm
      rw [hA] at c2; simp at c2)).trans a3
    have a5 := (g4.block A (row_lt a4) (by simp)).trans a4
    exact (g5.block A (row_lt a5) (fun e2 => by
      obtain ⟨cur2, c2⟩ := hub A e2.symm
      rw [a5] at c2; simp at c2)).trans a5
  refine ⟨((((hk.then g2).after g3 v2).then g4).after g5 u2), ⟨?_, ?_, by simp [hl.len], ?_⟩, by5⟩
  · rw [slv_snoc, List.length_append]
    refine ⟨o3.1, ?_⟩
    rcases o3.2 with e | ⟨g, cap, cur, rfl, h1, h2', h3⟩
    · exact Or.inl e
    · have a4 := (g4.block g (row_lt h2') (by simp)).trans h2'
      exact Or.inr ⟨g, cap, cur, rfl, h1, (g5.block g (row_lt a4) (fun e2 => by
        obtain ⟨cur2, c2⟩ := hub g e2.symm
        rw [a4] at c2; simp at c2)).trans a4, h3⟩
  · rw [List.map_append, List.length_append]
    exact o5
  · intro i g x h1 h2
    by_cases hi : i < gs.length
    · rw [List.getElem?_append_left hi] at h1
      rw [List.getElem?_append_left (by rw [← hl.len]; exact hi)] at h2
      obtain ⟨r1, r2⟩ := hl.rows i g x h1 h2
      exact ⟨by5 g _ r1, r2⟩
    · have hlt := (List.getElem?_eq_some_iff.1 h1).1
      have hi2 : i = gs.length := by simp at hlt; omega
      subst hi2
      rw [List.getElem?_append_right (Nat.le_refl _), Nat.sub_self] at h1
      rw [List.getElem?_append_right (by rw [hl.len]; exact Nat.le_refl _), hl.len, Nat.sub_self] at h2
      simp at h1 h2
      subst h1 h2
      exact ⟨by5 _ _ hb, hgb⟩

/-- All are kept. -/
def keepF (j : Nat) : List (Int × Int) := (List.range j).map fun (i : Nat) => ((1 : Int), (i : Int))
theorem keepF_succ (j : Nat) : keepF (j + 1) = keepF j ++ [(1, (j : Int))] := by simp [keepF, List.range_succ]
theorem keepF_length (j : Nat) : (keepF j).length = j := by simp [keepF]
theorem keepF_lasts (m i : Nat) (h : i < m) : lasts (fateK (keepF m) i) (fateA (keepF m) i) 64 = 64 := by
  have : (keepF m)[i]? = some (1, (i : Int)) := by simp [keepF, h]
  simp [fateK, this, lasts]
set_option maxHeartbeats 1000000 in
theorem copyFates_any (fo : Option Addr) (fc : Nat) (F : List (Int × Int)) (w : World) (hF : FIn w fo fc F) :
    Calls Try.prog 34 #[.slice fo F.length fc] w fun e w' => ∃ fo' cap', e = .returned (.slice fo' F.length cap') ∧ FatesAt w' fo' F ∧ (∀ a, fo' = some a → 0 < F.length → w.heap.size ≤ a.block) ∧ w.grownBy w' none := by
  have HF := hide hF
  clear hF
  obtain ⟨n, hn⟩ : ∃ n, n = F.length := ⟨_, rfl⟩
  rw [← hn]
  have HN := hide hn.symm
  clear hn
  go_enter Try.func34, Try.ntmps34
  go_wp2_with (at_builtin; refine wpList_append_fates rfl (.tmp 4) (.tmp 5) rfl w.heap.size (.slice none 0 0) 0 [] rfl (World.ownsRow_nil _ _ _ _) fo n fc F rfl HN.out HF.out.at_ (fun e => by have := HF.out.nil e; rw [HN.out] at this; exact this) (by have := HF.out.size; have := HN.out; omega) (Nat.le_refl _) ?_)
  intro v' w' hown hg
  have hg2 : w.grownBy w' none := hg
  obtain ⟨ao, cap, rfl, h1, h2, h3⟩ := own_form hown
  have HH : Hid (FatesAt w' ao F ∧ (∀ a, ao = some a → 0 < F.length → w.heap.size ≤ a.block) ∧ w.grownBy w' none) := by
    refine ⟨?_, ?_, hg2⟩
    · by_cases hz : 0 < n
      · obtain ⟨g, rfl⟩ := h1 hz
        exact own_fates hown
      · intro j p hj
        have := (List.getElem?_eq_some_iff.1 hj).1
        have := HN.out
        omega
    · intro a e hl
      subst e
      exact (own_block hown a.block rfl).1
  clear hown hg hg2 h1 h2 h3
  go_wp2
  go_ret
  exact ⟨_, _, rfl, HH.out.1, fun a e hl => HH.out.2.1 a e (by rw [HN.out]; exact hl), HH.out.2.2⟩
/-- Is a byte as it was, or as one of the first i writes has it? -/
def okB (nv wv a kk : Nat) (W : List Wt) (i : Nat) : Bool := decide (nv = wv) || (W.take i).any (fun x => decide (x.sec = a) && decide (x.xs[kk]? = some nv))
theorem okB_zero (nv wv a kk : Nat) (W : List Wt) : okB nv wv a kk W 0 = decide (nv = wv) := by simp [okB]
theorem okB_succ (nv wv a kk : Nat) (W : List Wt) (i : Nat) (x : Wt) (h : W[i]? = some x) : okB nv wv a kk W (i + 1) = (okB nv wv a kk W i || (decide (x.sec = a) && decide (x.xs[kk]? = some nv))) := by
  unfold okB
  rw [take_snoc W i x h, List.any_append]
  simp [Bool.or_assoc]
theorem okB_all {D : List Nat} {W : List Wt} {L : Nat → Nat} {a kk nv wv : Nat} (hD : D.length = 4 * 64) (hW : Fits 4 64 W) (hn : (secOf 64 (stl 64 L D W W.length) a)[kk]? = some nv) (hw : (secOf 64 D a)[kk]? = some wv) : okB nv wv a kk W W.length = true := by
  rw [secOf_stl hD hW] at hn
  unfold okB
  rcases stlS_byte W L a (secOf 64 D a) kk W.length with h | ⟨q, x, h1, h2, h3⟩
  · rw [hn, hw] at h
    simp [Option.some.inj h]
  · rw [hn] at h3
    simp only [Bool.or_eq_true, List.any_eq_true, Bool.and_eq_true, decide_eq_true_eq]
    right
    exact ⟨x, by rw [List.take_length]; exact List.mem_of_getElem? h1, h2, h3.symm⟩
set_option maxRecDepth 20000 in
set_option maxHeartbeats 8000000 in
theorem survives_any (ao bo fo : Option Addr) (m cap m2 cap2 fc : Nat) (os qs : List OpD) (F : List (Int × Int)) (w : World) (hm : os.length = m) (hm2 : m ≤ 140737488355328) (ho : OpsAt w ao os) (hq : qs.length = m2) (hq2 : m2 ≤ 140737488355328) (hqs : OpsAt w bo qs) (hF : FIn w fo fc F) :
    Calls Try.prog 6 #[.slice ao m cap, .slice bo m2 cap2, .slice fo F.length fc] w fun e w' => e = .returned (.bool true) ∧ w.grownBy w' none := by
  have H0 := hide (And.intro hm (And.intro ho (And.intro hq (And.intro hqs hF))))
  clear hm ho hq hqs hF
  go_enter Try.func6, Try.ntmps6
  go_wp2_with fail
  refine (awake_any _).mono ?_
  rintro e w1 ⟨rfl, g1⟩
  have H1 := hide g1
  clear g1
  go_wp2_with fail
  refine (newS 4 64 w w1 H1.out may_4_64).mono ?_
  rintro e w2 ⟨k, rfl, d2, -, -⟩
  have D2 := hide d2
  clear d2 H1
  obtain ⟨d, hd⟩ : ∃ d, d = k.d := ⟨_, rfl⟩
  rw [← hd]
  have HD := hide hd.symm
  clear hd
  go_wp2_with fail
  refine (does_any HD.out D2.out (by simp) ao m cap os H0.out.1 hm2 H0.out.2.1).mono ?_
  rintro e w3 ⟨rfl, k3, D3, W3, d3, m3, e3, l3⟩
  have DD3 := hide (And.intro (m3.d.trans HD.out) d3)
  clear d3 m3 e3 l3 D2
  go_wp2_with fail
  refine (syncS DD3.out.1 DD3.out.2).mono ?_
  rintro e w4 ⟨rfl, d4, -⟩
  have DD4 := hide d4
  clear d4
  obtain ⟨D, hD⟩ : ∃ D, D = stl 64 (fun _ => 64) D3 W3 W3.length := ⟨_, rfl⟩
  rw [← hD] at DD4
  clear hD
  obtain ⟨k4, hk4⟩ : ∃ k4, k4 = k3.calm := ⟨_, rfl⟩
  have HD4 : Hid (k4.d = d) := by show _ = _; rw [hk4]; exact DD3.out.1
  rw [← hk4] at DD4
  clear hk4 DD3 HD
  go_wp2_with fail
  refine (imageS HD4.out DD4.out).mono ?_
  rintro e w5 ⟨hw, rfl, i5, g5⟩
  have DD5 := hide (And.intro (DD4.out.then g5) (And.intro i5 (DD4.out.disk.lt k4.db (.inl (.inr (.inl rfl))))))
  clear i5 g5 DD4
  obtain ⟨gw, hgw⟩ : ∃ gw, gw = w4.heap.size := ⟨_, rfl⟩
  rw [← hgw] at DD5 ⊢
  clear hgw
  obtain ⟨B, hB⟩ : ∃ B, B = w5.heap.size := ⟨_, rfl⟩
  have LB : Hid (w.heap.size ≤ B ∧ k4.db < B ∧ gw < B ∧ (∀ (i h : Nat), hw[i]? = some h → h < B)) := by
    refine ⟨by rw [hB]; exact DD5.out.1.grown.size, by rw [hB]; exact DD5.out.1.disk.lt k4.db (.inl (.inr (.inl rfl))), by rw [hB]; exact row_lt DD5.out.2.1.row, ?_⟩
    intro i h hi
    have hl : i < (secs 4 64 D).length := by rw [← DD5.out.2.1.len]; exact (List.getElem?_eq_some_iff.1 hi).1
    rw [hB]
    exact row_lt (DD5.out.2.1.rows i h _ hi (List.getElem?_eq_getElem hl)).1
  have LB2 := hide (Nat.le_of_eq hB)
  clear hB
  obtain ⟨Tm, hT⟩ : ∃ Tm, Tm = min m2 200 := ⟨_, rfl⟩
  have HT := hide hT
  clear hT
  go_wp2_with fail
  go_loopg [10, 11, 12] Tm (fun q v u i wr => ∃ j : Nat, q + j = Tm ∧ i = .int .i64 j ∧ Hid (∃ k' W gs, k'.d = d ∧ k'.db = k4.db ∧ W.length = j ∧ DkS w wr k' 4 64 D W ∧ Log wr B v u W gs ∧ ImgAt wr gw gw 64 (secs 4 64 D) hw ∧ B ≤ wr.heap.size))
  case atStart => exact ⟨0, by omega, rfl, hide ⟨k4, [], [], HD4.out, rfl, rfl, DD5.out.1, ⟨World.ownsRow_nil _ _ _ _, World.ownsRow_nil _ _ _ _, rfl, by simp⟩, DD5.out.2.1, LB2.out⟩⟩
  case round =>
    obtain ⟨j, hkj, rfl, HR⟩ := hrel
    have hT := HT.out
    by_cases hk : 0 < gk
    · have hjm : j < m2 := by omega
      have hj2 : j < 200 := by omega
      obtain ⟨o, hoj⟩ : ∃ o, qs[j]? = some o := ⟨_, List.getElem?_eq_getElem (by have := H0.out.2.2.1; omega)⟩
      obtain ⟨k', W, gs, r1, r2, r3, r4, r5, r6, r7⟩ := HR.out
      obtain ⟨b, off, foo, fcap, rfl, hop⟩ := H0.out.2.2.2.1 j o hoj
      have HOP := hide (fun w' hg => (hop.grown (w' := w') hg))
      have c2 := (hop.grown r4.grown).c2
      have c3 := (hop.grown r4.grown).c3
      have HPA : Hid (∀ w, Calls Try.prog 14 #[.int .i64 o.d2, .int .i64 4] w fun e w' => e = .returned (.int .i64 (((o.d2 % 4).toNat : Nat) : Int)) ∧ w' = w) := fun w => by
        rw [show (((o.d2 % 4).toNat : Nat) : Int) = o.d2 % 4 by omega]; exact pick_any o.d2 4 4 w rfl (by omega) (by omega)
      have hs4 : (o.d2 % 4).toNat < 4 := by omega
      generalize (o.d2 % 4).toNat = sc at *
      have h1 : (0 : Int) ≤ (j : Int) := by omega
      have h2 : (j : Int) < (m2 : Int) := by omega
      have HX := hide (And.intro r1 (And.intro r2 (And.intro r3 (And.intro r4 (And.intro r5 (And.intro r6 r7))))))
      clear r1 r2 r3 r4 r5 r6 r7 hop hoj HR hT
      go_wp2_with fail
      refine (HPA.out _).mono ?_
      rintro e x1 ⟨rfl, rfl⟩
      go_wp2_with fail
      refine (fill_any o.d3 64 (by omega) _).mono ?_
      rintro e x2 ⟨rfl, a2, g2⟩
      have A2 := hide (And.intro a2 g2)
      clear a2 g2 c2 c3
      obtain ⟨gb, hgb⟩ : ∃ gb, gb = x1.heap.size := ⟨_, rfl⟩
      rw [← hgb] at A2 ⊢
      have HGB : Hid (B ≤ gb) := by rw [hgb]; exact HX.out.2.2.2.2.2.2
      clear hgb
      have HXL := hide (fills_length o.d3 64)
      generalize fills o.d3 64 = xs at *
      go_wp2_with fail
      refine (writeS HX.out.1 (HX.out.2.2.2.1.then A2.out.2) (by have := HX.out.2.2.1; omega) sc hs4 (some ⟨gb, 0, none⟩) 64 xs (at_row A2.out.1) HXL.out).mono ?_
      rintro e x3 ⟨rfl, k3', e3, e3', d3, y3⟩
      have A3 := hide (And.intro e3 (And.intro (e3'.trans HX.out.2.1) (And.intro d3 (And.intro ((HX.out.2.2.2.2.1.grown A2.out.2).moved (HX.out.2.2.2.1.then A2.out.2).disk y3.moved (by rw [HX.out.2.1]; exact LB.out.2.1)) (And.intro ((HX.out.2.2.2.2.2.1.grown A2.out.2).moved (HX.out.2.2.2.1.then A2.out.2).disk y3.moved (by rw [HX.out.2.1]; exact DD5.out.2.2)) (And.intro (bytes_moved A2.out.1 (HX.out.2.2.2.1.then A2.out.2).disk y3.moved (by rw [HX.out.2.1]; have := LB.out.2.1; have := HGB.out; omega)) (Nat.le_trans HX.out.2.2.2.2.2.2 (Nat.le_trans A2.out.2.size y3.kept.size))))))))
      clear e3 e3' d3 y3
      obtain ⟨i46, hi, hz0, hz1, hz2⟩ := info_parts Try.info46
      obtain ⟨i3, ji, jz0, jz1, jz2⟩ := info_parts Try.info3
      have HI := hide (And.intro hi (And.intro hz0 (And.intro hz1 hz2)))
      have HJ := hide (And.intro ji (And.intro jz0 (And.intro jz1 jz2)))
      clear hi hz0 hz1 hz2 ji jz0 jz1 jz2
      go_wp2_with (at_builtin; refine wpList_append_own _ rfl (.tmp 70) (.tmp 72) 42 rfl B 46 i46 (.slice none 0 0) 1 24 Try.underlying42 HI.out.1 HI.out.2.1 HI.out.2.2.1 HI.out.2.2.2 rfl (by decide) u10 W.length (slv 64 gs) rfl (A3.out.2.2.2.1.wro.alloc _) ⟨x3.heap.size, 0, none⟩ 1 1 [bsl gb 64] rfl rfl cell_one (fun u hu => by simp at hu; subst hu; rfl) ?_ ?_ ?_ ?_)
      · have := HX.out.2.2.1; unfold maxLen; omega
      · have := HX.out.2.2.1; omega
      · exact Nat.le_trans A3.out.2.2.2.2.2.2 (World.grownBy_alloc x3 _ none).size
      intro v' x4 o4 g4 _
      have A4 := hide (And.intro o4 g4)
      clear o4 g4
      have HU4 : Hid (x4.ownsRow B 3 1 u11 W.length (W.map fun x => .int .i64 (x.sec : Int))) := by
        refine ((A3.out.2.2.2.1.whe.alloc _).kept A4.out.2 ?_)
        by_cases hn : u11.ownBlock = none
        · exact Or.inl hn
        · right
          intro e
          obtain ⟨g, hg⟩ := Option.ne_none_iff_exists'.1 hn
          obtain ⟨_, c1, q1⟩ := own_block A3.out.2.2.2.1.whe g hg
          obtain ⟨_, c2, q2⟩ := own_block A3.out.2.2.2.1.wro g (by rw [← e]; exact hg)
          rw [q1] at q2
          simp at q2
      have HB4 : Hid (B ≤ x4.heap.size) := Nat.le_trans A3.out.2.2.2.2.2.2 (Nat.le_trans (World.grownBy_alloc x3 _ none).size A4.out.2.size)
      go_wp2_with (at_builtin; refine wpList_append_own _ rfl (.tmp 74) (.tmp 76) 62 rfl B 3 i3 (.int .i64 0) 1 8 Try.underlying62 HJ.out.1 HJ.out.2.1 HJ.out.2.2.1 HJ.out.2.2.2 rfl (by decide) u11 W.length (W.map fun x => .int .i64 (x.sec : Int)) rfl (HU4.out.alloc _) ⟨x4.heap.size, 0, none⟩ 1 1 [.int .i64 (sc : Int)] rfl rfl cell_one (fun u hu => by simp at hu; subst hu; rfl) ?_ ?_ ?_ ?_)
      · have := HX.out.2.2.1; unfold maxLen; omega
      · have := HX.out.2.2.1; omega
      · exact Nat.le_trans HB4.out (World.grownBy_alloc x4 _ none).size
      intro u' x5 o5 g5 _
      have A5 := hide (And.intro o5 g5)
      clear o5 g5
      go_wp2
      go_roundg (gk - 1)
      case measure => omega
      case rel =>
        have hst := log_step (w0 := w) (w5 := x5) sc gb xs x2.heap.size A3.out.2.2.2.1 A3.out.2.2.1 A3.out.2.2.2.2.2.1 HGB.out LB.out.1 rfl A4.out.1 A4.out.2 rfl A5.out.1 A5.out.2
        refine ⟨j + 1, by omega, by go_num, hide ⟨k3', _, gs ++ [gb], A3.out.1, A3.out.2.1, by simp [HX.out.2.2.1], hst.1, hst.2.1, ?_, Nat.le_trans HB4.out (Nat.le_trans (World.grownBy_alloc x4 _ none).size A5.out.2.size)⟩⟩
        have hi := A3.out.2.2.2.2.1
        have lg := LB.out
        have fr : ∀ i c t, i < B → x3.heap[i]? = some (.cells c t (0, 0)) → x5.heap[i]? = some (.cells c t (0, 0)) := fun i c t hiB hc => by
          have q1 := (World.grownBy_alloc x3 (.cells #[bsl gb 64] 46) none).block i (row_lt hc) (by simp)
          have q2 := A4.out.2.block i (Nat.lt_of_lt_of_le (row_lt hc) (World.grownBy_alloc x3 _ none).size) (fun e => by have := (own_block A3.out.2.2.2.1.wro i e.symm).1; omega)
          have hc4 := q2.trans (q1.trans hc)
          have q3 := (World.grownBy_alloc x4 (.cells #[.int .i64 (sc : Int)] 3) none).block i (row_lt hc4) (by simp)
          have q4 := A5.out.2.block i (Nat.lt_of_lt_of_le (row_lt hc4) (World.grownBy_alloc x4 _ none).size) (fun e => by have := (own_block A3.out.2.2.2.1.whe i e.symm).1; omega)
          exact q4.trans (q3.trans hc4)
        refine ⟨fr _ _ _ lg.2.2.1 hi.row, hi.len, fun i a ys e1 e2 => ?_, hi.up⟩
        obtain ⟨s1, s2, s3⟩ := hi.rows i a ys e1 e2
        exact ⟨fr _ _ _ (lg.2.2.2 i a e1) s1, s2, s3⟩
    · have hjT : j = Tm := by omega
      subst hjT
      go_upto_region 12 with fail
      go_cut [50] from 43 to 77 (fun s50 wx => s50 = .bool false ∧ wx = wr)
      case first =>
        by_cases hm3 : m2 < 201
        · have hjm : j = m2 := by omega
          subst hjm
          clear hT hkj hk
          go_wp2_with fail
          go_meet
          case rel => exact ⟨rfl, rfl⟩
        · have hjm : j = 200 := by omega
          subst hjm
          have hlt : (200 : Int) < (m2 : Int) := by omega
          clear hT hkj hk hm3
          go_wp2_with fail
          go_meet
          case rel => exact ⟨rfl, rfl⟩
      case rest =>
        obtain ⟨rfl, rfl⟩ := hcut
        clear hT hkj hk
        obtain ⟨k', W, gs, r1, r2, r3, r4, r5, r6, r7⟩ := HR.out
        obtain ⟨vo, vcap, rfl, hvo, hvc, -⟩ := own_form r5.wro
        obtain ⟨uo, ucap, rfl, huo, huc, -⟩ := own_form r5.whe
        have S0 := hide (And.intro r1 (And.intro r2 (And.intro r3 (And.intro r4 (And.intro r5 (And.intro r6 r7))))))
        have HVO := hide (And.intro hvo (And.intro hvc (And.intro huo huc)))
        clear r1 r2 r4 r5 r6 r7 HR hvo hvc huo huc
        have hW2 : W.length ≤ 200 := by have := HT.out; omega
        go_wp2_with fail
        refine (waitingS S0.out.1 S0.out.2.2.2.1).mono ?_
        rintro e y0 ⟨rfl, rfl⟩
        go_wp2_with fail
        refine (imageS S0.out.1 S0.out.2.2.2.1).mono ?_
        rintro e y1 ⟨hi1, rfl, i1, g1⟩
        have S1 := hide (And.intro (S0.out.2.2.2.1.then g1) (And.intro (S0.out.2.2.2.2.1.grown g1) (And.intro (S0.out.2.2.2.2.2.1.grown g1) i1)))
        have G01 : Hid (y0.heap.size ≤ y1.heap.size) := g1.size
        obtain ⟨gi1, hgi1⟩ : ∃ gi1, gi1 = y0.heap.size := ⟨_, rfl⟩
        rw [← hgi1] at S1 ⊢
        clear i1 g1 hgi1
        go_wp2_with fail
        refine (sameRows_eq (some ⟨gi1, 0, none⟩) (some ⟨gw, 0, none⟩) 4 4 4 (secs 4 64 D) y1 (secs_length _ _ _) (S1.out.2.2.2.rowsAt (by omega)) (S1.out.2.2.1.rowsAt (by omega)) (by omega)).mono ?_
        rintro e y2 ⟨rfl, q2, rfl⟩
        go_wp2_with fail
        refine (copyT S0.out.1 (S1.out.1.then (grown_drewN _ q2 _))).mono ?_
        rintro e y3 ⟨kl, rfl, l3, s3, g3', o3⟩
        have g3 := grown_trans (grown_drewN y1 q2 none) g3'
        obtain ⟨dl, hdl⟩ : ∃ dl, dl = kl.d := ⟨_, rfl⟩
        rw [← hdl]
        have S3 := hide (And.intro (S1.out.1.then g3) (And.intro l3 (And.intro s3 (And.intro hdl.symm (And.intro (S1.out.2.1.grown g3) (S1.out.2.2.1.grown g3))))))
        have hu : ∀ i, kl.own i → y1.heap.size ≤ i := o3
        have UL := hide (And.intro hu (And.intro S1.out.2.1.lt (S3.out.1.grown.size)))
        have U13 : Hid (y1.heap.size ≤ y3.heap.size) := g3.size
        have UB : Hid (B ≤ y1.heap.size) := Nat.le_trans S0.out.2.2.2.2.2.2 G01.out
        clear l3 s3 g3 g3' hdl o3 hu
        go_wp2_with fail
        refine (copyT S0.out.1 S3.out.1).mono ?_
        rintro e y4 ⟨kk, rfl, l4, s4, g4, o4⟩
        obtain ⟨dk, hdk⟩ : ∃ dk, dk = kk.d := ⟨_, rfl⟩
        rw [← hdk]
        have S4 := hide (And.intro (S3.out.1.then g4) (And.intro (S3.out.2.1.then g4) (And.intro l4 (And.intro s4 (And.intro (sep_copies S3.out.2.1 S3.out.2.2.1 o4) (And.intro hdk.symm (And.intro (S3.out.2.2.2.2.1.grown g4) (S3.out.2.2.2.2.2.grown g4))))))))
        have UK : Hid (∀ i, kk.own i → y1.heap.size ≤ i) := fun i hi => Nat.le_trans U13.out (o4 i hi)
        clear l4 s4 g4 o4 hdk
        go_wp2_with fail
        obtain ⟨i46, hi, hz0, hz1, hz2⟩ := info_parts Try.info46
        have HI := hide (And.intro hi (And.intro hz0 (And.intro hz1 hz2)))
        clear hi hz0 hz1 hz2
        go_loopg [17, 18] 4 (fun q v i wr => ∃ j : Nat, q + j = 4 ∧ i = .int .i64 j ∧ Hid (∃ fs, fs.length = j ∧ wr.ownsRow y4.heap.size 46 1 v j (slv 64 fs) ∧ (∀ (i g : Nat), fs[i]? = some g → wr.heap[g]? = some (.cells (bv (found 64 D W i)).toArray 5 (0, 0)) ∧ y4.heap.size ≤ g) ∧ y4.grownBy wr none))
        case atStart => exact ⟨0, by omega, rfl, hide ⟨[], rfl, World.ownsRow_nil _ _ _ _, by simp, grown_refl _ _⟩⟩
        case round =>
          obtain ⟨i, hki, rfl, HR⟩ := hrel
          by_cases hk : 0 < gk
          · obtain ⟨fs, f1, f2, f3, f4⟩ := HR.out
            have hi4 : i < 4 := by omega
            have HX := hide (And.intro f1 (And.intro f2 (And.intro f3 f4)))
            clear f1 f2 f3 f4 HR
            go_wp2_with fail
            refine (readS S0.out.1 (S4.out.1.then HX.out.2.2.2) i hi4).mono ?_
            rintro e z1 ⟨rfl, a1, g1⟩
            have A1 := hide (And.intro a1 g1)
            clear a1 g1
            have HO : Hid (z1.ownsRow y4.heap.size 46 1 u17 i (slv 64 fs)) := HX.out.2.1.kept A1.out.2 (Classical.em _)
            obtain ⟨gr, hgr⟩ : ∃ gr, gr = wr.heap.size := ⟨_, rfl⟩
            have HGR : Hid (y4.heap.size ≤ gr) := by rw [hgr]; exact HX.out.2.2.2.size
            rw [← hgr] at A1 ⊢
            clear hgr
            go_wp2_with (at_builtin; refine wpList_append_own _ rfl (.tmp 104) (.tmp 106) 42 rfl y4.heap.size 46 i46 (.slice none 0 0) 1 24 Try.underlying42 HI.out.1 HI.out.2.1 HI.out.2.2.1 HI.out.2.2.2 rfl (by decide) u17 i (slv 64 fs) rfl (HO.out.alloc _) ⟨z1.heap.size, 0, none⟩ 1 1 [bsl gr 64] rfl rfl cell_one (fun u hu => by simp at hu; subst hu; rfl) (by unfold maxLen; omega) (by omega) ?_ ?_)
            · exact Nat.le_trans HX.out.2.2.2.size (Nat.le_trans A1.out.2.size (World.grownBy_alloc z1 _ none).size)
            intro v' z2 o2 g2 _
            have A2 := hide (And.intro o2 g2)
            clear o2 g2
            go_wp2
            go_roundg (gk - 1)
            case measure => omega
            case rel =>
              obtain ⟨f1, f2, f3, f4⟩ := HX.out
              have gz : z1.grownBy (z1.alloc (.cells #[bsl gr 64] 46)) none := World.grownBy_alloc z1 _ none
              have keep : ∀ (A : Nat) (c : Array Value), z1.heap[A]? = some (.cells c 5 (0, 0)) → z2.heap[A]? = some (.cells c 5 (0, 0)) := fun A c hA =>
                (A2.out.2.block A (Nat.lt_of_lt_of_le (row_lt hA) gz.size) (fun e => by
                  obtain ⟨_, c2, q2⟩ := own_block HO.out A e.symm
                  rw [hA] at q2; simp at q2)).trans ((gz.block A (row_lt hA) (by simp)).trans hA)
              refine ⟨i + 1, by omega, by go_num, hide ⟨fs ++ [gr], by simp [f1], by rw [slv_snoc]; exact A2.out.1, ?_, ?_⟩⟩
              · intro a g hg
                by_cases ha : a < fs.length
                · rw [List.getElem?_append_left ha] at hg
                  obtain ⟨q, q'⟩ := f3 a g hg
                  exact ⟨keep g _ ((A1.out.2.block g (row_lt q) (by simp)).trans q), q'⟩
                · have hlt := (List.getElem?_eq_some_iff.1 hg).1
                  have ha2 : a = i := by simp at hlt; omega
                  subst ha2
                  rw [List.getElem?_append_right (by omega), f1, Nat.sub_self] at hg
                  simp at hg
                  subst hg
                  exact ⟨keep _ _ A1.out.1, HGR.out⟩
              · exact grown_then (grown_trans (grown_trans f4 A1.out.2) gz) A2.out.2 (fun b e => Or.inl (own_block HO.out b e).1)
          · have hi4 : i = 4 := by omega
            subst hi4
            obtain ⟨fs, f1, f2, f3, f4⟩ := HR.out
            obtain ⟨fo2, fcap2, rfl, hfo, -, -⟩ := own_form f2
            obtain ⟨gf, rfl⟩ := hfo (by omega)
            have HFS : Hid (FAt wr y4.heap.size gf fcap2 fs (foundR D W)) := by
              refine ⟨f2, f1, ?_⟩
              intro a g xs e1 e2
              have ha : a < 4 := by have := (List.getElem?_eq_some_iff.1 e1).1; omega
              rw [foundR_get D W a ha] at e2
              obtain rfl := Option.some.inj e2
              exact ⟨(f3 a g e1).1, (f3 a g e1).2, found_length S4.out.1.disk.len S4.out.1.disk.fitsW a ha⟩
            have S5 := hide (And.intro (S4.out.1.then f4) (And.intro (S4.out.2.1.then f4) (And.intro (S4.out.2.2.1.then f4) (And.intro (S4.out.2.2.2.2.2.2.1.grown f4) (And.intro (S4.out.2.2.2.2.2.2.2.grown f4) f4)))))
            clear f1 f2 f3 f4 hki hk HR hfo
            obtain ⟨y5, hy5⟩ : ∃ y5, y5 = wr := ⟨_, rfl⟩
            rw [← hy5] at HFS S5 ⊢
            clear hy5
            go_wp2_with fail
            go_loopg [21, 22] W.length (fun q v i wr => ∃ j : Nat, q + j = W.length ∧ i = .int .i64 j ∧ Hid (wr.ownsRow y5.heap.size 69 2 v j (fcells (keepF j)) ∧ y5.grownBy wr none))
            case atStart => exact ⟨0, by omega, rfl, hide ⟨World.ownsRow_nil _ _ _ _, grown_refl _ _⟩⟩
            case round =>
              obtain ⟨i, hki, rfl, HR⟩ := hrel
              by_cases hk : 0 < gk
              · have hiW : (i : Int) < (W.length : Int) := by omega
                have HM := hide (heap_alloc_new wr (.cells #[.int .i64 1, .int .i64 (i : Int)] 69))
                go_wp2_with (at_builtin; refine wpList_append_fates rfl (.tmp 114) (.tmp 117) rfl y5.heap.size u21 i (keepF i) rfl (HR.out.1.alloc _) (some ⟨wr.heap.size, 0, none⟩) 1 1 [(1, (i : Int))] rfl rfl (fates_row HM.out) (fun e => by cases e) (by omega) (Nat.le_trans HR.out.2.size (World.grownBy_alloc wr _ none).size) ?_)
                intro v' z2 o2 g2
                have A2 := hide (And.intro o2 g2)
                clear o2 g2
                go_wp2
                go_roundg (gk - 1)
                case measure => omega
                case rel =>
                  exact ⟨i + 1, by omega, by go_num, hide ⟨by rw [keepF_succ]; exact A2.out.1, grown_then (grown_trans HR.out.2 (World.grownBy_alloc wr _ none)) A2.out.2 (fun b e => Or.inl (own_block HR.out.1 b e).1)⟩⟩
              · have hiW : i = W.length := by omega
                subst hiW
                obtain ⟨lo, lcap, rfl, hlo, -, hln⟩ := own_form HR.out.1
                have gz := HR.out.2
                have HAL : Hid (FatesAt wr lo (keepF W.length) ∧ (∀ a, lo = some a → 0 < (keepF W.length).length → y5.heap.size ≤ a.block)) := by
                  refine ⟨?_, ?_⟩
                  · by_cases hz : 0 < W.length
                    · obtain ⟨g, rfl⟩ := hlo hz
                      exact own_fates HR.out.1
                    · intro j p hj
                      have := (List.getElem?_eq_some_iff.1 hj).1
                      rw [keepF_length] at this
                      omega
                  · intro a e hl
                    subst e
                    exact (own_block HR.out.1 a.block rfl).1
                have S6 := hide (And.intro (S5.out.1.then gz) (And.intro (S5.out.2.1.then gz) (And.intro (S5.out.2.2.1.then gz) (And.intro (S5.out.2.2.2.1.grown gz) (And.intro (S5.out.2.2.2.2.1.grown gz) gz)))))
                have hlow : ∀ (kx : Dk), DkS w y5 kx 4 64 D W → kx.db < y5.heap.size := fun kx hx => hx.disk.lt kx.db (.inl (.inr (.inl rfl)))
                have HLW := hide hlow
                clear gz hlo hln HR hki hk hlow
                obtain ⟨y6, hy6⟩ : ∃ y6, y6 = wr := ⟨_, rfl⟩
                rw [← hy6] at HAL S6 ⊢
                clear hy6
                go_wp2_with fail
                refine (copyFates_any fo fc F y6 (H0.out.2.2.2.2.grown S6.out.1.grown)).mono ?_
                rintro e y7 ⟨fo7, fc7, rfl, a7, l7, g7⟩
                have S7 := hide (And.intro (S6.out.1.then g7) (And.intro (S6.out.2.1.then g7) (And.intro (S6.out.2.2.1.then g7) (And.intro (S6.out.2.2.2.1.grown g7) (And.intro (S6.out.2.2.2.2.1.grown g7) (And.intro a7 (And.intro l7 (And.intro (HAL.out.1.grown g7) (grown_trans S6.out.2.2.2.2.2 g7)))))))))
                have hy67 : y5.heap.size ≤ y6.heap.size := S6.out.2.2.2.2.2.size
                have G67 := hide g7
                clear a7 l7 g7
                go_wp2_with fail
                have hdb : k'.db < B := by rw [S0.out.2.1]; exact LB.out.2.1
                have hdw : k'.db < gw := by rw [S0.out.2.1]; exact DD5.out.2.2
                have O1 : Hid (∀ i, k'.own i → i < y4.heap.size) := fun i hi => S4.out.1.disk.lt i (.inl hi)
                have O2 : Hid (∀ i, kl.own i → i < y4.heap.size) := fun i hi => S4.out.2.1.disk.lt i (.inl hi)
                have O3 : Hid (∀ i, kk.own i → i < y4.heap.size) := fun i hi => S4.out.2.2.1.disk.lt i (.inl hi)
                have HB5 : Hid (y4.heap.size ≤ y5.heap.size ∧ y5.heap.size ≤ y6.heap.size) := ⟨S5.out.2.2.2.2.2.size, hy67⟩
                have HDW := hide (And.intro hdb hdw)
                clear hdb hdw hy67
                refine (crash2 S0.out.1 S7.out.1 fo7 F.length fc7 F rfl S7.out.2.2.2.2.2.1 (fun a e hl => by have h1 := S7.out.2.2.2.2.2.2.1 a e hl; have h2 := O1.out k'.db (.inr (.inl rfl)); have := HB5.out; omega)).mono ?_
                rintro e y8 ⟨rfl, d8, x8⟩
                have m8 : Moved y7 y8 k' k'.calm W [] := calm_moved x8
                have A8 := hide (And.intro d8 (And.intro (S7.out.2.1.other S3.out.2.2.1.symm m8 d8.grown) (And.intro (S7.out.2.2.1.other S4.out.2.2.2.1.symm m8 d8.grown) (And.intro (S3.out.2.2.1.symm.moved S7.out.2.1.disk m8) (And.intro (S4.out.2.2.2.1.symm.moved S7.out.2.2.1.disk m8) (And.intro (S7.out.2.2.2.1.moved S7.out.1.disk m8 HDW.out.1) (And.intro (S7.out.2.2.2.2.1.moved S7.out.1.disk m8 HDW.out.2) (And.intro (S7.out.2.2.2.2.2.2.2.1.off m8.kept HAL.out.2 (fun i hi ho => by have := O1.out i ho; have := HB5.out; omega)) m8.kept))))))))
                clear d8 x8 m8
                go_wp2_with fail
                refine (crash2 S3.out.2.2.2.1 A8.out.2.1 none 0 0 [] rfl (fun j p hj => by simp at hj) (fun a e => by cases e)).mono ?_
                rintro e y9 ⟨rfl, d9, x9⟩
                rw [stl_lost] at d9
                have m9 : Moved y8 y9 kl kl.calm W [] := calm_moved x9
                have hgB : ∀ i, i < B → ¬ kl.own i := fun i hi ho => by have := UL.out.1 i ho; have h2 := UL.out.2.1; have := S0.out.2.2.2.2.2.2; have := UB.out; omega
                have A9 := hide (And.intro (A8.out.1.other A8.out.2.2.2.1.symm m9 d9.grown) (And.intro d9 (And.intro (A8.out.2.2.1.other S4.out.2.2.2.2.1.symm m9 d9.grown) (And.intro (S4.out.2.2.2.2.1.symm.moved A8.out.2.2.1.disk m9) (And.intro (A8.out.2.2.2.2.2.1.off m9.kept (fun i hi ho => by have := UL.out.1 i ho; have := UL.out.2.1 i hi; omega)) (And.intro (A8.out.2.2.2.2.2.2.1.off m9.kept (hgB _ LB.out.2.2.1) (fun a ha => by obtain ⟨i, hi⟩ := List.getElem?_of_mem ha; exact hgB _ (LB.out.2.2.2 i a hi))) (And.intro (A8.out.2.2.2.2.2.2.2.1.off m9.kept HAL.out.2 (fun i hi ho => by have := O2.out i ho; have := HB5.out; omega)) m9.kept)))))))
                clear d9 x9 m9 hgB
                go_wp2_with fail
                refine (crash2 S4.out.2.2.2.2.2.1 A9.out.2.2.1 lo j lcap (keepF W.length) ((keepF_length _).trans S0.out.2.2.1) A9.out.2.2.2.2.2.2.1 (fun a e hl => by have h1 := HAL.out.2 a e hl; have h2 := O3.out kk.db (.inr (.inl rfl)); have := HB5.out; omega)).mono ?_
                rintro e z0 ⟨rfl, d10, x10⟩
                have m10 : Moved y9 z0 kk kk.calm W [] := calm_moved x10
                have hgB : ∀ i, i < B → ¬ kk.own i := fun i hi ho => by have := UK.out i ho; have := UB.out; omega
                have sd : Sep k'.calm [] kk W := A8.out.2.2.2.2.1.symm
                have F10 := (((((HFS.out.grown S6.out.2.2.2.2.2).grown G67.out).off A8.out.2.2.2.2.2.2.2.2 (fun i hi ho => by have := O1.out i ho; omega)).off A9.out.2.2.2.2.2.2.2 (fun i hi ho => by have := O2.out i ho; omega)).off m10.kept (fun i hi ho => by have := O3.out i ho; omega))
                have A10 := hide (And.intro (A9.out.1.other sd m10 d10.grown) (And.intro (A9.out.2.1.other A9.out.2.2.2.1.symm m10 d10.grown) (And.intro d10 (And.intro (A9.out.2.2.2.2.1.off m10.kept (fun i hi ho => by have := UK.out i ho; have := UL.out.2.1 i hi; omega)) (And.intro (A9.out.2.2.2.2.2.1.off m10.kept (hgB _ LB.out.2.2.1) (fun a ha => by obtain ⟨i, hi⟩ := List.getElem?_of_mem ha; exact hgB _ (LB.out.2.2.2 i a hi))) F10)))))
                have HDk := hide (secs_kept S4.out.1.disk.len S4.out.1.disk.fitsW (fun i => lasts (fateK (keepF W.length) i) (fateA (keepF W.length) i) 64) (fun i hi => keepF_lasts _ i hi))
                clear d10 x10 m10 hgB sd F10
                generalize stl 64 (fun i => lasts (fateK (keepF W.length) i) (fateA (keepF W.length) i) 64) D W W.length = Dk at *
                go_wp2_with fail
                refine (imageS (show kl.calm.d = dl from S3.out.2.2.2.1) A10.out.2.1).mono ?_
                rintro e z1 ⟨h1i, rfl, i1, g1⟩
                have Z1 := hide (And.intro i1 g1)
                clear i1 g1
                obtain ⟨gl1, hgl1⟩ : ∃ gl1, gl1 = z0.heap.size := ⟨_, rfl⟩
                rw [← hgl1] at Z1 ⊢
                clear hgl1
                go_wp2_with fail
                refine (sameRows_eq (some ⟨gl1, 0, none⟩) (some ⟨gw, 0, none⟩) 4 4 4 (secs 4 64 D) z1 (secs_length _ _ _) (Z1.out.1.rowsAt (by omega)) ((A10.out.2.2.2.2.1.grown Z1.out.2).rowsAt (by omega)) (by omega)).mono ?_
                rintro e z2 ⟨rfl, q2', rfl⟩
                go_wp2_with fail
                have hz12 := grown_trans Z1.out.2 (grown_drewN z1 q2' none)
                refine (imageS (show kk.calm.d = dk from S4.out.2.2.2.2.2.1) (A10.out.2.2.1.then hz12)).mono ?_
                rintro e z3 ⟨h3i, rfl, i3, g3⟩
                rw [HDk.out] at i3
                have Z3 := hide (And.intro i3 (grown_trans hz12 g3))
                clear i3 g3 hz12
                obtain ⟨gk3, hgk3⟩ : ∃ gk3, gk3 = (z1.drewN q2').heap.size := ⟨_, rfl⟩
                rw [← hgk3] at Z3 ⊢
                clear hgk3
                go_wp2_with fail
                refine (sameRows_eq (some ⟨gk3, 0, none⟩) (some ⟨gf, 0, none⟩) 4 4 fcap2 (foundR D W) z3 rfl (Z3.out.1.rowsAt (by omega)) ((A10.out.2.2.2.2.2.grown Z3.out.2).rowsAt) (by omega)).mono ?_
                rintro e z4 ⟨rfl, q4, rfl⟩
                go_wp2_with fail
                have hz4 := grown_trans Z3.out.2 (grown_drewN z3 q4 none)
                refine (waitingS (show k'.calm.d = d from S0.out.1) (A10.out.1.then hz4)).mono ?_
                rintro e z5 ⟨rfl, hz5⟩
                have Z5 : Hid (z0.grownBy z5 none) := by rw [hz5]; exact hz4
                clear hz5 hz4
                go_wp2_with fail
                refine (imageS (show k'.calm.d = d from S0.out.1) (A10.out.1.then Z5.out)).mono ?_
                rintro e z6 ⟨hn, rfl, i6, g6⟩
                have Z6 := hide (And.intro i6 (And.intro (A10.out.2.2.2.1.grown (grown_trans Z5.out g6)) (And.intro (A10.out.2.2.2.2.1.grown (grown_trans Z5.out g6)) (grown_trans (A10.out.1.then Z5.out).grown g6))))
                clear i6 g6
                obtain ⟨gn, hgn⟩ : ∃ gn, gn = z5.heap.size := ⟨_, rfl⟩
                rw [← hgn] at Z6 ⊢
                clear hgn
                go_wp2_with fail
                have HS8 := hide (And.intro S4.out.1.disk.len S4.out.1.disk.fitsW)
                obtain ⟨D8, hD8⟩ : ∃ D8, D8 = stl 64 (fun i => lasts (fateK F i) (fateA F i) 64) D W W.length := ⟨_, rfl⟩
                rw [← hD8] at Z6
                have HD8 := hide hD8
                have H3 := hide r3
                clear hD8 A10 A9 A8 S7 S6 S5 S4 S3 HFS HAL O1 O2 O3 HB5 HDW UK UL UB U13 G01 G67 HLW Z1 Z3 Z5 HDk HI r3
                go_loopg [24] 4 (fun q i wr => ∃ a : Nat, q + a = 4 ∧ i = .int .i64 a ∧ Hid (∃ q, wr = z6.drewN q))
                case atStart => exact ⟨0, by omega, rfl, hide ⟨0, rfl⟩⟩
                case round =>
                  obtain ⟨a, hka, rfl, HQ⟩ := hrel
                  by_cases hk : 0 < gk
                  · have ha : a < 4 := by omega
                    obtain ⟨K1, hK1⟩ : ∃ K1, K1 = gk := ⟨_, rfl⟩
                    rw [← hK1] at hka hk
                    go_wp2_with fail
                    go_loopg [25] 64 (fun q i wr => ∃ kk : Nat, q + kk = 64 ∧ i = .int .i64 kk ∧ Hid (∃ q, wr = z6.drewN q))
                    case atStart => exact ⟨0, by omega, rfl, HQ⟩
                    case round =>
                      obtain ⟨kk, hkk, rfl, HQ2⟩ := hrel
                      by_cases hk2 : 0 < gk
                      · have hkk4 : kk < 64 := by omega
                        obtain ⟨K2, hK2⟩ : ∃ K2, K2 = gk := ⟨_, rfl⟩
                        rw [← hK2] at hkk hk2
                        obtain ⟨hna, e1⟩ : ∃ hna, hn[a]? = some hna := ⟨_, List.getElem?_eq_getElem (by rw [Z6.out.1.len, secs_length]; exact ha)⟩
                        obtain ⟨hwa, e2⟩ : ∃ hwa, hw[a]? = some hwa := ⟨_, List.getElem?_eq_getElem (by rw [Z6.out.2.2.1.len, secs_length]; exact ha)⟩
                        obtain ⟨n1, n2, -⟩ := Z6.out.1.rows a hna _ e1 (secs_get 4 64 D8 a ha)
                        obtain ⟨p1, p2, -⟩ := Z6.out.2.2.1.rows a hwa _ e2 (secs_get 4 64 D a ha)
                        obtain ⟨nv, hnv⟩ : ∃ nv, (secOf 64 D8 a)[kk]? = some nv := ⟨_, List.getElem?_eq_getElem (by rw [n2]; exact hkk4)⟩
                        obtain ⟨wv, hwv⟩ : ∃ wv, (secOf 64 D a)[kk]? = some wv := ⟨_, List.getElem?_eq_getElem (by rw [p2]; exact hkk4)⟩
                        have HC : Hid (∀ wx, (∃ q, wx = z6.drewN q) → wx.cell? ⟨gn, a, none⟩ = some (.slice (some ⟨hna, 0, none⟩) 64 64) ∧ wx.cell? ⟨gw, a, none⟩ = some (.slice (some ⟨hwa, 0, none⟩) 64 64) ∧ wx.cell? ⟨hna, kk, none⟩ = some (.int .u8 (nv : Int)) ∧ wx.cell? ⟨hwa, kk, none⟩ = some (.int .u8 (wv : Int))) := by
                          rintro wx ⟨q, rfl⟩
                          refine ⟨?_, ?_, ?_, ?_⟩
                          · exact (cell_row Z6.out.1.row a).trans (by rw [slv, List.getElem?_map, e1]; rfl)
                          · exact (cell_row Z6.out.2.2.1.row a).trans (by rw [slv, List.getElem?_map, e2]; rfl)
                          · exact (cell_row n1 kk).trans (bv_get _ kk nv hnv)
                          · exact (cell_row p1 kk).trans (bv_get _ kk wv hwv)
                        have HF : Hid (okB nv wv a kk W W.length = true) := okB_all HS8.out.1 HS8.out.2 (by rw [← HD8.out]; exact hnv) hwv
                        clear e1 e2 n1 n2 p1 p2 hnv hwv
                        have h0a : (0 : Int) ≤ (a : Int) := by omega
                        have h1a : (a : Int) < 4 := by omega
                        have h0k : (0 : Int) ≤ (kk : Int) := by omega
                        have h1k : (kk : Int) < 64 := by omega
                        obtain ⟨c1, c2, c3, c4⟩ := HC.out wr HQ2.out
                        go_upto_region 45 with fail
                        go_cut [26] from 158 to 210 (fun s26 wx => s26 = .bool (okB nv wv a kk W 0) ∧ Hid (∃ q, wx = z6.drewN q))
                        case first =>
                          have HO := hide (okB_zero nv wv a kk W)
                          by_cases hnw : nv = wv
                          · have g1 : decide ((nv : Int) = (wv : Int)) = true := by simp [hnw]
                            have g2 : ((nv : Int) == (wv : Int)) = true := by simp [hnw]
                            have g3 : (nv == wv) = true := by simp [hnw]
                            have g4 : decide (nv = wv) = true := by simp [hnw]
                            have HNW := hide hnw
                            clear hnw
                            go_quiet (fail)
                            go_wp2_with fail
                            go_meet
                            case rel => exact ⟨by rw [HO.out]; simp [HNW.out], hide (by obtain ⟨q, rfl⟩ := HQ2.out; exact drews z6 q _)⟩
                          · have g1 : ¬ (nv : Int) = (wv : Int) := by omega
                            have g2 : ((nv : Int) == (wv : Int)) = false := by simpa using g1
                            go_quiet (fail)
                            go_wp2_with fail
                            go_meet
                            case rel => exact ⟨by rw [HO.out]; simp [hnw], hide (by obtain ⟨q, rfl⟩ := HQ2.out; exact drews z6 q _)⟩
                        case rest =>
                          obtain ⟨rfl, HQ3⟩ := hcut
                          clear c1 c2 c3 c4 HQ HQ2
                          go_wp2_with fail
                          have hjl : (j : Int) ≤ 200 := by have := HT.out; omega
                          go_loopg [26, 27] j (fun q s26 i wr => ∃ i' : Nat, q + i' = j ∧ i = .int .i64 i' ∧ s26 = .bool (okB nv wv a kk W i') ∧ Hid (∃ q, wr = z6.drewN q))
                          case atStart => exact ⟨0, by omega, rfl, rfl, HQ3⟩
                          case round =>
                            obtain ⟨i, hki, rfl, rfl, HQ4⟩ := hrel
                            by_cases hk3 : 0 < gk
                            · have hiW : i < W.length := by have := H3.out; omega
                              obtain ⟨gu, rfl⟩ := HVO.out.2.2.1 (by omega)
                              obtain ⟨gv, rfl⟩ := HVO.out.1 (by omega)
                              obtain ⟨x, hx⟩ : ∃ x, W[i]? = some x := ⟨_, List.getElem?_eq_getElem hiW⟩
                              obtain ⟨gx, hgx⟩ : ∃ gx, gs[i]? = some gx := ⟨_, List.getElem?_eq_getElem (by rw [Z6.out.2.1.len]; exact hiW)⟩
                              obtain ⟨t1, t2⟩ := Z6.out.2.1.rows i gx x hgx hx
                              obtain ⟨xv, hxv⟩ : ∃ xv, x.xs[kk]? = some xv := ⟨_, List.getElem?_eq_getElem (by rw [(HS8.out.2 x (List.mem_of_getElem? hx)).2]; exact hkk4)⟩
                              have HO := hide (okB_succ nv wv a kk W i x hx)
                              have HC4 : Hid (wr.cell? ⟨gu, i, none⟩ = some (.int .i64 (x.sec : Int)) ∧ wr.cell? ⟨gv, i, none⟩ = some (.slice (some ⟨gx, 0, none⟩) 64 64) ∧ wr.cell? ⟨gx, kk, none⟩ = some (.int .u8 (xv : Int))) := by
                                obtain ⟨q, rfl⟩ := HQ4.out
                                refine ⟨?_, ?_, ?_⟩
                                · have := Z6.out.2.1.whe.cells rfl i (.int .i64 (x.sec : Int)) (by rw [List.getElem?_map, hx]; rfl)
                                  rw [Addr.add_lit, Nat.zero_add] at this
                                  exact this
                                · have := Z6.out.2.1.wro.cells rfl i (bsl gx 64) (by rw [slv, List.getElem?_map, hgx]; rfl)
                                  rw [Addr.add_lit, Nat.zero_add] at this
                                  exact this
                                · exact (cell_row t1 kk).trans (bv_get _ kk xv hxv)
                              obtain ⟨c1, c2, c3, c4⟩ := HC.out wr HQ4.out
                              obtain ⟨c5, c6, c7⟩ := HC4.out
                              have h0i : (0 : Int) ≤ (i : Int) := by omega
                              have h1i : (i : Int) < (j : Int) := by omega
                              rw [hxv] at HO
                              clear hx hgx t1 t2 hxv HC4
                              cases hb : okB nv wv a kk W i with
                              | true =>
                                rw [hb, Bool.true_or] at HO
                                clear hb
                                go_wp2_with fail
                                go_quiet (fail)
                                go_wp2
                                go_roundg (gk - 1)
                                case measure => omega
                                case rel => exact ⟨i + 1, by omega, by go_num, by rw [HO.out], hide (by obtain ⟨q, rfl⟩ := HQ4.out; exact drews z6 q _)⟩
                              | false =>
                                rw [hb, Bool.false_or] at HO
                                clear hb
                                by_cases hsa : x.sec = a
                                · have g1 : ((x.sec : Int) == (a : Int)) = true := by simp [hsa]
                                  have g2 : decide ((x.sec : Int) = (a : Int)) = true := by simp [hsa]
                                  have g3 : (x.sec == a) = true := by simp [hsa]
                                  have g4 : decide (x.sec = a) = true := by simp [hsa]
                                  clear hsa
                                  by_cases hxn : xv = nv
                                  · have l1 : ((xv : Int) == (nv : Int)) = true := by simp [hxn]
                                    have l2 : decide ((xv : Int) = (nv : Int)) = true := by simp [hxn]
                                    have l3 : (xv == nv) = true := by simp [hxn]
                                    have l4 : decide (xv = nv) = true := by simp [hxn]
                                    rw [show (decide (x.sec = a) && decide (some xv = some nv)) = true by simp [g4, hxn]] at HO
                                    clear hxn
                                    go_wp2_with fail
                                    go_quiet (fail)
                                    go_wp2
                                    go_roundg (gk - 1)
                                    case measure => omega
                                    case rel => exact ⟨i + 1, by omega, by go_num, by rw [HO.out], hide (by obtain ⟨q, rfl⟩ := HQ4.out; exact drews z6 q _)⟩
                                  · have l0 : ¬ (xv : Int) = (nv : Int) := by omega
                                    have l1 : ((xv : Int) == (nv : Int)) = false := by simpa using l0
                                    rw [show (decide (x.sec = a) && decide (some xv = some nv)) = false by simp [hxn]] at HO
                                    go_wp2_with fail
                                    go_quiet (fail)
                                    go_wp2
                                    go_roundg (gk - 1)
                                    case measure => omega
                                    case rel => exact ⟨i + 1, by omega, by go_num, by rw [HO.out], hide (by obtain ⟨q, rfl⟩ := HQ4.out; exact drews z6 q _)⟩
                                · have g0 : ¬ (x.sec : Int) = (a : Int) := by omega
                                  have g1 : ((x.sec : Int) == (a : Int)) = false := by simpa using g0
                                  rw [show (decide (x.sec = a) && decide (some xv = some nv)) = false by simp [hsa]] at HO
                                  go_wp2_with fail
                                  go_quiet (fail)
                                  go_wp2
                                  go_roundg (gk - 1)
                                  case measure => omega
                                  case rel => exact ⟨i + 1, by omega, by go_num, by rw [HO.out], hide (by obtain ⟨q, rfl⟩ := HQ4.out; exact drews z6 q _)⟩
                            · have hij : i = j := by omega
                              subst hij
                              have HE : Hid (okB nv wv a kk W i = true) := by have h1 := HF.out; have h2 := H3.out; show _ = _; rw [← h2]; exact h1
                              rw [HE.out]
                              go_wp2
                              rw [← hK2]
                              go_roundg (K2 - 1)
                              case measure => omega
                              case rel => exact ⟨kk + 1, by omega, by go_num, HQ4⟩
                      · go_wp2
                        rw [← hK1]
                        go_roundg (K1 - 1)
                        case measure => omega
                        case rel => exact ⟨a + 1, by omega, by go_num, HQ2⟩
                  · go_wp2
                    go_ret
                    refine ⟨rfl, ?_⟩
                    obtain ⟨q, rfl⟩ := HQ.out
                    exact grown_trans Z6.out.2.2.2 (grown_drewN _ _ _)
end Go.Proofs.Ytgcfjphjekkkmaa
