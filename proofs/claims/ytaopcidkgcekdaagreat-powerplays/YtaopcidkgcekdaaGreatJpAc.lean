/- Texts joined: Apr. -/
import Derived.Test.YtaopcidkgcekdaaGreatJpAb
/- The contract of ApartRows, of two images. -/
namespace Go.Proofs.YtaopcidkgcekdaaGreat
open Go.RowKit Ap
attribute [local go_sem ↓] Go.wp_at_zero Go.wp_at_succ

theorem map_getD (vs : List Value) : (List.range vs.length).map (fun k => vs.getD k undef) = vs := by
  apply List.ext_getElem?
  intro k
  rw [List.getElem?_map]
  by_cases hk : k < vs.length
  · simp [hk, List.getD_eq_getElem?_getD]
  · simp [hk]
theorem apartRw (vs : List Value) (L cap : Nat) (w : World) (hown : w.ownsRow 0 32 1 (.slice (some ⟨L, 0, none⟩) vs.length cap) vs.length vs) (hR : Rw w 0 vs) (hK : vs.length ≤ 400000) (hK0 : 0 < vs.length) :
    Calls Tryz.prog 38 #[.slice (some ⟨L, 0, none⟩) vs.length cap] w fun e w' => e = .returned (.bool true) ∧ GrownT (fun b => ∃ k, k < vs.length ∧ (vs.getD k undef).ownBlock = some b) w w' := by
  obtain ⟨n, hn⟩ : ∃ n : Nat → Nat, ∀ k, k < vs.length → ∃ xs, w.ownsRow 0 5 1 (vs.getD k undef) (n k) xs ∧ n k ≤ 140737488355000 :=
    ⟨fun k => if h : k < vs.length then Classical.choose (hR.row k h) else 0, fun k hk => by simp only [hk, dif_pos]; exact Classical.choose_spec (hR.row k hk)⟩
  obtain ⟨f, hf⟩ : ∃ f : Nat → List Value, ∀ k, k < vs.length → w.ownsRow 0 5 1 (vs.getD k undef) (n k) (f k) :=
    ⟨fun k => if h : k < vs.length then Classical.choose (hn k h) else [], fun k hk => by simp only [hk, dif_pos]; exact (Classical.choose_spec (hn k hk)).1⟩
  have hF : Fl w 0 vs.length (.slice (some ⟨L, 0, none⟩) vs.length cap) (fun k => vs.getD k undef) n f := by
    refine ⟨by rw [map_getD]; exact hown, hf, fun i k hi hk hik => ?_⟩
    by_cases h : i < k
    · exact hR.apart i k h hk
    · exact apart_swap (hR.apart k i (by omega) hi)
  exact apartBytes_any 0 vs.length L cap _ n f _ w w hF (GrownT.refl _ w) (fun i hi k e => Or.inr ⟨i, hi, e⟩) hK hK0 (fun k hk => by obtain ⟨_, _, h⟩ := hn k hk; exact h) (by omega)
theorem slv_get (size : Nat) (hs : List Nat) (j : Nat) : (slv size hs)[j]? = hs[j]?.map (fun h => .slice (some ⟨h, 0, none⟩) size size) := by simp [slv, bsl]
theorem slv_len (size : Nat) (hs : List Nat) : (slv size hs).length = hs.length := by simp [slv]
/-- Rows that lie at unlike places. -/
theorem rw_slv {w : World} {size : Nat} (hz : size ≤ 4096) (hs : List Nat) (hr : ∀ h ∈ hs, ∃ xs : List Nat, w.heap[h]? = some (.cells (bv xs).toArray 5 (0, 0)) ∧ xs.length = size) (hn : hs.Nodup) : Rw w 0 (slv size hs) := by
  induction hs with
  | nil => exact Rw.nil _ _
  | cons h r ih =>
    obtain ⟨xs, h1, h2⟩ := hr h (by simp)
    have hnd := List.nodup_cons.1 hn
    refine Rw.cons (own_of_row h1 (by rw [bv_length, h2]) (Nat.zero_le _) (by unfold maxLen; omega)) (by omega) ?_ (ih (fun a ha => hr a (by simp [ha])) hnd.2)
    intro u hu
    right
    have hu : u ∈ r.map fun h => bsl h size := hu
    rw [List.mem_map] at hu
    obtain ⟨b, hb, rfl⟩ := hu
    intro e
    have e : h = b := Option.some.inj e
    exact hnd.1 (e ▸ hb)
theorem ImgAt.nodup {w : World} {lo g sz : Nat} {R : List (List Nat)} {hs : List Nat} (h : ImgAt w lo g sz R hs) : hs.Nodup := by
  rw [List.Nodup, List.pairwise_iff_getElem]
  intro i j hi hj hij e
  have := h.up i j _ _ (List.getElem?_eq_getElem hi) (List.getElem?_eq_getElem hj) hij
  omega
theorem ImgAt.bytes {w : World} {lo g sz : Nat} {R : List (List Nat)} {hs : List Nat} (h : ImgAt w lo g sz R hs) : ∀ a ∈ hs, ∃ xs : List Nat, w.heap[a]? = some (.cells (bv xs).toArray 5 (0, 0)) ∧ xs.length = sz ∧ lo ≤ a := by
  intro a ha
  obtain ⟨j, hj⟩ := List.getElem?_of_mem ha
  have hjl : j < R.length := by rw [← h.len]; exact (List.getElem?_eq_some_iff.1 hj).1
  obtain ⟨r1, r2, r3⟩ := h.rows j a R[j] hj (List.getElem?_eq_getElem hjl)
  exact ⟨_, r1, r2, r3⟩
def catV (size : Nat) (a b : List Nat) (k : Nat) : List Value := if k = 0 then [] else if k = 1 then slv size a else slv size a ++ slv size b
theorem slv_one (size : Nat) (hs : List Nat) : ∀ u ∈ slv size hs, u.oneCell' = true := by
  intro u hu
  rw [slv, List.mem_map] at hu
  obtain ⟨b, hb, rfl⟩ := hu
  rfl
set_option maxRecDepth 20000 in
set_option maxHeartbeats 8000000 in
theorem apartRows_two (LS gA gB N SZ loA loB : Nat) (hsA hsB : List Nat) (RA RB : List (List Nat)) (w : World) (hls : w.heap[LS]? = some (.cells [.slice (some ⟨gA, 0, none⟩) N N, .slice (some ⟨gB, 0, none⟩) N N].toArray 41 (0, 0)))
    (iA : ImgAt w loA gA SZ RA hsA) (iB : ImgAt w loB gB SZ RB hsB) (lA : RA.length = N) (lB : RB.length = N) (sep : ∀ a ∈ hsA, a < loB) (hne : gA ≠ gB) (hN : 1 ≤ N) (hN8 : N ≤ 8) (hz : SZ ≤ 4096) :
    Calls Tryz.prog 57 #[.slice (some ⟨LS, 0, none⟩) 2 2] w fun e w' => e = .returned (.bool true) ∧ Kept w w' (fun i => i = gA ∨ i = gB ∨ i ∈ hsA ∨ i ∈ hsB) := by
  have hlA : hsA.length = N := iA.len.trans lA
  have hlB : hsB.length = N := iB.len.trans lB
  have c0 : w.cell? ⟨LS, 0, none⟩ = some (.slice (some ⟨gA, 0, none⟩) N N) := cell_row hls 0
  have c1 : w.cell? ⟨LS, 1, none⟩ = some (.slice (some ⟨gB, 0, none⟩) N N) := cell_row hls 1
  have HI := hide (And.intro iA (And.intro iB (And.intro hlA (And.intro hlB (And.intro sep (And.intro hne (And.intro hls (And.intro c0 c1))))))))
  clear iA iB lA lB sep hne hls hlA hlB c0 c1
  go_enter Tryz.func57, Tryz.ntmps57
  go_wp2
  go_loopg [3, 4] 2 (fun q lv kv wr => ∃ k : Nat, q + k = 2 ∧ kv = .int .i64 (k : Int) ∧ Hid (w.grownBy wr none ∧ wr.ownsRow w.heap.size 32 1 lv (k * N) (catV SZ hsA hsB k)))
  case atStart => exact ⟨0, by omega, rfl, hide ⟨grown_refl _ _, by rw [Nat.zero_mul]; exact World.ownsRow_nil _ _ _ _⟩⟩
  case round =>
    obtain ⟨k, hqk, rfl, HR⟩ := hrel
    obtain ⟨lo_, lc, hlf, _⟩ := own_form HR.out.2
    subst hlf
    by_cases hk : 0 < gk
    · obtain ⟨gk_, hsK, hgk⟩ : ∃ g hs, (k = 0 ∧ g = gA ∧ hs = hsA) ∨ (k = 1 ∧ g = gB ∧ hs = hsB) := by
        rcases (show k = 0 ∨ k = 1 by omega) with rfl | rfl
        · exact ⟨_, _, .inl ⟨rfl, rfl, rfl⟩⟩
        · exact ⟨_, _, .inr ⟨rfl, rfl, rfl⟩⟩
      have hk2i : (k : Int) < 2 := by omega
      have hcK : wr.cell? ⟨LS, k, none⟩ = some (.slice (some ⟨gk_, 0, none⟩) N N) := by
        rcases hgk with ⟨rfl, rfl, rfl⟩ | ⟨rfl, rfl, rfl⟩
        · exact HR.out.1.cell HI.out.2.2.2.2.2.2.2.1 (by simp)
        · exact HR.out.1.cell HI.out.2.2.2.2.2.2.2.2 (by simp)
      have hrK : wr.heap[gk_]? = some (.cells (slv SZ hsK).toArray 32 (0, 0)) ∧ hsK.length = N := by
        rcases hgk with ⟨rfl, rfl, rfl⟩ | ⟨rfl, rfl, rfl⟩
        · exact ⟨(HR.out.1.block _ (row_lt HI.out.1.row) (by simp)).trans HI.out.1.row, HI.out.2.2.1⟩
        · exact ⟨(HR.out.1.block _ (row_lt HI.out.2.1.row) (by simp)).trans HI.out.2.1.row, HI.out.2.2.2.1⟩
      have hcat : catV SZ hsA hsB k ++ slv SZ hsK = catV SZ hsA hsB (k + 1) := by
        rcases hgk with ⟨rfl, rfl, rfl⟩ | ⟨rfl, rfl, rfl⟩ <;> simp [catV]
      have HK := hide (And.intro hrK hcat)
      clear hrK hcat hgk
      have hkN : k * N ≤ 16 := by have := Nat.mul_le_mul (show k ≤ 2 by omega) hN8; omega
      generalize hkn : k * N = KN at *
      have HKN := hide hkn
      clear hkn
      go_wp2_with (at_builtin; refine wpList_app rfl (.tmp 11) (.tmp 15) rfl w.heap.size (.slice lo_ KN lc) KN (catV SZ hsA hsB k) rfl (Or.inr HR.out.2) ⟨gk_, 0, none⟩ N N (slv SZ hsK) rfl (by rw [slv_len]; exact HK.out.1.2) (by omega) (fun j y hy => by rw [Addr.add_lit, Nat.zero_add, cell_row HK.out.1.1]; exact hy) (slv_one _ _) (by omega) HR.out.1.size ?_)
      intro v' w4 row ho hg4
      obtain ⟨vo, vc, hvf, _⟩ := own_form ho
      subst hvf
      have H4 := hide (And.intro (grown_then HR.out.1 hg4.g (fun j e => Or.inl (hg4.low j e))) ho)
      clear ho hg4 hcK
      go_wp2
      go_roundg (gk - 1)
      case measure => omega
      case rel => exact ⟨k + 1, by omega, by go_num, hide ⟨H4.out.1, by rw [← HK.out.2, Nat.succ_mul, HKN.out]; exact H4.out.2⟩⟩
    · have hke : k = 2 := by omega
      subst hke
      have hk2i : ¬ ((2 : Nat) : Int) < 2 := by omega
      obtain ⟨vs, hvs⟩ : ∃ vs, vs = slv SZ hsA ++ slv SZ hsB := ⟨_, rfl⟩
      have hcv : catV SZ hsA hsB 2 = vs := hvs.symm
      have hvl : vs.length = 2 * N := by rw [hvs, List.length_append, slv_len, slv_len, HI.out.2.2.1, HI.out.2.2.2.1]; omega
      have hown := HR.out.2
      rw [hcv, ← hvl] at hown
      obtain ⟨g, hg⟩ : ∃ g, lo_ = some ⟨g, 0, none⟩ := by
        obtain ⟨ao, cap, e, h, _⟩ := own_form HR.out.2
        cases e
        exact h (by omega)
      subst hg
      have iA := HI.out.1.grown HR.out.1
      have iB := HI.out.2.1.grown HR.out.1
      have hrw : Rw wr 0 vs := by
        have e : vs = slv SZ (hsA ++ hsB) := by rw [hvs]; simp [slv]
        rw [e]
        refine rw_slv hz _ ?_ ?_
        · intro a ha
          rcases List.mem_append.1 ha with h | h
          · obtain ⟨xs, h1, h2, _⟩ := iA.bytes a h; exact ⟨xs, h1, h2⟩
          · obtain ⟨xs, h1, h2, _⟩ := iB.bytes a h; exact ⟨xs, h1, h2⟩
        · refine List.nodup_append.2 ⟨iA.nodup, iB.nodup, fun a ha b hb e => ?_⟩
          obtain ⟨_, _, _, h3⟩ := iB.bytes b hb
          have := HI.out.2.2.2.2.1 a ha
          omega
      have hown0 : wr.ownsRow 0 32 1 (.slice (some ⟨g, 0, none⟩) vs.length lc) vs.length vs := by
        exact ownsRow_le hown (Nat.zero_le _)
      have HAP := hide (apartRw vs g lc wr hown0 hrw (by omega) (by omega))
      have HHB : Hid (∀ b, (∃ k, k < vs.length ∧ (vs.getD k undef).ownBlock = some b) → b ∈ hsA ∨ b ∈ hsB) := by
        rintro b ⟨k, hk, e⟩
        have hm : vs.getD k undef ∈ vs := by
          rw [List.getD_eq_getElem?_getD, List.getElem?_eq_getElem hk]
          exact List.getElem_mem hk
        generalize vs.getD k undef = x at e hm
        rw [hvs] at hm
        rcases List.mem_append.1 hm with h | h
        · rw [slv, List.mem_map] at h
          obtain ⟨a, ha, e2⟩ := h
          subst e2
          cases e
          exact .inl ha
        · rw [slv, List.mem_map] at h
          obtain ⟨a, ha, e2⟩ := h
          subst e2
          cases e
          exact .inr ha
      rw [← hvl]
      have HG := hide HR.out.1
      have HIW := hide (And.intro iA iB)
      clear hown hrw hown0 hcv HR iA iB
      generalize vs.length = VL at *
      clear hvl hvs
      go_wp2_with fail
      refine HAP.out.mono ?_
      rintro e w5 ⟨rfl, g5⟩
      have H5 := hide g5
      clear g5
      obtain ⟨A, hA⟩ : ∃ A : Nat → Nat, A = fun k => if k = 0 then gA else gB := ⟨_, rfl⟩
      have hnot : ∀ (i : Nat) (c : Array Value) (t : TypeId) (fr : Nat × Nat), w.heap[i]? = some (Obj.cells c t fr) → t ≠ 5 → w5.heap[i]? = w.heap[i]? := by
        intro i c t fr hi ht
        have hr := HG.out.block i (row_lt hi) (by simp)
        refine (H5.out.block i (by rw [← hr] at hi; exact row_lt hi) ?_).trans hr
        intro hT
        rcases HHB.out i hT with h | h
        · obtain ⟨xs, h1, _⟩ := HIW.out.1.bytes i h
          rw [hr, hi] at h1
          simp at h1
          exact ht h1.2.1
        · obtain ⟨xs, h1, _⟩ := HIW.out.2.bytes i h
          rw [hr, hi] at h1
          simp at h1
          exact ht h1.2.1
      have hb5 : FB w5 LS A N w5.heap.size := by
        have hl5 := (hnot LS _ _ _ HI.out.2.2.2.2.2.2.1 (by decide)).trans HI.out.2.2.2.2.2.2.1
        have ha5 := (hnot gA _ _ _ HI.out.1.row (by decide)).trans HI.out.1.row
        have hb5 := (hnot gB _ _ _ HI.out.2.1.row (by decide)).trans HI.out.2.1.row
        subst hA
        refine ⟨?_, ⟨_, hl5⟩, ?_, by simpa using HI.out.2.2.2.2.2.1, ⟨row_lt hl5, ?_⟩, Nat.le_refl _⟩
        · intro k hk
          rw [cell_row hl5]
          rcases (show k = 0 ∨ k = 1 by omega) with rfl | rfl <;> rfl
        · intro k hk
          rcases (show k = 0 ∨ k = 1 by omega) with rfl | rfl
          · exact ⟨_, ha5, by rw [slv_len]; exact HI.out.2.2.1⟩
          · exact ⟨_, hb5, by rw [slv_len]; exact HI.out.2.2.2.1⟩
        · intro k hk
          rcases (show k = 0 ∨ k = 1 by omega) with rfl | rfl
          · exact row_lt ha5
          · exact row_lt hb5
      have HFL := hide (flatRows_two LS N A w5 hN hN8 hb5)
      have HA := hide hA
      clear hb5 hnot hA
      go_wp2_with fail
      refine HFL.out.mono ?_
      rintro e w6 ⟨rfl, k6⟩
      have K6 := hide k6
      clear k6
      go_wp2
      go_ret
      refine ⟨rfl, ?_⟩
      have k1 : Kept w wr (fun i => i = gA ∨ i = gB ∨ i ∈ hsA ∨ i ∈ hsB) := Kept.new HG.out _
      have k2 : Kept wr w5 (fun i => i = gA ∨ i = gB ∨ i ∈ hsA ∨ i ∈ hsB) := ⟨H5.out.os, H5.out.tape, H5.out.output, H5.out.size, fun i hi hn => H5.out.block i hi (fun hT => hn ((HHB.out i hT).elim (fun h => .inr (.inr (.inl h))) (fun h => .inr (.inr (.inr h)))))⟩
      have k3 : Kept w5 w6 (fun i => i = gA ∨ i = gB ∨ i ∈ hsA ∨ i ∈ hsB) := K6.out.mono (fun i _ e => by
        rw [HA.out] at e
        rcases e with e | e
        · exact .inl e
        · exact .inr (.inl e))
      exact (k1.trans k2 (fun _ _ e => e)).trans k3 (fun _ _ e => e)
end Go.Proofs.YtaopcidkgcekdaaGreat
