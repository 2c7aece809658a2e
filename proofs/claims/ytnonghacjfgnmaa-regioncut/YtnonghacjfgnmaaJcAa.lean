/- Texts joined: Cu0, Cut, ArgV. -/
import Derived.Test.YtnonghacjfgnmaaJbAo
/- A write on an armed device: what it leaves behind a restart that keeps all. -/
namespace Go.Proofs.Ytnonghacjfgnmaa
open Go.RowKit Ap
attribute [local go_sem ↓] Go.wp_at_zero Go.wp_at_succ

theorem Dv.goes_next_off {s : Dv} (h : s.off = false) : s.next.off = !s.goes := by
  unfold Dv.next Dv.goes
  rw [h]
  by_cases h0 : s.arm = 0 <;> simp [h0]
theorem wgo_code (f : Nat → Bool) (m k : Nat) (s : Dv) (h : s.off = false) : ((wgo f m k s).2.1 = 0 ∧ (wgo f m k s).2.2.off = false ∧ (wgo f m k s).1 = m) ∨ ((wgo f m k s).2.1 = 60 ∧ (wgo f m k s).2.2.off = true ∧ (wgo f m k s).1 ≤ m) := by
  induction m generalizing k s with
  | zero => exact .inl ⟨rfl, h, rfl⟩
  | succ m ih =>
    rw [wgo_step]
    have h1 := Dv.goes_next_off h
    cases hg : s.goes with
    | false =>
      rw [hg] at h1
      simp only [Bool.false_eq_true, if_false]
      exact .inr ⟨trivial, h1, Nat.zero_le _⟩
    | true =>
      rw [hg] at h1
      have h1 : s.next.off = false := h1
      simp only [if_true]
      cases f k with
      | true =>
        simp only [if_true]
        rcases ih (k + 1) s.next h1 with ⟨a, b, c⟩ | ⟨a, b, c⟩
        · exact .inl ⟨a, b, by omega⟩
        · exact .inr ⟨a, b, by omega⟩
      | false =>
        simp only [Bool.false_eq_true, if_false]
        have h2 := Dv.goes_next_off h1
        cases hg2 : s.next.goes with
        | false =>
          rw [hg2] at h2
          simp only [Bool.false_eq_true, if_false]
          exact .inr ⟨trivial, h2, Nat.zero_le _⟩
        | true =>
          rw [hg2] at h2
          simp only [if_true]
          rcases ih (k + 1) s.next.next h2 with ⟨a, b, c⟩ | ⟨a, b, c⟩
          · exact .inl ⟨a, b, by omega⟩
          · exact .inr ⟨a, b, by omega⟩
/-- As many fates that keep. -/
def keepF (j : Nat) : List (Int × Int) := List.replicate j (1, 0)
theorem keep_crash {n size F at_ j : Nat} {D : List Nat} {P : List Pr} {b : List Nat} (hs : 0 < size) (hA : (now size D P).length = n * size) (hfit : F * size + at_ + b.length ≤ n * size) (hj : j ≤ pcn size at_ b.length) (hP : P = []) :
    (crashA size (keepF j) (D, P ++ pcs size F at_ (splice (now size D P) (F * size + at_) b) j)).1 = splice (now size D P) (F * size + at_) (b.take ((at_ / size + j) * size - at_)) := by
  subst hP
  rw [← now_pcs hs hA hfit j hj]
  have hl : ([] ++ pcs size F at_ (splice (now size D []) (F * size + at_) b) j).length = j := by simp [pcs_length]
  have hL : ∀ i, i < j → lasts (fateK (keepF j) i) (fateA (keepF j) i) size = size := by
    intro i hi
    simp [fateK, keepF, hi, lasts]
  obtain ⟨Q, hQ⟩ : ∃ Q, Q = [] ++ pcs size F at_ (splice (now size D []) (F * size + at_) b) j := ⟨_, rfl⟩
  rw [← hQ] at hl ⊢
  show stlP size _ D Q Q.length = stlP size _ D Q Q.length
  have key : ∀ i, i ≤ Q.length → stlP size (fun i => lasts (fateK (keepF j) i) (fateA (keepF j) i) size) D Q i = stlP size (fun _ => size) D Q i := by
    intro i hi
    induction i with
    | zero => rfl
    | succ i ih =>
      rw [stlP, stlP, ih (by omega), List.getElem?_eq_getElem (by omega)]
      simp only
      rw [hL i (by omega)]
  exact key _ (Nat.le_refl _)
set_option maxRecDepth 20000 in
set_option maxHeartbeats 4000000 in
theorem flat_own (w0 w : World) (g n size lo : Nat) (D : List Nat) (hs : List Nat) (hI : ImgAt w lo g size (secs n size D) hs) (hg : w0.grownBy w none) (hD : D.length = n * size) (hn : n ≤ 65536) (hsz : size ≤ 4096) :
    Calls Try.prog 33 #[.slice (some ⟨g, 0, none⟩) n n] w fun e w' => ∃ ao cap, e = .returned (.slice ao (n * size) cap) ∧ (At w' ao D ∧ w.grownBy w' none ∧ (∀ a, ao = some a → a = ⟨a.block, 0, none⟩ ∧ w.heap.size ≤ a.block) ∧ n * size ≤ cap) := by
  have HI := hide (And.intro hI (And.intro hg hD))
  have hm : n * size ≤ 65536 * 4096 := Nat.mul_le_mul hn hsz
  clear hI hg hD
  go_enter Try.func33, Try.ntmps33
  go_wp2
  go_loopg [3, 4] n (fun q v i wr => ∃ j : Nat, q + j = n ∧ i = .int .i64 j ∧ Hid (wr.ownsRow w.heap.size 5 1 v (j * size) (bv (D.take (j * size))) ∧ w.grownBy wr none))
  case atStart => exact ⟨0, by omega, rfl, hide ⟨by rw [Nat.zero_mul, List.take_zero]; exact World.ownsRow_nil _ _ _ _, grown_refl _ _⟩⟩
  case round =>
    obtain ⟨j, hkj, rfl, HR⟩ := hrel
    by_cases hk : 0 < gk
    · have hj : j < n := by omega
      have hx := secs_get n size D j hj
      obtain ⟨h, hh⟩ : ∃ h, hs[j]? = some h := ⟨_, List.getElem?_eq_getElem (by rw [HI.out.1.len, secs_length]; exact hj)⟩
      obtain ⟨r1, r2, r3⟩ := HI.out.1.rows j h _ hh hx
      have hrow := (HR.out.2.block _ (row_lt HI.out.1.row) (by simp)).trans HI.out.1.row
      have cj : wr.cell? ⟨g, j, none⟩ = some (.slice (some ⟨h, 0, none⟩) size size) := by
        rw [cell_row hrow]
        simp [slv, hh, bsl]
      have hle : (j + 1) * size ≤ n * size := Nat.mul_le_mul_right _ (by omega)
      have HA : Hid (At wr (some ⟨h, 0, none⟩) (secOf size D j)) := at_row ((HR.out.2.block _ (row_lt r1) (by simp)).trans r1)
      have h1 : (0 : Int) ≤ (j : Int) := by omega
      have h2 : (j : Int) < (n : Int) := by omega
      have hl := hide r2
      rw [Nat.succ_mul] at hle
      clear r1 r2 r3 hrow hh hx
      go_wp2_with (at_builtin; refine wpList_append_at rfl (.tmp 11) (.tmp 15) rfl w.heap.size _ (j * size) (D.take (j * size)) rfl HR.out.1 (some ⟨h, 0, none⟩) size size (secOf size D j) rfl hl.out HA.out (fun e => by cases e) (by omega) HR.out.2.size ?_)
      intro v' w' hown hg
      have H2 : Hid (w'.ownsRow w.heap.size 5 1 v' ((j + 1) * size) (bv (D.take ((j + 1) * size))) ∧ w.grownBy w' none) := by
        refine ⟨?_, grown_then HR.out.2 hg (fun b e => Or.inl (own_block HR.out.1 b e).1)⟩
        rw [Nat.succ_mul, List.take_add]
        exact hown
      clear hown hg
      go_wp2
      go_roundg (gk - 1)
      case measure => omega
      case rel => exact ⟨j + 1, by omega, by go_num, H2⟩
    · have hj : j = n := by omega
      subst hj
      obtain ⟨ao, cap, rfl, h1, h2, h3, h4, h5, h6⟩ := own_at HR.out.1
      have H4 := hide h4
      have H6 := hide (And.intro (fun a (e : ao = some a) => And.intro (h6 a e).1 (h6 a e).2.1) h2)
      rw [List.take_of_length_le (by rw [HI.out.2.2]; exact Nat.le_refl _)] at H4
      clear h1 h2 h3 h4 h5 h6
      go_wp2
      go_ret
      exact ⟨ao, cap, rfl, H4.out, HR.out.2, H6.out.1, H6.out.2⟩
theorem set_bytes {w : World} {A i v : Nat} {xs : List Nat} (h : w.heap[A]? = some (.cells (bv xs).toArray 5 (0, 0))) : (w.setCell ⟨A, i, none⟩ (.int .u8 (v : Int))).heap[A]? = some (.cells (bv (xs.set i v)).toArray 5 (0, 0)) := by
  have := row_setCell h i (.int .u8 (v : Int))
  rw [this]
  simp [bv, List.map_set]
theorem splice_set (Q ys : List Nat) (k t u : Nat) (hu : ys[t]? = some u) (h : k + ys.length ≤ Q.length) : (splice Q k (ys.take t)).set (k + t) u = splice Q k (ys.take (t + 1)) := by
  have ht : t < ys.length := (List.getElem?_eq_some_iff.1 hu).1
  have l1 : (ys.take t).length = t := by simp; omega
  have l2 : (ys.take (t + 1)).length = t + 1 := by simp; omega
  apply List.ext_getElem?
  intro i
  rw [List.getElem?_set, length_splice _ _ _ (by omega), splice_get _ _ _ _ (by omega), splice_get _ _ _ _ (by omega), l1, l2, List.getElem?_take, List.getElem?_take]
  by_cases e : k + t = i
  · subst e
    rw [if_pos rfl, if_pos (by omega), if_pos (by omega), if_pos (by omega), Nat.add_sub_cancel_left, hu]
  · rw [if_neg e]
    by_cases hx : k ≤ i ∧ i < k + t
    · rw [if_pos hx, if_pos (by omega), if_pos (by omega), if_pos (by omega)]
    · rw [if_neg hx, if_neg (by omega)]
theorem splice_mid (N o : Nat) (R : List Nat) (h : o + R.length ≤ N) : ((splice (zs N) o R).drop o).take R.length = R := by
  apply List.ext_getElem?
  intro i
  rw [List.getElem?_take, List.getElem?_drop, splice_get _ _ _ _ (by rw [zs_length]; omega)]
  by_cases hi : i < R.length
  · rw [if_pos hi, if_pos (by omega)]; congr 1; omega
  · rw [if_neg hi, List.getElem?_eq_none (by omega)]
end Go.Proofs.Ytnonghacjfgnmaa
/- RegionCut. -/
namespace Go.Proofs.Ytnonghacjfgnmaa
open Go.RowKit Ap
attribute [local go_sem ↓] Go.wp_at_zero Go.wp_at_succ

theorem tdiv64' (l : Nat) : (l : Int).tdiv 64 = ((l / 64 : Nat) : Int) := (Int.ofNat_tdiv l 64).symm
theorem pt_two (w : World) (o p : Pt) (bo co : Option Addr) (bc cc : Nat) :
    ((w.alloc (.cells #[.int .i64 o.at_, .slice bo o.B.length bc] 74)).alloc (.cells #[.int .i64 p.at_, .slice co p.B.length cc] 74)).cell? ⟨w.heap.size, 0, none⟩ = some (.int .i64 o.at_) ∧
    ((w.alloc (.cells #[.int .i64 o.at_, .slice bo o.B.length bc] 74)).alloc (.cells #[.int .i64 p.at_, .slice co p.B.length cc] 74)).cell? ⟨w.heap.size, 1, none⟩ = some (.slice bo o.B.length bc) ∧
    ((w.alloc (.cells #[.int .i64 o.at_, .slice bo o.B.length bc] 74)).alloc (.cells #[.int .i64 p.at_, .slice co p.B.length cc] 74)).cell? ⟨w.heap.size + 1, 0, none⟩ = some (.int .i64 p.at_) ∧
    ((w.alloc (.cells #[.int .i64 o.at_, .slice bo o.B.length bc] 74)).alloc (.cells #[.int .i64 p.at_, .slice co p.B.length cc] 74)).cell? ⟨w.heap.size + 1, 1, none⟩ = some (.slice co p.B.length cc) := by
  have g2 := World.grownBy_alloc (w.alloc (.cells #[.int .i64 o.at_, .slice bo o.B.length bc] 74)) (.cells #[.int .i64 p.at_, .slice co p.B.length cc] 74) none
  have z1 : (w.alloc (.cells #[.int .i64 o.at_, .slice bo o.B.length bc] 74)).heap.size = w.heap.size + 1 := Array.size_push ..
  have n1 : (w.alloc (.cells #[.int .i64 o.at_, .slice bo o.B.length bc] 74)).heap[w.heap.size]? = some (.cells #[.int .i64 o.at_, .slice bo o.B.length bc] 74 (0, 0)) := heap_alloc_new w _
  have n2 := heap_alloc_new (w.alloc (.cells #[.int .i64 o.at_, .slice bo o.B.length bc] 74)) (.cells #[.int .i64 p.at_, .slice co p.B.length cc] 74)
  rw [z1] at n2
  have n1' := (g2.block _ (row_lt n1) (by simp)).trans n1
  exact ⟨cell_row (l := [_, _]) n1' 0, cell_row (l := [_, _]) n1' 1, cell_row (l := [_, _]) n2 0, cell_row (l := [_, _]) n2 1⟩
theorem own_grown {w w' : World} {B : Nat} {e : TypeId} {s : Nat} {v : Value} {n : Nat} {xs : List Value} (h : w.ownsRow B e s v n xs) (hg : w.grownBy w' none) : w'.ownsRow B e s v n xs :=
  ⟨h.1, h.2.imp id (fun ⟨g, cap, cur, e1, e2, e3, e4⟩ => ⟨g, cap, cur, e1, e2, (hg.block g (row_lt e3) (by simp)).trans e3, e4⟩)⟩
theorem keepF_succ (t : Nat) : keepF (t + 1) = keepF t ++ [(1, 0)] := List.replicate_succ'
theorem keepF_len (t : Nat) : (keepF t).length = t := by simp [keepF]
/-- A region that has just been synced, and a plain row of the same bytes. -/
structure CuS (w0 w : World) (b r F C P : Nat) (k : Dk) (s : Dv) (Q : List Nat) : Prop where
  dev : Dev w0 w 6 64 b s k (splice (zs (6 * 64)) (F * 64) Q) []
  rg : RgAt w r b F C
  hP : w.heap[P]? = some (.cells (bv Q).toArray 5 (0, 0))
  len : Q.length = C * 64
  off : ¬ foot k [] P
  low : w0.heap.size ≤ P
  fit : F + C ≤ 6
theorem CuS.then {w0 w w' : World} {b r F C P : Nat} {k : Dk} {s : Dv} {Q : List Nat} (h : CuS w0 w b r F C P k s Q) (hg : w.grownBy w' none) : CuS w0 w' b r F C P k s Q :=
  ⟨h.dev.then hg, h.rg.grown hg, (hg.block _ (row_lt h.hP) (by simp)).trans h.hP, h.len, h.off, h.low, h.fit⟩
theorem CuS.pb {w0 w : World} {b r F C P : Nat} {k : Dk} {s : Dv} {Q : List Nat} (h : CuS w0 w b r F C P k s Q) : P ≠ b := by
  rintro rfl
  have := h.dev.dev.head
  rw [h.hP] at this
  simp at this
/-- Armed, it writes. -/
theorem CuS.write {w0 w : World} {b r F C P c : Nat} {k : Dk} {s : Dv} {Q : List Nat} (h : CuS w0 w b r F C P k s Q) (hs : s.off = false) (hc : s.cnt = c) (hcb : c ≤ 90000) (at_ cap : Nat) (ao : Option Addr) (xs : List Nat) (hat : At w ao xs) (hcap : xs.length ≤ cap) (hfit : at_ + xs.length ≤ C * 64) (hoff : ∀ a, ao = some a → 0 < xs.length → ¬ k.own a.block ∧ a.block ≠ b) :
    Calls Try.prog 9 #[.pointer (some ⟨r, 0, none⟩), .int .i64 (at_ : Int), .slice ao xs.length cap] w fun e w' => ∃ x : Int, e = .returned (.int .i64 x) ∧ ∃ k' W' s' j, (Dev w0 w' 6 64 b s' k' (splice (zs (6 * 64)) (F * 64) Q) W' ∧ RgAt w' r b F C ∧ w'.heap[P]? = some (.cells (bv Q).toArray 5 (0, 0)) ∧ ¬ foot k' W' P ∧ DvM w w' b k k' [] W' ∧ W'.length = j ∧ j ≤ 8 ∧
      (∀ Fs, Fs = keepF j → (crashA 64 Fs (splice (zs (6 * 64)) (F * 64) Q, abs W')).1 = splice (zs (6 * 64)) (F * 64) (splice Q at_ (xs.take ((at_ / 64 + j) * 64 - at_)))) ∧ ((x = 0 ∧ s'.off = false ∧ xs.length ≤ (at_ / 64 + j) * 64 - at_) ∨ (x = 60 ∧ s'.off = true))) := by
  have hfC := h.fit
  have hm := pcn_le (size := 64) (at_ := at_) (n := xs.length) (by omega)
  have hl64 : xs.length ≤ 384 := by omega
  have hzl : (zs (6 * 64)).length = 6 * 64 := zs_length _
  have hA : (splice (zs (6 * 64)) (F * 64) Q).length = 6 * 64 := by rw [length_splice _ _ _ (by rw [hzl, h.len]; omega), hzl]
  refine (gWrite_at h.dev h.rg hfC at_ cap ao xs hat hcap (by omega) hoff (by show 0 + _ ≤ _; omega) (by omega)).mono ?_
  rintro e w' ⟨x, rfl, hx⟩
  obtain ⟨k', W', d', m', e'⟩ := hx.left
  have hr := h.dev.far h.rg.head (by decide) (by decide) (by decide) (by decide)
  have hwc := wgo_code (full 64 at_ xs.length) (pcn 64 at_ xs.length) 0 s hs
  have hj : (wgo (full 64 at_ xs.length) (pcn 64 at_ xs.length) 0 s).1 ≤ pcn 64 at_ xs.length := by rcases hwc with h | h <;> omega
  have hl' : W'.length = (wgo (full 64 at_ xs.length) (pcn 64 at_ xs.length) 0 s).1 := by
    have := congrArg List.length e'
    rw [abs_length, List.length_append, abs_length, pcs_length] at this
    simpa using this
  refine ⟨x, rfl, k', W', _, _, d', h.rg.kept m'.kept (fun e => e.elim hr.1 hr.2), m'.other h.hP (fun e => h.off (.inl e)) h.pb, ?_, m', hl', by omega, ?_, ?_⟩
  · intro hf
    rcases m'.foot hf with e | e
    · exact h.off e
    · have := row_lt h.hP; omega
  · rintro Fs rfl
    rw [e', show abs ([] : List Wt) = [] from rfl]
    have hkc := keep_crash (n := 6) (size := 64) (F := F) (at_ := at_) (D := splice (zs (6 * 64)) (F * 64) Q) (P := []) (b := xs) (by omega) hA (by omega) hj rfl
    rw [hkc]
    show splice (splice (zs (6 * 64)) (F * 64) Q) _ _ = _
    rw [splice_in _ _ _ _ _ (by rw [h.len]; simp; omega) (by rw [h.len, hzl]; omega)]
  · rcases hwc with ⟨e1, e2, e3⟩ | ⟨e1, e2, e3⟩
    · exact .inl ⟨by rw [hx.code, e1], e2, by rw [e3]; exact pc_last (by omega)⟩
    · exact .inr ⟨by rw [hx.code, e1], e2⟩
set_option maxRecDepth 20000 in
set_option maxHeartbeats 16000000 in
theorem cut_any (x y : Int) (o p : Pt) (bo co : Option Addr) (bc cc : Nat) (n : Int) (w : World) (ho : BIn w bo bc o.B) (hp : BIn w co cc p.B) :
    Calls Try.prog 6 #[.int .i64 x, .int .i64 y, .agg #[.int .i64 o.at_, .slice bo o.B.length bc], .agg #[.int .i64 p.at_, .slice co p.B.length cc], .int .i64 n] w fun e w' => e = .returned (.bool true) ∧ w.grownBy w' none := by
  have HO := hide (And.intro ho hp)
  have hFC := in_ok x y
  have G1 : Hid (w.grownBy ((w.alloc (.cells #[.int .i64 o.at_, .slice bo o.B.length bc] 74)).alloc (.cells #[.int .i64 p.at_, .slice co p.B.length cc] 74)) none) := grown_trans (World.grownBy_alloc w _ none) (World.grownBy_alloc _ _ none)
  have HT := hide (pt_two w o p bo co bc cc)
  clear ho hp
  go_enter Try.func6, Try.ntmps6
  go_wp2_with fail
  generalize (w.alloc (.cells #[.int .i64 o.at_, .slice bo o.B.length bc] 74)).alloc (.cells #[.int .i64 p.at_, .slice co p.B.length cc] 74) = wA at *
  generalize w.heap.size + 1 = a8 at *
  generalize w.heap.size = a7 at *
  refine (inner_any wA wA x y (grown_refl _ _)).mono ?_
  rintro e w1 ⟨b, r, k, rfl, h1⟩
  have H1 := hide h1
  clear h1
  generalize inF x = F at *
  generalize inC x y = C at *
  obtain ⟨L, hL⟩ : ∃ L, L = C * 64 := ⟨_, rfl⟩
  have HL := hide hL
  have hLb : 64 ≤ L ∧ L ≤ 384 ∧ 64 * F + L ≤ 384 := by omega
  have hby := gBytes_at H1.out.1 H1.out.2.1 (by omega)
  rw [← hL] at hby
  have HBY := hide hby
  clear hby hL
  go_wp2_with fail
  refine HBY.out.mono ?_
  rintro e w2 ⟨rfl, q2, rfl⟩
  have H2 := hide (And.intro (H1.out.1.drew q2) (H1.out.2.1.drew q2))
  generalize w1.drewN q2 = w2 at *
  have hmk := make_bytes L (by omega) w2
  have g3 := World.grownBy_alloc w2 (.cells (bv (zs L)).toArray 5) none
  have n3 : (w2.alloc (.cells (bv (zs L)).toArray 5)).heap[w2.heap.size]? = some (.cells (bv (zs L)).toArray 5 (0, 0)) := heap_alloc_new w2 _
  have B3 : Hid (BkS wA (w2.alloc (.cells (bv (zs L)).toArray 5)) b r F C w2.heap.size k [] 0 (zs L) (zs L)) := by
    refine ⟨H2.out.1.then g3, H2.out.2.grown g3, n3, by rw [zs_length]; exact HL.out, ?_, H2.out.1.disk.grown.size, by rw [zs_length]; exact HL.out, ?_, hFC.2.2⟩
    · intro hf
      have := H2.out.1.disk.disk.lt _ hf
      omega
    · show zs (6 * 64) = _
      rw [zs_splice _ _ _ (by omega)]
  have c70 := B3.out.dev.disk.grown.cell HT.out.1 (by simp)
  have c71 := B3.out.dev.disk.grown.cell HT.out.2.1 (by simp)
  clear g3 n3 H1 H2 HBY
  go_wp2_with fail
  generalize w2.alloc (.cells (bv (zs L)).toArray 5) = w3 at *
  generalize w2.heap.size = P at *
  clear hmk
  have OA := hide (HO.out.1.grown (grown_trans G1.out B3.out.dev.disk.grown))
  refine (fits_any o bo bc L w3 OA.out (by omega)).mono ?_
  rintro e w4 ⟨rfl, g4⟩
  have B4 := hide (And.intro (B3.out.then g4) ((OA.out.ptB L).grown g4))
  have AT0 := hide ((HO.out.1.ptB L).at_.grown G1.out)
  clear g4 c70 c71 B3 OA
  have hpf := pt_fit o L
  generalize ptAt o L = kk at *
  generalize ptB o L = xs at *
  go_wp2_with fail
  refine (copyBytes_any bo xs.length bc xs w4 rfl B4.out.2.at_ B4.out.2.nil (by have := B4.out.2.size; omega)).mono ?_
  rintro e w5 ⟨v, rfl, o5, g5⟩
  obtain ⟨ao5, cap5, rfl, x1, x2, x3, x4, x5, x6⟩ := own_at o5
  have B5 := hide (And.intro (B4.out.1.then g5) (And.intro x4 (And.intro x2 (fun a (e : ao5 = some a) => (x6 a e).2.1))))
  have hlt : Hid (∀ i, foot k [] i ∨ i = b → i < w4.heap.size) := by
    rintro i (hf | rfl)
    · exact B4.out.1.dev.disk.disk.lt i hf
    · exact B4.out.1.dev.dev.lt
  clear o5 g5 x1 x2 x3 x4 x5 x6
  go_wp2_with fail
  refine (B5.out.1.write kk cap5 ao5 xs B5.out.2.1 B5.out.2.2.1 (by have := HL.out; omega) (fun a e _ => ⟨fun hf => ?_, fun hf => ?_⟩) (by simp) (by omega)).mono ?_
  · have := hlt.out _ (.inl (.inl hf)); have := B5.out.2.2.2 a e; omega
  · have := hlt.out _ (.inr hf); have := B5.out.2.2.2 a e; omega
  rintro e w6 ⟨rfl, k6, W6, c6, b6, l1, l2, l3, m6⟩
  have B6 := hide b6
  have hc6 : c6 ≤ 100 := by omega
  clear b6 m6 l1 l2 l3 hlt B5
  go_wp2_with fail
  refine (B6.out.sync (by omega)).mono ?_
  rintro e w7 ⟨rfl, k7, h7⟩
  have D7 := hide h7
  have hoff7 : Hid (¬ foot k7 [] P) := fun hf => by
    rcases h7.2.2.2.foot hf with e | e
    · exact B6.out.off e
    · have := row_lt B6.out.hP; omega
  have hlow7 := hide (And.intro B6.out.low (And.intro B6.out.len B6.out.qlen))
  clear h7 B6 B4
  have hsl := slice_fromC P L L kk (by omega) (Nat.le_refl _)
  have hplen : (zs L).length = L := zs_length _
  obtain ⟨w8, hrun, hP8, hg8⟩ := run_copy_any w7 P (cutO kk L) (L - kk) (L - kk) bo xs.length bc (zs L) xs D7.out.2.1 (Nat.min_eq_left (by omega)).symm (by unfold cutO; split <;> omega) (AT0.out.grown D7.out.1.disk.grown)
  have C8 : Hid (CuS wA w8 b r F C P k7 (frD (c6 + 1)) (splice (zs L) kk xs)) := by
    have e8 : splice (zs L) (cutO kk L) xs = splice (zs L) kk xs := by have := splice_cut (zs L) xs kk (by omega); rwa [hplen] at this
    rw [e8] at hP8
    have nr : some r ≠ some P := fun e => by have e := Option.some.inj e; have := D7.out.2.2.1.head; rw [e, D7.out.2.1] at this; simp at this
    have pb : P ≠ b := by rintro rfl; have := D7.out.1.dev.head; rw [D7.out.2.1] at this; simp at this
    exact ⟨D7.out.1.row hg8 hoff7.out pb hlow7.out.1, ⟨(hg8.block _ D7.out.2.2.1.lt nr).trans D7.out.2.2.1.head⟩, hP8, hlow7.out.2.2, hoff7.out, hlow7.out.1, hFC.2.2⟩
  have c80 := C8.out.dev.disk.grown.cell HT.out.2.2.1 (by simp)
  have c81 := C8.out.dev.disk.grown.cell HT.out.2.2.2 (by simp)
  generalize splice (zs L) kk xs = Q at *
  clear hP8 hg8 D7 hoff7 hlow7 AT0
  generalize xs.length = lx at *
  go_wp2_with fail
  have OP := hide (HO.out.2.grown (grown_trans G1.out C8.out.dev.disk.grown))
  refine (fits_any p co cc L w8 OP.out (by omega)).mono ?_
  rintro e w9 ⟨rfl, g9⟩
  have C9 := hide (And.intro (C8.out.then g9) ((OP.out.ptB L).grown g9))
  have AT1 := hide ((HO.out.2.ptB L).at_.grown G1.out)
  clear g9 c80 c81 C8 OP hsl hrun hpf
  have hpf := pt_fit p L
  generalize ptAt p L = k2 at *
  generalize ptB p L = ys at *
  have hq := tdiv64' ys.length
  have hz6 : ys.length / 64 ≤ 6 := by omega
  obtain ⟨n2, hn2⟩ : ∃ n2, n2 = ptAt ⟨n, []⟩ (ys.length / 64 + 4) := ⟨_, rfl⟩
  have HP1 : Hid (∀ w, Calls Try.prog 31 #[.int .i64 n, .int .i64 (((ys.length / 64 : Nat) : Int) + 5)] w fun e w' => e = .returned (.int .i64 (n2 : Int)) ∧ w' = w) := fun w => by
    have := pick_any n (((ys.length / 64 : Nat) : Int) + 5) (ys.length / 64 + 4 + 1) w (by omega) (by omega) (by omega)
    rw [hn2, ptAt_cast]
    exact this
  have hn2b : n2 ≤ 10 := by have := ptAt_le ⟨n, []⟩ (ys.length / 64 + 4); omega
  clear hn2
  generalize ys.length / 64 = z at *
  go_wp2_with fail
  refine (HP1.out _).mono ?_
  rintro e w' ⟨rfl, rfl⟩
  go_wp2_with fail
  refine (arm_any C9.out.1.dev.dev n2 (by omega)).mono ?_
  rintro e w10 ⟨rfl, d10, g10⟩
  rw [show (frD (c6 + 1)).upc = 0 from rfl]
  have hr10 : some r ≠ some b := fun e => by have e := Option.some.inj e; have h1 := C9.out.1.rg.head; rw [e, C9.out.1.dev.dev.head] at h1; simp at h1
  have hp10 : some P ≠ some b := fun e => C9.out.1.pb (Option.some.inj e)
  have ha10 : (frD (c6 + 1)).armed n2 = ⟨false, n2, c6 + 1⟩ := by unfold Dv.armed frD; simp only [Bool.false_eq_true, if_false, Dv.mk.injEq, true_and, and_true]; omega
  rw [ha10] at d10
  have C10 : Hid (CuS wA w10 b r F C P k7 ⟨false, n2, c6 + 1⟩ Q) := ⟨C9.out.1.dev.dset g10 d10, ⟨(g10.block _ C9.out.1.rg.lt hr10).trans C9.out.1.rg.head⟩, (g10.block _ (row_lt C9.out.1.hP) hp10).trans C9.out.1.hP, C9.out.1.len, C9.out.1.off, C9.out.1.low, C9.out.1.fit⟩
  have ATB : Hid (At w10 co ys ∧ (co = none → ys.length = 0 ∧ cc = 0) ∧ ys.length ≤ 140737488355328) := ⟨AT1.out.grown C10.out.dev.disk.grown, C9.out.2.nil, by have := C9.out.2.size; omega⟩
  clear d10 g10 hr10 hp10 ha10 C9 HP1
  go_wp2_with fail
  refine (copyBytes_any co ys.length cc ys w10 rfl ATB.out.1 ATB.out.2.1 ATB.out.2.2).mono ?_
  rintro e w11 ⟨v, rfl, o11, g11⟩
  obtain ⟨ao5, cap5, rfl, x1, x2, x3, x4, x5, x6⟩ := own_at o11
  have B5 := hide (And.intro (C10.out.then g11) (And.intro x4 (And.intro x2 (fun a (e : ao5 = some a) => (x6 a e).2.1))))
  have hlt : Hid (∀ i, foot k7 [] i ∨ i = b → i < w10.heap.size) := by
    rintro i (hf | rfl)
    · exact C10.out.dev.disk.disk.lt i hf
    · exact C10.out.dev.dev.lt
  clear o11 g11 x1 x2 x3 x4 x5 x6 C10
  go_wp2_with fail
  refine (B5.out.1.write (c := c6 + 1) rfl rfl (by omega) k2 cap5 ao5 ys B5.out.2.1 B5.out.2.2.1 (by have := HL.out; omega) (fun a e _ => ⟨fun hf => ?_, fun hf => ?_⟩)).mono ?_
  · have := hlt.out _ (.inl (.inl hf)); have := B5.out.2.2.2 a e; omega
  · have := hlt.out _ (.inr hf); have := B5.out.2.2.2 a e; omega
  rintro e w12 ⟨xc, rfl, k12, W12, s12, j, h12⟩
  have hQl : Hid (Q.length = C * 64 ∧ wA.heap.size ≤ P) := ⟨B5.out.1.len, B5.out.1.low⟩
  have hj8 : j ≤ 8 := h12.2.2.2.2.2.2.1
  have hxc := h12.2.2.2.2.2.2.2.2
  have D12 := hide h12
  have hdn : Hid (Calls Try.prog 14 #[.pointer (some ⟨r, 0, none⟩)] w12 fun e w' => e = .returned (.bool s12.off) ∧ w' = w12) := gDown_at h12.1 h12.2.1
  have hwt : Hid (Calls Try.prog 34 #[.pointer (some ⟨b, 0, none⟩)] w12 fun e w' => e = .returned (.int .i64 (j : Int)) ∧ w' = w12) := by
    have := dwaiting_any h12.1
    rw [h12.2.2.2.2.2.1] at this
    exact this
  clear h12 hlt B5 ATB
  obtain ⟨lst, hlst⟩ : ∃ lst, lst = (k2 / 64 + j) * 64 := ⟨_, rfl⟩
  have hxc2 : (xc = 0 ∧ s12.off = false ∧ ys.length ≤ lst - k2) ∨ (xc = 60 ∧ s12.off = true) := by
    rcases hxc with ⟨e1, e2, e3⟩ | h
    · exact .inl ⟨e1, e2, by omega⟩
    · exact .inr h
  have HLS := hide hlst
  clear hxc hlst
  rcases hxc2 with ⟨rfl, hof, hll⟩ | ⟨rfl, hof⟩
  all_goals
    rw [hof] at hdn
    go_wp2_with fail
    refine hdn.out.mono ?_
    rintro e w' ⟨rfl, rfl⟩
    go_wp2_with fail
    refine hwt.out.mono ?_
    rintro e w' ⟨rfl, rfl⟩
    clear hdn hwt
    go_wp2
    go_loopg [20, 21] j (fun q v i wr => ∃ t : Nat, q + t = j ∧ i = .int .i64 t ∧ Hid (wr.ownsRow w'.heap.size 63 2 v t (fcells (keepF t)) ∧ w'.grownBy wr none))
    case atStart => exact ⟨0, by omega, rfl, hide ⟨World.ownsRow_nil _ _ _ _, grown_refl _ _⟩⟩
    case round =>
      obtain ⟨t, hkt, rfl, HR⟩ := hrel
      by_cases hk : 0 < gk
      · have gA := World.grownBy_alloc wr (.cells #[.int .i64 1, .int .i64 0] 63) none
        have nA : (wr.alloc (.cells #[.int .i64 1, .int .i64 0] 63)).heap[wr.heap.size]? = some (.cells (fcells [(1, 0)]).toArray 63 (0, 0)) := heap_alloc_new wr _
        have OW := hide (And.intro (own_grown HR.out.1 gA) (And.intro (fates_row nA) (grown_trans HR.out.2 gA)))
        have ht1 : (t : Int) < (j : Int) := by omega
        clear gA nA
        go_wp2_with (at_builtin; refine wpList_append_fates rfl (.tmp 102) (.tmp 104) rfl w'.heap.size _ t (keepF t) rfl OW.out.1 (some ⟨wr.heap.size, 0, none⟩) 1 1 [(1, 0)] rfl rfl OW.out.2.1 (fun e => by cases e) (by omega) OW.out.2.2.size ?_)
        intro v' w2' hown hg
        have H2 : Hid (w2'.ownsRow w'.heap.size 63 2 v' (t + 1) (fcells (keepF (t + 1))) ∧ w'.grownBy w2' none) := ⟨by rw [keepF_succ]; exact hown, grown_then OW.out.2.2 hg (fun b e => Or.inl (own_block OW.out.1 b e).1)⟩
        clear hown hg OW
        go_wp2
        go_roundg (gk - 1)
        case measure => omega
        case rel => exact ⟨t + 1, by omega, by go_num, H2⟩
      · have ht : t = j := by omega
        subst ht
        obtain ⟨fo, fcap, rfl, f1, f2, f3⟩ := own_form HR.out.1
        have hDr : Hid (Dev wA wr 6 64 b s12 k12 (splice (zs (6 * 64)) (F * 64) Q) W12 ∧ RgAt wr r b F C ∧ wr.heap[P]? = some (.cells (bv Q).toArray 5 (0, 0)) ∧ ¬ foot k12 W12 P) := ⟨D12.out.1.then HR.out.2, D12.out.2.1.grown HR.out.2, (HR.out.2.block _ (row_lt D12.out.2.2.1) (by simp)).trans D12.out.2.2.1, D12.out.2.2.2.1⟩
        have hFA : Hid (FatesAt wr fo (keepF t) ∧ ∀ a, fo = some a → 0 < (keepF t).length → a.block ≠ k12.db ∧ a.block ≠ b) := by
          refine ⟨?_, ?_⟩
          · by_cases hz : 0 < t
            · obtain ⟨g, rfl⟩ := f1 hz
              exact own_fates HR.out.1
            · intro i q hi
              have := (List.getElem?_eq_some_iff.1 hi).1
              rw [keepF_len] at this
              omega
          · rintro a rfl hz
            obtain ⟨_, cur, hcur⟩ := own_block HR.out.1 a.block rfl
            have hf := hDr.out.1.far hcur (by decide) (by decide) (by decide) (by decide)
            exact ⟨fun e => hf.1 (.inr (.inl e)), hf.2⟩
        clear f1 f2 f3
        go_wp2_with fail
        refine (restart_any hDr.out.1 fo t fcap (keepF t) (keepF_len t) hFA.out.1 hFA.out.2).mono ?_
        rintro e w13 ⟨rfl, D13, d13, m13, e13⟩
        have eD : Hid (D13 = splice (zs (6 * 64)) (F * 64) (splice Q k2 (ys.take (lst - k2)))) := by
          have h1 := D12.out.2.2.2.2.2.2.2.1 (keepF t) rfl
          have h2 := congrArg Prod.fst e13
          rw [HLS.out]
          rw [← h1]
          exact h2
        have pb : P ≠ b := by rintro rfl; have := hDr.out.1.dev.head; rw [hDr.out.2.2.1] at this; simp at this
        have H13 := hide (And.intro d13 (m13.other hDr.out.2.2.1 (fun e => hDr.out.2.2.2 (.inl e)) pb))
        clear d13 m13 e13 pb hDr hFA D12
        go_wp2_with fail
        refine (dimage_any H13.out.1).mono ?_
        rintro e w14 ⟨rfl, hs, i14, g14⟩
        have hyl : (ys.take (lst - k2)).length ≤ ys.length := by simp; omega
        have hDl : D13.length = 6 * 64 := by
          rw [eD.out, length_splice _ _ _ (by rw [zs_length, length_splice _ _ _ (by rw [hQl.out.1]; have := HL.out; omega), hQl.out.1]; omega), zs_length]
        have D14 := hide (And.intro i14 (And.intro (grown_trans H13.out.1.disk.grown g14) (And.intro hDl ((g14.block _ (row_lt H13.out.2) (by simp)).trans H13.out.2))))
        clear i14 g14 hDl H13
        go_wp2_with fail
        refine (flat_own wA w14 _ 6 64 _ _ hs D14.out.1 D14.out.2.1 D14.out.2.2.1 (by omega) (by omega)).mono ?_
        rintro e w15 ⟨ao2, cap2, rfl, h15⟩
        obtain ⟨A, rfl⟩ : ∃ A, ao2 = some ⟨A, 0, none⟩ := by
          cases ao2 with
          | none => obtain ⟨a, e, _⟩ := h15.1 0 _ (List.getElem?_eq_getElem (by rw [D14.out.2.2.1]; omega)); cases e
          | some a => exact ⟨a.block, by rw [← (h15.2.2.1 a rfl).1]⟩
        have hAP : Hid (A ≠ P ∧ 384 ≤ cap2) := by
          refine ⟨fun e => ?_, h15.2.2.2⟩
          have h1 := (h15.2.2.1 _ rfl).2
          have h2 := row_lt D14.out.2.2.2
          have h1 : w14.heap.size ≤ A := h1
          omega
        have D15 : Hid (At w15 (some ⟨A, 0, none⟩) D13 ∧ wA.grownBy w15 none ∧ w15.heap[P]? = some (.cells (bv Q).toArray 5 (0, 0))) := ⟨h15.1, grown_trans D14.out.2.1 h15.2.1, (h15.2.1.block _ (row_lt D14.out.2.2.2) (by simp)).trans D14.out.2.2.2⟩
        clear h15 D14 hkt
        have hq2 := tdiv64' k2
        have hk2b : k2 / 64 ≤ 6 := by omega
        have hls : (((k2 / 64 : Nat) : Int) + (t : Int)) * 64 = (lst : Int) := by have := HLS.out; omega
        have hlsb : lst ≤ 1000 := by have := HLS.out; omega
        generalize k2 / 64 = kq at *
        generalize hll2 : ys.length = ly at *
        have HYL := hide hll2
        clear hll2
        go_wp2
        go_loopg [24] (min ly (lst - k2)) (fun q i wr => ∃ u : Nat, q + u = min ly (lst - k2) ∧ i = .int .i64 u ∧ Hid (w15.grownBy wr (some P) ∧ wr.heap[P]? = some (.cells (bv (splice Q k2 (ys.take u))).toArray 5 (0, 0))))
        case atStart => exact ⟨0, by omega, rfl, hide ⟨grown_refl _ _, by rw [List.take_zero, splice_nil]; exact D15.out.2.2⟩⟩
        case round =>
          obtain ⟨u, hku, rfl, HU⟩ := hrel
          by_cases hk2 : 0 < gk
          · have hu1 : u < ly ∧ u < lst - k2 := by omega
            obtain ⟨c, hcy⟩ : ∃ c, ys[u]? = some c := ⟨_, List.getElem?_eq_getElem (by have := HYL.out; omega)⟩
            obtain ⟨a, ha, hca⟩ := AT1.out u c hcy
            subst ha
            have hne : some (a.add u).block ≠ some P := fun e => by
              have e := Option.some.inj e
              have h1 := cell_lt hca
              have h2 := hQl.out.2
              omega
            have hcu : wr.cell? (a.add u) = some (.int .u8 (c : Int)) := HU.out.1.cell (D15.out.2.1.cell hca (by simp)) hne
            have hfz : wr.frozen? ⟨P, k2 + u, none⟩ = false := free_row HU.out.2 _
            have hln : (splice Q k2 (ys.take u)).length = C * 64 := by rw [length_splice _ _ _ (by rw [hQl.out.1]; simp; have := HL.out; have := HYL.out; omega), hQl.out.1]
            obtain ⟨old, hold⟩ : ∃ old, (splice Q k2 (ys.take u))[k2 + u]? = some old := ⟨_, List.getElem?_eq_getElem (by rw [hln]; have := HL.out; omega)⟩
            have hco : wr.cell? ⟨P, k2 + u, none⟩ = some (.int .u8 (old : Int)) := by rw [cell_row HU.out.2]; exact bv_get _ _ _ hold
            have HN : Hid (w15.grownBy (wr.setCell ⟨P, k2 + u, none⟩ (.int .u8 (c : Int))) (some P) ∧ (wr.setCell ⟨P, k2 + u, none⟩ (.int .u8 (c : Int))).heap[P]? = some (.cells (bv (splice Q k2 (ys.take (u + 1)))).toArray 5 (0, 0))) := by
              refine ⟨grown_trans HU.out.1 (grown_setCell wr P (k2 + u) _), ?_⟩
              rw [set_bytes HU.out.2, splice_set Q ys k2 u c hcy (by rw [hQl.out.1]; have := HL.out; have := HYL.out; omega)]
            have i0 : (0 : Int) ≤ (u : Int) := by omega
            have i1 : (u : Int) < (ly : Int) := by omega
            have i2 : (k2 : Int) + (u : Int) < (lst : Int) := by omega
            have i3 : (k2 : Int) + (u : Int) < (L : Int) := by omega
            clear hold hcy hca hne
            go_wp2
            go_roundg (gk - 1)
            case measure => omega
            case rel => exact ⟨u + 1, by omega, by go_num, HN⟩
          · have hue : u = min ly (lst - k2) := by omega
            have hR : Hid (splice Q k2 (ys.take u) = splice Q k2 (ys.take (lst - k2))) := by
              show _ = _
              congr 1
              rw [hue, ← HYL.out, Nat.min_comm, ← List.take_take, List.take_length]
            have hRl : Hid ((splice Q k2 (ys.take (lst - k2))).length = L) := by
              show _ = _
              rw [length_splice _ _ _ (by rw [hQl.out.1]; simp; have := HL.out; have := HYL.out; omega), hQl.out.1, HL.out]
            have hsl2 := slice_lhC A 384 cap2 (64 * F) (64 * F + L) (by omega) (by have := hAP.out.2; omega)
            rw [show 64 * F + L - 64 * F = L by omega, show cutO (64 * F) cap2 = 64 * F by unfold cutO; rw [if_neg (by have := hAP.out.2; omega)], show ((64 * F + L : Nat) : Int) = 64 * (F : Int) + (L : Int) by omega, show ((64 * F : Nat) : Int) = 64 * (F : Int) by omega] at hsl2
            have HAt : Hid (At wr (some ⟨A, 64 * F, none⟩) (splice Q k2 (ys.take (lst - k2))) ∧ At wr (some ⟨P, 0, none⟩) (splice Q k2 (ys.take (lst - k2)))) := by
              refine ⟨?_, ?_⟩
              · have h1 : At wr (some ⟨A, 0, none⟩) D13 := D15.out.1.kept HU.out.1 (fun a e => by cases e; exact fun e => hAP.out.1 (Option.some.inj e))
                have h2 := (at_from h1 (64 * F)).take L
                rw [Addr.add_lit, Nat.zero_add, eD.out, Nat.mul_comm 64 F] at h2
                have h3 := splice_mid (6 * 64) (F * 64) (splice Q k2 (ys.take (lst - k2))) (by rw [hRl.out]; omega)
                rw [hRl.out] at h3
                rw [h3] at h2
                rw [Nat.mul_comm 64 F]
                exact h2
              · have := HU.out.2
                rw [hR.out] at this
                exact at_row this
            have G3 : Hid (w.grownBy wr none) := grown_trans G1.out (grown_then D15.out.2.1 HU.out.1 (fun i e => Or.inl (by have := Option.some.inj e; have := hQl.out.2; omega)))
            have hex : (ly : Int) ≤ (u : Int) ∨ ((u : Int) < (ly : Int) ∧ (lst : Int) ≤ (k2 : Int) + (u : Int)) := by omega
            clear HU hku
            rcases hex with hex | ⟨hex, hex2⟩
            all_goals first | (exfalso; omega) | skip
            all_goals
              go_wp2_with fail
              refine (sameBytes_eq (some ⟨A, 64 * F, none⟩) (some ⟨P, 0, none⟩) L (cap2 - 64 * F) L _ wr hRl.out HAt.out.1 HAt.out.2 (by omega)).mono ?_
              rintro e w16 ⟨rfl, q16, rfl⟩
              have G4 := hide (grown_trans G3.out (grown_drewN wr q16 none))
              generalize wr.drewN q16 = w16 at *
              go_wp2_with fail
              refine (awake_any _).mono ?_
              rintro e w17 ⟨rfl, g17⟩
              have G5 := hide (grown_trans G4.out g17)
              clear g17
              go_wp2
              go_ret
              exact ⟨rfl, G5.out⟩
end Go.Proofs.Ytnonghacjfgnmaa
/- A write that came in by itself, opened. -/
namespace Go.Proofs.Ytnonghacjfgnmaa
open Go.ChangeShapes Go.WideShapes Go.ChangeAt Go.RowKit Go.Deep Ap

section
variable {H : Type} {enc : TypeId × Value → H}
set_option maxRecDepth 100000 in
theorem open_pt {w : World} {base : Nat} {r : Reach} {b0 : Nat} {spare : Nat → Bool} {held : Bool} {v : Value} {d : DataW H} {ps : List MemPlace} (hval : Value.okWide Try.prog w r b0 74 v) (hd : DataW.Trod enc Try.prog w base spare held 74 v d ps) (hz : ∀ n ∈ d.weights Try.prog 74, n ≤ reachBytes) :
    ∃ (o : Pt) (bo : Option Addr) (bc : Nat), v = .agg #[.int .i64 o.at_, .slice bo o.B.length bc] ∧ BIn w bo bc o.B := by
  obtain ⟨cs, rfl, _⟩ := okWide_struct Try.underlying74 hval
  obtain ⟨fuel, h⟩ := hd
  have h : DataW.trod enc Try.prog w base spare held fuel 74 cs.toList = some (d, ps) := h
  obtain ⟨o, bo, bc, e, hB⟩ := open_ptc h hz
  refine ⟨o, bo, bc, ?_, hB⟩
  congr 1
  cases cs
  simp only [ptcells] at e
  rw [e]
end
end Go.Proofs.Ytnonghacjfgnmaa
