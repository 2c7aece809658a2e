/- Texts joined: FFk, FFl, Hs, Fr0, Aw, Fst, Ep0. -/
import Derived.Test.YtofdijaipjkfbaaGreatDoorJkAh
import Derived.Test.YtofdijaipjkfbaaGreatDoorJkAx
/- The contracts of the statements' own helpers for frames: SameFrame, LentFrame, KeptFrame, OverFrame, Pick. -/
namespace Go.Proofs.YtofdijaipjkfbaaGreatDoor.Fm
open Go.RowKit
attribute [local go_sem ↓] Go.wp_at_zero Go.wp_at_succ

theorem tmod_neg (x : Int) (n : Nat) (hn : 1 ≤ n) (h : x.tmod (n : Int) < 0) : x.tmod (n : Int) + (n : Int) = x % (n : Int) := by
  have h1 := Int.tmod_eq_emod (a := x) (b := (n : Int))
  have h2 := Int.emod_nonneg x (show (n : Int) ≠ 0 by omega)
  have h3 := Int.emod_lt_of_pos x (show (0 : Int) < (n : Int) by omega)
  rw [h1] at h ⊢
  split at h
  · omega
  · rename_i h4
    rw [if_neg h4]
    simp
theorem tmod_nonneg (x : Int) (n : Nat) (hn : 1 ≤ n) (h : 0 ≤ x.tmod (n : Int)) : x.tmod (n : Int) = x % (n : Int) := by
  have h1 := Int.tmod_eq_emod (a := x) (b := (n : Int))
  have h2 := Int.emod_nonneg x (show (n : Int) ≠ 0 by omega)
  have h3 := Int.emod_lt_of_pos x (show (0 : Int) < (n : Int) by omega)
  rw [h1] at h ⊢
  split
  · omega
  · rename_i h4
    rw [if_neg h4] at h
    simp at h
    omega

set_option maxHeartbeats 400000 in
theorem pick_any (x N : Int) (n : Nat) (w : World) (hN : N = (n : Int)) (hn : 1 ≤ n) (hn2 : n ≤ 4611686018427387904) :
    Calls Tryz.prog 33 #[.int .i64 x, .int .i64 N] w fun e w' => e = .returned (.int .i64 (x % (n : Int))) ∧ w' = w := by
  subst hN
  have h1 : (1 : Int) ≤ (n : Int) := by omega
  have h2 : ((n : Int) == 0) = false := by simp; omega
  have hb := Int.tmod_lt_of_pos x (show (0 : Int) < (n : Int) by omega)
  have hb2 := Int.lt_tmod_of_pos x (show (0 : Int) < (n : Int) by omega)
  have hr1 := tmod_neg x n hn
  have hr2 := tmod_nonneg x n hn
  by_cases hs : x.tmod (n : Int) < 0
  · have hr := hr1 hs
    have HR := hide hr
    clear hr hr1 hr2
    go_enter Tryz.func33, Tryz.ntmps33
    go_wp2
    go_ret
    exact ⟨by rw [← HR.out]; rfl, rfl⟩
  · have hs2 : 0 ≤ x.tmod (n : Int) := by omega
    have hr := hr2 hs2
    have HR := hide hr
    clear hr hr1 hr2
    go_enter Tryz.func33, Tryz.ntmps33
    go_wp2
    go_ret
    exact ⟨by rw [← HR.out]; rfl, rfl⟩



theorem results_cell1 {fn : Func} {p : Tmp} {ty : TypeId} (h : fn.results = #[.cell p ty]) (tmps : Array Value) (P : Program) (w : World) :
    (results fn tmps).run P w = ((asAddr (tmps.getD p undef)).run P w).andThen fun a w₁ => (loadVar ty a).run P w₁ := by
  simp only [results, h]
  simp [Sem.run_bind, Result.andThen]

set_option maxHeartbeats 1000000 in
theorem sameFr (e s : Int) (ao bo : Option Addr) (n c d : Nat) (xs : List Int) (w : World) (hn : xs.length = n) (ha : At w ao xs) (hb : At w bo xs) (hm : n ≤ 4611686018427387904) :
    Calls Tryz.prog 77 #[frV e s (.slice ao n c), frV e s (.slice bo n d)] w fun r w' => r = .returned (.bool true) ∧ w.grownBy w' none := by
  unfold frV
  have HA := hide (And.intro hn (And.intro ha hb))
  clear hn ha hb
  go_enter Tryz.func77, Tryz.ntmps77
  go_wp2_with fail
  have g := grown_trans (World.grownBy_alloc w (.cells #[.int .u64 e, .int .u64 s, .slice ao n c] 104) none) (World.grownBy_alloc _ (.cells #[.int .u64 e, .int .u64 s, .slice bo n d] 104) none)
  refine (same_eq ao bo n c d xs _ HA.out.1 (HA.out.2.1.kept g (fun _ _ e => by cases e)) (HA.out.2.2.kept g (fun _ _ e => by cases e)) hm).mono ?_
  rintro r w1 ⟨rfl, hg⟩
  have G := hide (grown_trans g hg)
  clear g hg
  go_wp2
  go_ret
  exact ⟨rfl, G.out⟩

theorem LentAt.kept {w w' : World} {B k : Nat} {v : Value} {xs : List Int} {c : Array Value} {t : TypeId} {fr : Nat × Nat} (h : LentAt w B v xs) (hg : w.grownBy w' (some k)) (hk : w.heap[k]? = some (.cells c t fr)) (hne : t ≠ 5) : LentAt w' B v xs := by
  obtain ⟨g, cap, hv, ho⟩ := h
  exact ⟨g, cap, hv, own_kept ho hg hk hne⟩
theorem LentAt.grown {w w' : World} {B : Nat} {v : Value} {xs : List Int} (h : LentAt w B v xs) (hg : w.grownBy w' none) : LentAt w' B v xs := by
  obtain ⟨g, cap, hv, ho⟩ := h
  exact ⟨g, cap, hv, own_grown ho hg⟩
theorem LentAt.base {w : World} {B B' : Nat} {v : Value} {xs : List Int} (h : LentAt w B v xs) (hb : B' ≤ B) : LentAt w B' v xs := by
  obtain ⟨g, cap, hv, ho⟩ := h
  exact ⟨g, cap, hv, own_base ho hb⟩

end Go.Proofs.YtofdijaipjkfbaaGreatDoor.Fm
/- Lists of frames, read: the contract of SameFrames. -/
namespace Go.Proofs.YtofdijaipjkfbaaGreatDoor.Fm
open Go.RowKit
attribute [local go_sem ↓] Go.wp_at_zero Go.wp_at_succ

/-- The frame x, laid at the place j of a row at the head of block g. -/
structure FrC (w : World) (g j : Nat) (x : El) : Prop where
  c0 : w.cell? ⟨g, j * 3, none⟩ = some (.int .u64 x.f.e)
  c1 : w.cell? ⟨g, j * 3 + 1, none⟩ = some (.int .u64 x.f.s)
  c2 : w.cell? ⟨g, j * 3 + 2, none⟩ = some x.v
  body : ∃ bo bc, x.v = .slice bo x.f.b.length bc ∧ At w bo x.f.b
  short : x.f.b.length ≤ 32
def FsR (w : World) (ao : Option Addr) (ys : List El) : Prop := ∀ j x, ys[j]? = some x → ∃ g, ao = some ⟨g, 0, none⟩ ∧ FrC w g j x
theorem FrC.grown {w w' : World} {g j : Nat} {x : El} (h : FrC w g j x) (hg : w.grownBy w' none) : FrC w' g j x := by
  obtain ⟨bo, bc, e, ha⟩ := h.body
  exact ⟨hg.cell h.c0 (by simp), hg.cell h.c1 (by simp), hg.cell h.c2 (by simp), ⟨bo, bc, e, ha.kept hg (fun _ _ e => by cases e)⟩, h.short⟩
theorem FsR.grown {w w' : World} {ao : Option Addr} {ys : List El} (h : FsR w ao ys) (hg : w.grownBy w' none) : FsR w' ao ys := fun j x hx => by
  obtain ⟨g, ha, hc⟩ := h j x hx
  exact ⟨g, ha, hc.grown hg⟩
theorem FsAt.read {w : World} {base : Nat} {v : Value} {ys : List El} (h : FsAt w base v ys) : ∃ ao cap, v = .slice ao ys.length cap ∧ FsR w ao ys ∧ ys.length ≤ cap := by
  rcases h.own.2 with ⟨rfl, h0⟩ | ⟨g, cap, cur, rfl, hb, hg, hc, hm, hs, ht⟩
  · have : ys = [] := List.eq_nil_of_length_eq_zero h0
    subst this
    exact ⟨none, 0, rfl, (fun j x hx => by simp at hx), Nat.le_refl _⟩
  · refine ⟨some ⟨g, 0, none⟩, cap, rfl, fun j x hx => ⟨g, rfl, ?_⟩, hc⟩
    have hjl := (List.getElem?_eq_some_iff.1 hx).1
    obtain ⟨h1, h2, h3⟩ := fcl_at ys j x hx
    have hce : ∀ k u, (fcl ys)[k]? = some u → w.cell? ⟨g, k, none⟩ = some u := fun k u hu => by
      have := h.own.cells (g := g) rfl k u hu
      rwa [Addr.add_lit, Nat.zero_add] at this
    have hx' := h.each x (List.mem_of_getElem? hx)
    obtain ⟨bo, bc, e, q1, q2, q3, q4, q5, q6⟩ := own_at hx'.1.own
    exact ⟨hce _ _ (by rw [Nat.mul_comm]; exact h1), hce _ _ (by rw [Nat.mul_comm]; exact h2), hce _ _ (by rw [Nat.mul_comm]; exact h3), ⟨bo, bc, e, q4⟩, hx'.2.2.2⟩
theorem frs_at {l : List El} {j : Nat} {x : El} (h : l[j]? = some x) : (frs l)[j]? = some x.f := by simp [frs, h]

set_option maxHeartbeats 1000000 in
theorem sameFrs (ao bo : Option Addr) (n c d : Nat) (xs ys : List El) (w : World) (hf : frs xs = frs ys) (hn : xs.length = n) (ha : FsR w ao xs) (hb : FsR w bo ys) (hm : n ≤ 1000000000000000000) :
    Calls Tryz.prog 31 #[.slice ao n c, .slice bo n d] w fun r w' => r = .returned (.bool true) ∧ w.grownBy w' none := by
  have HA := hide (And.intro hf (And.intro hn (And.intro ha hb)))
  clear hf hn ha hb
  go_enter Tryz.func31, Tryz.ntmps31
  go_wp2
  go_loopg [5] n (fun k i wr => ∃ j : Nat, k + j = n ∧ i = .int .i64 j ∧ w.grownBy wr none)
  case atStart => exact ⟨0, by omega, rfl, grown_refl _ _⟩
  case round =>
    obtain ⟨j, hkj, rfl, hg⟩ := hrel
    by_cases hk : 0 < gk
    · obtain ⟨hf, hn, ha, hb⟩ := HA.out
      have hjx : j < xs.length := by omega
      have hjy : j < ys.length := by rw [← frs_length, ← hf, frs_length]; exact hjx
      obtain ⟨ga, rfl, hca⟩ := ha j xs[j] (by simp [hjx])
      obtain ⟨gb, rfl, hcb⟩ := hb j ys[j] (by simp [hjy])
      have hfe : xs[j].f = ys[j].f := by
        have h1 := frs_at (l := xs) (j := j) (x := xs[j]) (by simp [hjx])
        have h2 := frs_at (l := ys) (j := j) (x := ys[j]) (by simp [hjy])
        rw [hf, h2] at h1
        simpa using h1.symm
      have hca' := hca.grown hg
      have hcb' := hcb.grown hg
      generalize xs[j] = x at *
      generalize ys[j] = y at *
      rcases x with ⟨xa, f, xv, xl, xh⟩
      rcases y with ⟨ya, f', yv, yl, yh⟩
      simp only at hfe
      subst hfe
      obtain ⟨vo, vc, hv, hva⟩ := hca'.body
      obtain ⟨uo, uc, hu, hua⟩ := hcb'.body
      simp only at hv hu
      subst hv
      subst hu
      obtain ⟨a0, a1, a2, -, hsh⟩ := hca'
      obtain ⟨b0, b1, b2, -, -⟩ := hcb'
      simp only at a0 a1 a2 b0 b1 b2 hva hua hsh
      have h1 : (0 : Int) ≤ (j : Int) := by omega
      have h2 : (j : Int) < (n : Int) := by omega
      have HV := hide (And.intro hva hua)
      clear hf hn ha hb hca hcb hva hua
      have HS : Hid (Calls Tryz.prog 77 #[.agg #[.int .u64 f.e, .int .u64 f.s, .slice vo f.b.length vc], .agg #[.int .u64 f.e, .int .u64 f.s, .slice uo f.b.length uc]] wr.drew fun r w' => r = .returned (.bool true) ∧ wr.drew.grownBy w' none) := sameFr f.e f.s vo uo _ vc uc f.b wr.drew rfl HV.out.1 HV.out.2 (by omega)
      go_wp2
      go_region_with (go_at_call 77; refine HS.out.mono ?_; rintro r w1 ⟨rfl, hg1⟩)
      all_goals
        go_wp2
        go_roundg (gk - 1)
        case measure => omega
        case rel => exact ⟨j + 1, by omega, by go_num, grown_trans hg (grown_trans (grown_drew _ _) hg1)⟩
    · have hj : j = n := by omega
      subst hj
      go_wp2
      go_ret
      exact ⟨rfl, hg⟩
end Go.Proofs.YtofdijaipjkfbaaGreatDoor.Fm
/- What a log's frames are: its history; a flush where the power does not go. -/
namespace Go.Proofs.YtofdijaipjkfbaaGreatDoor
open Go.RowKit Ap
attribute [local go_sem ↓] Go.wp_at_zero Go.wp_at_succ
/-- The frames since the log began (behind the number S): their bytes are those that lie in the region, and those that wait. -/
structure Hist (g : Lg) (S : Int) (fs : List Fm.Fr) (X : List Nat) : Prop where
  chn : Fm.Chn g.e S fs
  la : g.la = S + fs.length
  bytes : X.take g.a ++ g.bs = Fm.nats (Fm.outs fs)
  fit : g.a ≤ X.length
  du : g.du = g.la → g.bs = []
  le : g.du ≤ g.la
theorem Hist.new (l : Nat) (E S : Int) (X : List Nat) : Hist (Lg.new l E S) S [] X := ⟨(fun i f h => by simp at h), by simp [Lg.new], by simp [Lg.new, Fm.outs, Fm.nats], Nat.zero_le _, fun _ => rfl, Int.le_refl _⟩
theorem Hist.reset (g : Lg) (E : Int) (X : List Nat) : Hist (g.reset E) g.la [] X := ⟨(fun i f h => by simp at h), by simp [Lg.reset], by simp [Lg.reset, Fm.outs, Fm.nats], Nat.zero_le _, fun _ => rfl, Int.le_refl _⟩
theorem nats_append (xs ys : List Int) : Fm.nats (xs ++ ys) = Fm.nats xs ++ Fm.nats ys := by simp [Fm.nats]
theorem Hist.end_ {g : Lg} {S : Int} {fs : List Fm.Fr} {X : List Nat} (h : Hist g S fs X) : g.end_ = Fm.fend fs := by
  have := congrArg List.length h.bytes
  rw [List.length_append, List.length_take, Fm.nats_length, Fm.outs_length] at this
  have := h.fit
  unfold Lg.end_
  omega
theorem Hist.more {g : Lg} {S : Int} {fs : List Fm.Fr} {X : List Nat} (h : Hist g S fs X) (xs : List Nat) (v : Value) (hok : (g.fr xs).Ok) (hl : xs.length ≤ 32) : Hist (g.more xs v) S (fs ++ [g.fr xs]) X := by
  have hle := h.le
  refine ⟨h.chn.snoc rfl ?_ hok (by show (ints xs).length ≤ 32; rw [ints_length]; exact hl), ?_, ?_, h.fit, ?_, ?_⟩
  · show g.la + 1 = _
    rw [h.la]
  · show g.la + 1 = _
    rw [h.la, List.length_append]; simp; omega
  · show X.take g.a ++ (g.bs ++ Fm.nats (g.fr xs).out) = _
    rw [Fm.outs_snoc, nats_append, ← List.append_assoc, h.bytes]
  · intro hd
    have hd : g.du = g.la + 1 := hd
    omega
  · show g.du ≤ g.la + 1
    omega
/-- What a flush that was OK leaves of a log. -/
structure FlG (g g' : Lg) : Prop where
  l : g'.l = g.l
  e : g'.e = g.e
  la : g'.la = g.la
  du : g'.du = g.la
  bs : g'.bs = []
  a : g'.a = g.end_
theorem FlG.fl (g : Lg) : FlG g (g.fl 0) := ⟨rfl, rfl, rfl, rfl, rfl, rfl⟩
theorem FlG.same {g : Lg} (hd : g.du = g.la) (hb : g.bs = []) : FlG g g := ⟨rfl, rfl, rfl, hd, hb, by simp [Lg.end_, hb]⟩
theorem FlG.end_ {g g' : Lg} (h : FlG g g') : g'.end_ = g.end_ := by unfold Lg.end_; rw [h.bs, h.a]; simp [Lg.end_]
theorem splice_take (X xs : List Nat) (a : Nat) (h : a + xs.length ≤ X.length) : (splice X a xs).take (a + xs.length) = X.take a ++ xs := by
  unfold splice
  rw [← List.append_assoc, List.take_append_of_le_length (by simp; omega), List.take_of_length_le (by simp; omega)]
theorem Hist.flush {g g' : Lg} {S : Int} {fs : List Fm.Fr} {X : List Nat} (h : Hist g S fs X) (q : FlG g g') (hf : g.end_ ≤ X.length) : Hist g' S fs (splice X g.a g.bs) := by
  have hf' : g.a + g.bs.length ≤ X.length := hf
  refine ⟨by rw [q.e]; exact h.chn, by rw [q.la]; exact h.la, ?_, ?_, fun _ => q.bs, by rw [q.du, q.la]; exact Int.le_refl _⟩
  · rw [q.a, q.bs, List.append_nil]
    show (splice X g.a g.bs).take (g.a + g.bs.length) = _
    rw [splice_take _ _ _ hf', h.bytes]
  · rw [q.a, length_splice _ _ _ hf']; exact hf
/-- Bytes of a region behind those of the frames. -/
theorem Hist.parts {g : Lg} {S : Int} {fs : List Fm.Fr} {X : List Nat} (h : Hist g S fs X) (hb : g.bs = []) : ints X = Fm.outs fs ++ ints (X.drop g.a) := by
  have h1 := h.bytes
  rw [hb, List.append_nil] at h1
  have h2 : ints (X.take g.a) = Fm.outs fs := by rw [h1, ints_nats h.chn.byt]
  rw [← h2, ← ints_append, List.take_append_drop]
theorem rowF_outs_nil (E S : Int) (fs : List Fm.Fr) (h : Fm.Chn E S fs) : Fm.rowF E S (Fm.outs fs) = fs := by
  have := Fm.rowF_outs E fs S [] h (fun x hx => by cases hx) (by
    intro hg
    have := hg.1
    simp [Fm.getF] at this)
  simpa using this
theorem Hist.pre {g : Lg} {S : Int} {fs : List Fm.Fr} {X : List Nat} (h : Hist g S fs X) (hb : g.bs = []) (hX : Bytes X) : fs <+: Fm.rowF g.e S (ints X) := by
  have h1 := h.parts hb
  have h2 := rowF_outs_nil g.e S fs h.chn
  have h3 := Fm.rowF_pre g.e _ S (Fm.outs fs) (ints (X.drop g.a)) (Nat.le_refl _) h.chn.byt (ints_byt (fun x hx => hX x (List.mem_of_mem_drop hx)))
  rw [h2, ← h1] at h3
  exact h3
theorem leV_zeros : ∀ (m : Nat), Fm.leV (List.replicate m 0) = 0 := by
  intro m
  induction m with
  | zero => rfl
  | succ m ih => simp [List.replicate_succ, Fm.leV, ih]
theorem not_goes_zeros (E S : Int) (m : Nat) (hE : E ≠ 0) : ¬ Fm.Goes E S (List.replicate m 0) := by
  intro h
  have h2 := h.2.1
  apply hE
  rw [← h2]
  unfold Fm.getF
  have : Fm.leV (((List.replicate m (0 : Int)).drop 2).take 8) = 0 := by
    rw [List.drop_replicate, List.take_replicate]; exact leV_zeros _
  repeat' split
  all_goals first | rfl | exact this
theorem Hist.only {g : Lg} {S : Int} {fs : List Fm.Fr} {X : List Nat} (h : Hist g S fs X) (hb : g.bs = []) (hE : g.e ≠ 0) (m : Nat) (hz : X.drop g.a = zs m) : Fm.rowF g.e S (ints X) = fs := by
  rw [h.parts hb, hz]
  have e : ints (zs m) = List.replicate m 0 := by simp [ints, zs]
  rw [e]
  exact Fm.rowF_outs g.e fs S _ h.chn (fun x hx => by have := List.eq_of_mem_replicate hx; omega) (not_goes_zeros _ _ _ hE)
/-- A flush where the power does not go. -/
theorem flA_free {n F a c : Nat} {xs : List Nat} {D : List Nat} (hD : D.length = n * 64) (hfit : F * 64 + a + xs.length ≤ n * 64) :
    flA F a xs (frD c) D [] = (0, frD (c + cst (full 64 a xs.length) (pcn 64 a xs.length) 0 + 1), splice D (F * 64 + a) xs, []) := by
  unfold flA
  simp only [wgo_free, frD_goes, frD_next, if_true]
  rw [syncA]
  have := now_all (size := 64) (F := F) (at_ := a) (D := D) (P := []) (b := xs) (n := n) (by omega) (by rw [now_nil]; exact hD) hfit
  unfold now at this
  rw [now, this]
  rfl
theorem abs_nil {W : List Wt} (h : abs W = []) : W = [] := by
  have := congrArg List.length h
  rw [abs_length] at this
  exact List.eq_nil_of_length_eq_zero this
section
variable {w0 w w' : World} {n b r F C c : Nat} {k : Dk} {D : List Nat} {g : Lg}
theorem LgAt.dlen {s : Dv} {W : List Wt} (h : LgAt w0 w n b r F C s k D W g) : D.length = n * 64 := h.dev.disk.disk.len
theorem lFlush_free (h : LgAt w0 w n b r F C (frD c) k D [] g) (hc : c ≤ 80000) (hdu : g.du = g.la → g.bs = []) :
    Calls Tryz.prog 21 #[.pointer (some ⟨g.l, 0, none⟩)] w fun e w' => e = .returned (.int .i64 0) ∧ ∃ k' c' g', LgAt w0 w' n b r F C (frD c') k' (splice D (F * 64 + g.a) g.bs) [] g' ∧ c' ≤ c + 25 ∧ FlG g g' ∧ LgW w w' b k k' [] [] g g' := by
  have hD := h.dlen
  have hfit := h.fit
  have hFC := h.hFC
  have hC := h.hC
  have hf := flA_free (n := n) (F := F) (a := g.a) (c := c) (xs := g.bs) hD (by omega)
  have hcst := cst_few (size := 64) (at_ := g.a) (n := g.bs.length) (by omega)
  refine (lFlush_at h (by simp) (by show c ≤ 90000; omega)).mono ?_
  rintro e w' (⟨h1, rfl, h3⟩ | ⟨h1, rfl, k', W', p⟩)
  · refine ⟨rfl, k, c, g, ?_, by omega, FlG.same h1 (hdu h1), LgM.lw (LgM.new h3)⟩
    rw [hdu h1, splice_nil]
    exact h.then h3
  · have e0 : abs ([] : List Wt) = [] := rfl
    rw [e0, hf] at p ⊢
    have hW := abs_nil p.abs
    subst hW
    exact ⟨rfl, k', _, g.fl 0, p.at_, by omega, FlG.fl g, p.mov⟩
end
end Go.Proofs.YtofdijaipjkfbaaGreatDoor
/- A log over a device whose power does not go, with its frames: what each call comes to. -/
namespace Go.Proofs.YtofdijaipjkfbaaGreatDoor
open Go.RowKit Ap
attribute [local go_sem ↓] Go.wp_at_zero Go.wp_at_succ
structure FrS (w0 w : World) (N b r : Nat) (k : Dk) (c : Nat) (D : List Nat) (g : Lg) (S : Int) (fs : List Fm.Fr) : Prop where
  at_ : LgAt w0 w (N + 1) b r 1 N (frD c) k D [] g
  hist : Hist g S fs (bytesAt D (1 * 64) (N * 64))
  byt : Bytes D
theorem bytes_bytesAt {D : List Nat} (h : Bytes D) (o m : Nat) : Bytes (bytesAt D o m) := fun x hx => h x (List.mem_of_mem_drop (List.mem_of_mem_take hx))
theorem bytes_splice {D xs : List Nat} (h : Bytes D) (hx : Bytes xs) (o : Nat) : Bytes (splice D o xs) := by
  intro x hm
  unfold splice at hm
  rcases List.mem_append.1 hm with h1 | h1
  · exact h x (List.mem_of_mem_take h1)
  · rcases List.mem_append.1 h1 with h2 | h2
    · exact hx x h2
    · exact h x (List.mem_of_mem_drop h2)
theorem bytesAt_splice (D xs : List Nat) (o a m : Nat) (h1 : a + xs.length ≤ m) (h2 : o + m ≤ D.length) : bytesAt (splice D (o + a) xs) o m = splice (bytesAt D o m) a xs := by
  have hl : (bytesAt D o m).length = m := bytesAt_length h2
  apply List.ext_getElem?
  intro i
  rw [bytesAt_get, splice_get _ _ _ _ (by omega), splice_get _ _ _ _ (by omega), bytesAt_get]
  by_cases hi : i < m
  · rw [if_pos hi]
    by_cases hx : a ≤ i ∧ i < a + xs.length
    · rw [if_pos (by omega), if_pos hx]
      congr 1; omega
    · rw [if_neg (by omega), if_neg hx, if_pos hi]
  · rw [if_neg hi, if_neg (by omega), if_neg hi]
theorem zs_bytes (m : Nat) : Bytes (zs m) := fun x hx => by have := List.eq_of_mem_replicate hx; omega
theorem bytesAt_zs (o m M : Nat) (h : o + m ≤ M) : bytesAt (zs M) o m = zs m := by
  simp [bytesAt, zs]; omega
section
variable {w0 w w' : World} {N b r c : Nat} {k : Dk} {D : List Nat} {g : Lg} {S : Int} {fs : List Fm.Fr}
theorem FrS.then (h : FrS w0 w N b r k c D g S fs) (hg : w.grownBy w' none) : FrS w0 w' N b r k c D g S fs := ⟨h.at_.then hg, h.hist, h.byt⟩
theorem FrS.xlen (h : FrS w0 w N b r k c D g S fs) : (bytesAt D (1 * 64) (N * 64)).length = N * 64 := bytesAt_length (by have := h.at_.dlen; omega)
theorem sNew {p : Px} {qr : Nat} {wp : World} (hp : Plc w0 wp w N r qr p) (h0 : w0.heap.size ≤ wp.heap.size) (hN : 1 ≤ N) (hN8 : N ≤ 8) (E S : Int) (hE : U64 E) (hS : U64 S) :
    Calls Tryz.prog 7 #[.pointer (some ⟨r, 0, none⟩), .int .u64 E, .int .u64 S] w fun e w' => ∃ l, e = .returned (.tuple #[.pointer (some ⟨l, 0, none⟩), .int .i64 0]) ∧ FrS w0 w' N p.b r p.k 0 (zs ((N + 1) * 64)) (Lg.new l E S) S [] ∧ w.grownBy w' none := by
  obtain ⟨h1, -, ⟨e1, -, e3, -, e5⟩, -, h5, h6, -, -, -⟩ := hp
  have hd := h1.dev
  rw [e1, e3, e5] at hd
  refine (lNew_at hd h5 (by omega) hN (by omega) (by omega) E S hE hS).mono ?_
  rintro e w' ⟨l, rfl, h2, h3, h4⟩
  exact ⟨l, rfl, ⟨h2, Hist.new l E S _, zs_bytes _⟩, h4⟩
theorem sAppend (h : FrS w0 w N b r k c D g S fs) (hT : Fm.Cr.Tab w0) (hw0 : 0 < w0.heap.size) (ao : Option Addr) (m cap : Nat) (xs : List Nat) (hm : xs.length = m) (hat : At w ao xs) (hb : Bytes xs) (hc : m ≤ cap) (hcm : cap ≤ maxLen) :
    Calls Tryz.prog 19 #[.pointer (some ⟨g.l, 0, none⟩), .slice ao m cap] w fun e w' =>
      (apC N g m ≠ 0 ∧ e = .returned (.tuple #[.int .u64 0, .int .i64 (apC N g m)]) ∧ w.grownBy w' none) ∨
      (apC N g m = 0 ∧ e = .returned (.tuple #[.int .u64 (g.la + 1), .int .i64 0]) ∧ ∃ v', FrS w0 w' N b r k c D (g.more xs v') S (fs ++ [g.fr xs]) ∧ LgM w w' g (g.more xs v')) := by
  refine (lAppend_at h.at_ hT hw0 ao m cap xs hm hat hb hc hcm).mono ?_
  rintro e w' (h1 | ⟨h1, h2, v', h3, h4⟩)
  · exact .inl h1
  · refine .inr ⟨h1, h2, v', ⟨h3, ?_, h.byt⟩, h4⟩
    have hq : ¬ 32 < m ∧ fitsB N g (m : Int) = true := by
      unfold apC at h1
      split at h1
      · simp at h1
      · split at h1
        · exact ⟨by assumption, by assumption⟩
        · simp at h1
    have hf := hq.2
    unfold fitsB at hf
    have hf := of_decide_eq_true hf
    exact h.hist.more xs v' (fr_ok h.at_ hf.2.2.1 hb) (by omega)
theorem sFlush (h : FrS w0 w N b r k c D g S fs) (hc : c ≤ 80000) :
    Calls Tryz.prog 21 #[.pointer (some ⟨g.l, 0, none⟩)] w fun e w' => e = .returned (.int .i64 0) ∧ ∃ k' c' g', FrS w0 w' N b r k' c' (splice D (1 * 64 + g.a) g.bs) g' S fs ∧ c' ≤ c + 25 ∧ FlG g g' ∧ LgW w w' b k k' [] [] g g' := by
  refine (lFlush_free h.at_ hc h.hist.du).mono ?_
  rintro e w' ⟨rfl, k', c', g', h1, h2, h3, h4⟩
  refine ⟨rfl, k', c', g', ⟨h1, ?_, bytes_splice h.byt h.at_.byt _⟩, h2, h3, h4⟩
  have hfit := h.at_.fit
  rw [bytesAt_splice D g.bs (1 * 64) g.a (N * 64) hfit (by have := h.at_.dlen; omega)]
  exact h.hist.flush h3 (by rw [h.xlen]; exact hfit)
theorem sReset (h : FrS w0 w N b r k c D g S fs) (E : Int) (hE : U64 E) :
    Calls Tryz.prog 44 #[.pointer (some ⟨g.l, 0, none⟩), .int .u64 E] w fun e w' => e = .returned (.int .i64 0) ∧ FrS w0 w' N b r k c D (g.reset E) g.la [] ∧ LgM w w' g (g.reset E) := by
  refine (lReset_at h.at_ E hE).mono ?_
  rintro e w' ⟨rfl, h1, h2⟩
  exact ⟨rfl, ⟨h1, Hist.reset g E _, h.byt⟩, h2⟩
theorem shows_now (F C : Nat) (D : List Nat) : shows F C D (abs []) = bytesAt D (F * 64) (C * 64) := rfl
theorem sScan (h : FrS w0 w N b r k c D g S fs) (hc : c ≤ 80000) (hT : Fm.Cr.Tab w0) (E S' : Int) (hS : U64 S') :
    Calls Tryz.prog 25 #[.pointer (some ⟨r, 0, none⟩), .int .u64 E, .int .u64 S'] w fun e w' => ∃ v ys c', e = .returned (.tuple #[v, .int .i64 ((Fm.fend (Fm.rowF E S' (ints (bytesAt D (1 * 64) (N * 64)))) : Nat) : Int), .int .i64 0]) ∧ Fm.frs ys = Fm.rowF E S' (ints (bytesAt D (1 * 64) (N * 64))) ∧ Fm.FsAt w' w.heap.size v ys ∧ FrS w0 w' N b r k c' D g S fs ∧ c' ≤ c + 11 ∧ LgW w w' b k k [] [] g g := by
  have hN := h.at_.hC
  have hp := pcn64 0 (N * 64) (by omega)
  refine (lScan_at h.at_.dev h.at_.rg (by omega) h.at_.few (by show c ≤ 90000; omega) hT E S' hS (bytes_bytesAt h.byt _ _)).mono ?_
  rw [shows_now, rgo_free]
  rintro e w' (⟨h1, v, ys, rfl, h2, h3, h4⟩ | ⟨h1, _⟩)
  · exact ⟨v, ys, _, rfl, h2, h3, ⟨h.at_.dv h4.dev h4.mov, h.hist, h.byt⟩, by omega, h4.mov.lw⟩
  · exact absurd rfl h1
end
end Go.Proofs.YtofdijaipjkfbaaGreatDoor
/- awake. -/
namespace Go.Proofs.YtofdijaipjkfbaaGreatDoor
open Go.RowKit Ap
attribute [local go_sem ↓] Go.wp_at_zero Go.wp_at_succ
theorem pN1 : pN 1 = 2 := by decide
theorem u3 : U64 3 := ⟨by decide, by decide⟩
theorem u7 : U64 7 := ⟨by decide, by decide⟩
theorem aw_at {w : World} {A : Nat} {fr : Nat × Nat} {xs : List Nat} (h : w.heap[A]? = some (.cells (bv xs).toArray 5 fr)) : At w (some ⟨A, 0, none⟩) xs := by
  intro j u hu
  have e : (⟨A, 0, none⟩ : Addr).add j = ⟨A, j, none⟩ := by unfold Addr.add; split <;> simp_all
  exact ⟨_, rfl, by rw [e, cell_row h j]; exact bv_get _ _ _ hu⟩
theorem aw_ap (l : Nat) : apC 2 (Lg.new l 3 7) 3 = 0 := by simp [apC, fitsB, Lg.new, Lg.end_]
theorem aw_drop (xs : List Nat) (h : xs.length ≤ 128) : (bytesAt (splice (zs ((2 + 1) * 64)) (1 * 64 + 0) xs) (1 * 64) (2 * 64)).drop xs.length = zs (128 - xs.length) := by
  have hz : (zs ((2 + 1) * 64)).length = 192 := List.length_replicate ..
  have hz2 : (zs (2 * 64)).length = 128 := List.length_replicate ..
  rw [bytesAt_splice _ _ _ _ _ (by omega) (by omega), bytesAt_zs _ _ _ (by omega)]
  apply List.ext_getElem?
  intro i
  rw [List.getElem?_drop, splice_get _ _ _ _ (by omega), if_neg (by omega)]
  simp only [zs, List.getElem?_replicate]
  by_cases hi : i < 128 - xs.length
  · rw [if_pos (by omega), if_pos hi]
  · rw [if_neg (by omega), if_neg hi]
set_option maxRecDepth 20000 in
set_option maxHeartbeats 8000000 in
theorem awake_any (w : World) (hT : Fm.Cr.Tab w) (hw0 : 0 < w.heap.size) : Calls Tryz.prog 17 #[] w fun e w' => e = .returned (.bool true) ∧ w.grownBy w' none := by
  have HT := hide (And.intro hT hw0)
  clear hT hw0
  go_enter Tryz.func17, Tryz.ntmps17
  go_wp2_with fail
  refine (place_any w w 1 (grown_refl _ _)).mono ?_
  rintro e w1 ⟨p, r, qr, rfl, p1⟩
  rw [pN1] at p1
  have P1 := hide p1
  clear p1
  go_wp2_with fail
  refine (sNew P1.out (Nat.le_refl _) (by omega) (by omega) 3 7 u3 u7).mono ?_
  rintro e w2 ⟨l, rfl, h2, g2⟩
  have H2 := hide h2
  clear h2 g2 P1
  go_wp2_with fail
  have g3 := World.grownBy_alloc w2 (.cells #[.int .u8 1, .int .u8 2, .int .u8 3] 5) none
  have n3 : (w2.alloc (.cells #[.int .u8 1, .int .u8 2, .int .u8 3] 5)).heap[w2.heap.size]? = some (.cells (bv [1, 2, 3]).toArray 5 (0, 0)) := heap_alloc_new w2 _
  have H3 := hide (And.intro (H2.out.then g3) n3)
  clear g3 n3 H2
  generalize w2.alloc (.cells #[.int .u8 1, .int .u8 2, .int .u8 3] 5) = w3 at *
  generalize w2.heap.size = A at *
  have ha := sAppend H3.out.1 HT.out.1 HT.out.2 (some ⟨A, 0, none⟩) 3 3 [1, 2, 3] rfl (aw_at H3.out.2) (by intro x hx; simp at hx; omega) (Nat.le_refl _) (by decide)
  rw [aw_ap l] at ha
  refine ha.mono ?_
  clear ha
  rintro e w4 (⟨h1, _⟩ | ⟨-, rfl, v4, h4, -⟩)
  · exact absurd rfl h1
  have e8 : (Lg.new l 3 7).la + 1 = 8 := rfl
  rw [e8]
  have H4 := hide h4
  clear h4 H3
  go_wp2_with fail
  refine (sFlush H4.out (by omega)).mono ?_
  rintro e w5 ⟨rfl, k5, c5, g5, h5, c5', f5, -⟩
  have hl : g5.l = l := f5.l
  have hh : Fm.rowF 3 7 (ints (bytesAt (splice (zs ((2 + 1) * 64)) (1 * 64 + ((Lg.new l 3 7).more [1, 2, 3] v4).a) ((Lg.new l 3 7).more [1, 2, 3] v4).bs) (1 * 64) (2 * 64))) = [⟨3, 8, [1, 2, 3]⟩] := by
    have he : g5.e = 3 := f5.e
    have hb : ((Lg.new l 3 7).more [1, 2, 3] v4).bs.length = 25 := by show ([] ++ Fm.nats ((Lg.new l 3 7).fr [1, 2, 3]).out).length = 25; rw [List.nil_append, Fm.nats_length, fr_len]; rfl
    have ha : g5.a = ((Lg.new l 3 7).more [1, 2, 3] v4).bs.length := by rw [f5.a]; show 0 + _ = _; omega
    have := h5.hist.only f5.bs (by rw [he]; decide) (128 - ((Lg.new l 3 7).more [1, 2, 3] v4).bs.length) (by rw [ha]; exact aw_drop _ (by rw [hb]; omega))
    rw [he] at this
    exact this
  have HE : Hid (g5.end_ = 25 ∧ g5.du = 8) := by
    refine ⟨?_, f5.du⟩
    rw [f5.end_, H4.out.hist.end_]
    rfl
  have H5 := hide (And.intro h5 (And.intro c5' hh))
  clear h5 c5' f5 hh H4
  generalize splice (zs ((2 + 1) * 64)) (1 * 64 + ((Lg.new l 3 7).more [1, 2, 3] v4).a) ((Lg.new l 3 7).more [1, 2, 3] v4).bs = D5 at *
  go_wp2_with fail
  have hs := sScan H5.out.1 (by have := H5.out.2.1; omega) HT.out.1 3 7 u7
  rw [H5.out.2.2] at hs
  refine hs.mono ?_
  clear hs
  rintro e w6 ⟨v, ys, c6, rfl, h7, h8, h9, -, -⟩
  obtain ⟨ao, cap, rfl, hr, hcap⟩ := h8.read
  have hlen : ys.length = 1 := by have := congrArg List.length h7; rw [Fm.frs_length] at this; simpa using this
  obtain ⟨y, rfl⟩ : ∃ y, ys = [y] := List.length_eq_one_iff.1 hlen
  have hy : y.f = ⟨3, 8, [1, 2, 3]⟩ := by simpa [Fm.frs] using h7
  obtain ⟨gf, rfl, hf⟩ := hr 0 y rfl
  obtain ⟨bo, bc, hv, hbody⟩ := hf.body
  have c1 := hf.c1
  have c2 := hf.c2
  rw [hv] at c2
  rw [hy] at c1 c2 hbody
  simp only [Nat.zero_mul, Nat.zero_add, List.length_cons, List.length_nil] at c1 c2 hbody hcap
  have H7 := hide (And.intro h9 hbody)
  clear h7 h8 h9 hr hlen hf hv hbody hy
  have hfe : ((Fm.fend [⟨3, 8, [1, 2, 3]⟩] : Nat) : Int) = 25 := rfl
  rw [hfe]
  simp only [List.length_cons, List.length_nil]
  clear hfe
  go_wp2_with fail
  have g8 := World.grownBy_alloc w6 (.cells #[.int .u8 1, .int .u8 2, .int .u8 3] 5) none
  have n8 : (w6.alloc (.cells #[.int .u8 1, .int .u8 2, .int .u8 3] 5)).heap[w6.heap.size]? = some (.cells (bv [1, 2, 3]).toArray 5 (0, 0)) := heap_alloc_new w6 _
  have H8 := hide (And.intro (H7.out.1.then g8) (And.intro (H7.out.2.kept g8 (fun _ _ e => by cases e)) n8))
  clear g8 n8 H7 c1 c2
  generalize w6.alloc (.cells #[.int .u8 1, .int .u8 2, .int .u8 3] 5) = w8 at *
  generalize w6.heap.size = A8 at *
  refine (Fm.same_eq bo (some ⟨A8, 0, none⟩) 3 bc 3 [1, 2, 3] w8 rfl H8.out.2.1 (At.ints (xs := [1, 2, 3]) (aw_at H8.out.2.2)) (by omega)).mono ?_
  rintro e w9 ⟨rfl, g9⟩
  have H9 := hide (H8.out.1.then g9)
  clear g9 H8
  have hu := lUsed_at H9.out.at_
  rw [hl, HE.out.1] at hu
  go_wp2_with fail
  refine hu.mono ?_
  clear hu
  rintro e w10 ⟨rfl, q, rfl⟩
  have H10 := hide (H9.out.then (grown_drewN w9 q none))
  clear H9
  generalize w9.drewN q = w10 at *
  have hu := lDurable_at H10.out.at_
  rw [hl, HE.out.2] at hu
  go_wp2_with fail
  refine hu.mono ?_
  clear hu
  rintro e w11 ⟨rfl, rfl⟩
  go_wp2
  go_ret
  exact ⟨rfl, H10.out.at_.grown0⟩
end Go.Proofs.YtofdijaipjkfbaaGreatDoor
/- first: frames that were told begin with these bodies. -/
namespace Go.Proofs.YtofdijaipjkfbaaGreatDoor
open Go.RowKit Ap
attribute [local go_sem ↓] Go.wp_at_zero Go.wp_at_succ
/-- Rows of bytes, read through a row of slices. -/
def BRows (w : World) (bo : Option Addr) (bs : List (List Nat)) : Prop := ∀ j x, bs[j]? = some x → ∃ a co c, bo = some a ∧ w.cell? (a.add j) = some (.slice co x.length c) ∧ At w co x
theorem BRows.grown {w w' : World} {bo : Option Addr} {bs : List (List Nat)} (h : BRows w bo bs) (hg : w.grownBy w' none) : BRows w' bo bs := by
  intro j x hx
  obtain ⟨a, co, c, h1, h2, h3⟩ := h j x hx
  exact ⟨a, co, c, h1, hg.cell h2 (by simp), h3.grown hg⟩
theorem at_of_ints {w : World} {ao : Option Addr} {xs : List Nat} (h : Fm.At w ao (ints xs)) : At w ao xs := by
  intro j u hu
  exact h j u (by simp [ints, hu])
set_option maxRecDepth 20000 in
set_option maxHeartbeats 4000000 in
theorem first_any (ao : Option Addr) (L cap : Nat) (ys : List Fm.El) (bo : Option Addr) (m bc : Nat) (bs : List (List Nat)) (E S : Int) (w : World) (hS : 0 ≤ S) (hS1 : S + m < 18446744073709551616) (hF : Fm.FsR w ao ys) (hB : BRows w bo bs) (hlen : bs.length = m) (_hL : ys.length = L) (hm : m ≤ L) (_hL2 : L ≤ cap) (hbig : L ≤ 1000000)
    (hpre : ∀ (j : Nat) (x : List Nat), bs[j]? = some x → ∃ y : Fm.El, ys[j]? = some y ∧ y.f = ⟨E, S + (j : Int) + 1, ints x⟩) :
    Calls Tryz.prog 26 #[.slice ao L cap, .slice bo m bc, .int .u64 E, .int .u64 S] w fun e w' => e = .returned (.bool true) ∧ ∃ q, w' = w.drewN q := by
  have HF := hide (And.intro hF (And.intro hB (And.intro hlen hpre)))
  clear hF hB hlen hpre _hL
  have hd1 : decide ((L : Int) < (m : Int)) = false := decide_eq_false (by omega)
  have hd2 : decide (L < m) = false := decide_eq_false (by omega)
  go_enter Tryz.func26, Tryz.ntmps26
  go_wp2
  go_loopg [9] m (fun q i wr => ∃ j : Nat, q + j = m ∧ i = .int .i64 j ∧ ∃ q, wr = w.drewN q)
  case atStart => exact ⟨0, by omega, rfl, 0, rfl⟩
  case round =>
    obtain ⟨j, hkj, rfl, q, rfl⟩ := hrel
    by_cases hk : 0 < gk
    · obtain ⟨hF, hB, hlen, hpre⟩ := HF.out
      obtain ⟨x, hx⟩ : ∃ x, bs[j]? = some x := ⟨_, List.getElem?_eq_getElem (by omega)⟩
      obtain ⟨y, hy, hyf⟩ := hpre j x hx
      obtain ⟨gf, hao, hc⟩ := hF j y hy
      obtain ⟨a, co, cc, hbo, hcell, hat⟩ := hB j x hx
      subst hao hbo
      obtain ⟨vo, vc, hv, hbody⟩ := hc.body
      have c0 := hc.c0
      have c1 := hc.c1
      have c2 := hc.c2
      have hsh := hc.short
      rw [hv] at c2
      rw [hyf] at c0 c1 c2 hbody hsh
      simp only [ints_length] at c2 hsh
      have hj0 : (0 : Int) ≤ (j : Int) := by omega
      have hj1 : (j : Int) < (m : Int) := by omega
      have hj2 : (j : Int) < (L : Int) := by omega
      have hw1 : IntKind.u64.wrap (j : Int) = (j : Int) := by rw [IntKind.wrap_u64]; omega
      have hw2 : IntKind.u64.wrap (S + (j : Int)) = S + (j : Int) := by rw [IntKind.wrap_u64]; omega
      have hw3 : IntKind.u64.wrap (S + (j : Int) + 1) = S + (j : Int) + 1 := by rw [IntKind.wrap_u64]; omega
      have g0 := grown_drewN w q none
      replace c0 := g0.cell c0 (by simp)
      replace c1 := g0.cell c1 (by simp)
      replace c2 := g0.cell c2 (by simp)
      replace hcell := g0.cell hcell (by simp)
      have hA1 := (at_of_ints hbody).grown g0
      have hA2 := hat.grown g0
      have HX : Hid (∀ n, ∃ q', (w.drewN q).drewN n = w.drewN q') := fun n => drews w q n
      clear hF hB hlen hpre hx hy hyf hc hat hv hbody g0
      generalize w.drewN q = wr at *
      have HSB : Hid (∀ q, Calls Tryz.prog 63 #[.slice vo x.length vc, .slice co x.length cc] (wr.drewN q) fun e w' => e = .returned (.bool true) ∧ ∃ m, w' = (wr.drewN q).drewN m) := fun q => sameBytes_eq vo co x.length vc cc x (wr.drewN q) rfl (hA1.grown (grown_drewN _ _ none)) (hA2.grown (grown_drewN _ _ none)) (by omega)
      clear hA1 hA2
      generalize x.length = xl at *
      go_wp2_with fail
      go_quiet ((go_at_call 63; exact Calls.quiet_of (HSB.out _)))
      go_wp2
      go_roundg (gk - 1)
      case measure => omega
      case rel =>
        exact ⟨j + 1, by omega, by go_num, HX.out _⟩
    · have hj : j = m := by omega
      subst hj
      go_wp2
      go_ret
      exact ⟨rfl, q, rfl⟩
end Go.Proofs.YtofdijaipjkfbaaGreatDoor
/- The bodies that were taken, as a row of slices that the law keeps. -/
namespace Go.Proofs.YtofdijaipjkfbaaGreatDoor
open Go.RowKit Ap
/-- A row of slices of the call's own: bodies that came in. -/
def InS (w0 wr : World) (v : Value) (bs : List (List Nat)) : Prop := ∃ vs, wr.ownsRow w0.heap.size 39 1 v bs.length vs ∧ ∀ (j : Nat) (x : List Nat), bs[j]? = some x → ∃ ao c, vs[j]? = some (.slice ao x.length c) ∧ At w0 ao x
theorem InS.nil (w0 wr : World) : InS w0 wr (.slice none 0 0) [] := ⟨[], World.ownsRow_nil _ _ _ _, fun j x h => by simp at h⟩
section
variable {w0 w w' : World} {n b r F C : Nat} {s : Dv} {k k' : Dk} {D : List Nat} {W W' : List Wt} {g g' : Lg} {v : Value} {bs : List (List Nat)}
theorem InS.grown (h : InS w0 w v bs) (hg : w.grownBy w' none) : InS w0 w' v bs := by
  obtain ⟨vs, h1, h2⟩ := h
  exact ⟨vs, Fm.own_grown h1 hg, h2⟩
theorem InS.off (h : InS w0 w v bs) (hl : LgAt w0 w n b r F C s k D W g) : ∀ i, v.ownBlock = some i → ¬ (foot k W i ∨ i = b ∨ lfoot g i) := by
  obtain ⟨vs, h1, _⟩ := h
  intro i hi
  obtain ⟨c, hc⟩ := Fm.own_cells h1 hi
  have h6 := hl.dev.clear_of hc (by decide) (by decide) (by decide) (by decide)
  rintro (e | e | e | e)
  · exact h6.1 e
  · exact h6.2 e
  · have := hl.head
    rw [← e, hc] at this
    simp at this
  · obtain ⟨d, hd⟩ := Fm.own_cells hl.row e
    rw [hc] at hd
    simp at hd
theorem InS.step (h : InS w0 w v bs) (hl : LgAt w0 w n b r F C s k D W g) (q : LgW w w' b k k' W W' g g') : InS w0 w' v bs := by
  have ho := h.off hl
  obtain ⟨vs, h1, h2⟩ := h
  exact ⟨vs, owns_off h1 q.kept (fun i hi => ho i hi), h2⟩
theorem InS.form (h : InS w0 w v bs) : ∃ vo cap, v = .slice vo bs.length cap := by
  obtain ⟨vs, h1, _⟩ := h
  obtain ⟨vo, cap, e, _⟩ := own_form h1
  exact ⟨vo, cap, e⟩
theorem InS.brows {vo : Option Addr} {cap : Nat} (h : InS w0 w (.slice vo bs.length cap) bs) (hg : w0.grownBy w none) : BRows w vo bs := by
  obtain ⟨vs, h1, h2⟩ := h
  intro j x hx
  obtain ⟨ao, c, h3, h4⟩ := h2 j x hx
  rcases h1.2 with ⟨e, h0⟩ | ⟨gb, cap', cur, e, hb, hgb, hn, hm, hs, ht⟩
  · have : bs = [] := List.eq_nil_of_length_eq_zero h0
    subst this
    simp at hx
  · cases e
    refine ⟨_, ao, c, rfl, ?_, h4.grown hg⟩
    rw [Addr.add_lit, Nat.zero_add, cell_of_row w gb j cur 39 (0, 0) hgb]
    have h5 : (cur.toList.take (bs.length * 1))[j]? = some (.slice ao x.length c) := by rw [ht]; exact h3
    rw [List.getElem?_take] at h5
    split at h5
    · simpa using h5
    · cases h5
/-- One body more. -/
theorem InS.push {v' : Value} {x : List Nat} {ao : Option Addr} {c : Nat} (h : InS w0 w v bs) (hw : ∀ vs, w.ownsRow w0.heap.size 39 1 v bs.length vs → w'.ownsRow w0.heap.size 39 1 v' (bs.length + 1) (vs ++ [.slice ao x.length c])) (hat : At w0 ao x) : InS w0 w' v' (bs ++ [x]) := by
  obtain ⟨vs, h1, h2⟩ := h
  have hl : vs.length = bs.length := by have := h1.1; simpa using this
  refine ⟨vs ++ [.slice ao x.length c], by rw [List.length_append]; exact hw vs h1, ?_⟩
  intro j y hy
  by_cases hj : j < bs.length
  · rw [List.getElem?_append_left hj] at hy
    obtain ⟨ao', c', h3, h4⟩ := h2 j y hy
    exact ⟨ao', c', by rw [List.getElem?_append_left (by omega)]; exact h3, h4⟩
  · have hlt := (List.getElem?_eq_some_iff.1 hy).1
    have hj2 : j = bs.length := by simp at hlt; omega
    subst hj2
    rw [List.getElem?_append_right (by omega), Nat.sub_self] at hy
    simp at hy
    subst hy
    exact ⟨ao, c, by rw [← hl, List.getElem?_append_right (by omega), Nat.sub_self]; rfl, hat⟩
end
/-- The frames are these bodies, numbered on. -/
def Bod (E S : Int) (fs : List Fm.Fr) (bs : List (List Nat)) : Prop := fs.length = bs.length ∧ ∀ (j : Nat) (x : List Nat), bs[j]? = some x → fs[j]? = some ⟨E, S + (j : Int) + 1, ints x⟩
theorem Bod.nil (E S : Int) : Bod E S [] [] := ⟨rfl, fun j x h => by simp at h⟩
theorem Bod.snoc {E S : Int} {fs : List Fm.Fr} {bs : List (List Nat)} (h : Bod E S fs bs) {f : Fm.Fr} {x : List Nat} (hf : f = ⟨E, S + (bs.length : Int) + 1, ints x⟩) : Bod E S (fs ++ [f]) (bs ++ [x]) := by
  refine ⟨by simp [h.1], ?_⟩
  intro j y hy
  by_cases hj : j < bs.length
  · rw [List.getElem?_append_left hj] at hy
    rw [List.getElem?_append_left (by rw [h.1]; exact hj)]
    exact h.2 j y hy
  · have hlt := (List.getElem?_eq_some_iff.1 hy).1
    have hj2 : j = bs.length := by simp at hlt; omega
    subst hj2
    rw [List.getElem?_append_right (by omega), Nat.sub_self] at hy
    simp at hy
    subst hy
    rw [List.getElem?_append_right (by rw [h.1]; omega), h.1, Nat.sub_self]
    simp [hf]
end Go.Proofs.YtofdijaipjkfbaaGreatDoor
