/- Texts joined: Lg6, Lg7, RefN, RefZ, RDev. -/
import Derived.Test.YtofdijaipjkfbaaGreatDoorJkAv
import Derived.Test.YtofdijaipjkfbaaGreatDoorJkAq
import Derived.Test.YtofdijaipjkfbaaGreatDoorJkAo
import Derived.Deep.RegionHeld3
import Derived.Test.YtofdijaipjkfbaaGreatDoorJkAr
/- Flush, whole. -/
namespace Go.Proofs.YtofdijaipjkfbaaGreatDoor
open Go.RowKit Ap
attribute [local go_sem ↓] Go.wp_at_zero Go.wp_at_succ
/-- The log behind a flush whose error is c. -/
def Lg.fl (g : Lg) (c : Int) : Lg := if c = 0 then { g with v := .slice none 0 0, a := g.end_, bs := [], du := g.la } else g
theorem Lg.fl_ok (g : Lg) : g.fl 0 = { g with v := .slice none 0 0, a := g.end_, bs := [], du := g.la } := rfl
theorem Lg.fl_no (g : Lg) {c : Int} (h : c ≠ 0) : g.fl c = g := if_neg h
section
variable {w0 w w' w'' : World} {n b r F C : Nat} {s s' : Dv} {k k' : Dk} {D D' : List Nat} {W W' : List Wt} {g g' : Lg}
theorem LgAt.du5 (h : LgAt w0 w n b r F C s k D W (g.at0 g.end_)) :
    LgAt w0 (w.setCell ⟨g.l, 5, none⟩ (.int .u64 g.la)) n b r F C s k D W (g.fl 0) ∧ LgM w (w.setCell ⟨g.l, 5, none⟩ (.int .u64 g.la)) (g.at0 g.end_) (g.fl 0) := by
  have h1 := row_setCell h.head 5 (.int .u64 g.la)
  rw [Lg.fl_ok]
  have M : LgM w (w.setCell ⟨g.l, 5, none⟩ (.int .u64 g.la)) (g.at0 g.end_) { g with v := .slice none 0 0, a := g.end_, bs := [], du := g.la } :=
    ⟨rfl, Kept.of (grown_setCell w g.l 5 _) (fun i e _ => .inl (by cases e; rfl)), fun i e => by simp [Value.ownBlock] at e⟩
  exact ⟨h.moved M h1 (World.ownsRow_nil _ _ _ _) (fun x hx => by cases hx) h.fit h.ue h.ul h.ul, M⟩
/-- What Flush leaves. -/
structure FlushP (w0 w w' : World) (n b r F C : Nat) (k : Dk) (W : List Wt) (g : Lg) (o : Int × Dv × List Nat × List Pr) (k' : Dk) (W' : List Wt) : Prop where
  at_ : LgAt w0 w' n b r F C o.2.1 k' o.2.2.1 W' (g.fl o.1)
  abs : abs W' = o.2.2.2
  mov : LgW w w' b k k' W W' g (g.fl o.1)
set_option maxRecDepth 20000 in
set_option maxHeartbeats 4000000 in
theorem lFlush_at (h : LgAt w0 w n b r F C s k D W g) (hW : W.length ≤ 800000) (hcnt : s.cnt ≤ 90000) :
    Calls Tryz.prog 21 #[.pointer (some ⟨g.l, 0, none⟩)] w fun e w' => (g.du = g.la ∧ e = .returned (.int .i64 0) ∧ w.grownBy w' none) ∨
      (g.du ≠ g.la ∧ e = .returned (.int .i64 (flA F g.a g.bs s D (abs W)).1) ∧ ∃ k' W', FlushP w0 w w' n b r F C k W g (flA F g.a g.bs s D (abs W)) k' W') := by
  have H := hide (lnone_at h)
  have c2 := h.cell 2
  have c4 := h.cell 4
  have c5 := h.cell 5
  simp only [lcells, List.getElem?_cons_succ, List.getElem?_cons_zero] at c2 c4 c5
  by_cases hd : g.du = g.la
  · rw [hd] at c5
    clear h
    generalize g.l = l at *
    generalize g.la = A at *
    go_enter Tryz.func21, Tryz.ntmps21
    go_wp2_with fail
    refine H.out.mono ?_
    rintro e w' ⟨rfl, rfl⟩
    go_wp2_with fail
    go_quiet (fail)
    go_wp2
    go_ret
    exact .inl ⟨hd, rfl, grown_drewN _ _ _⟩
  · have HB : Hid (∀ w1 : World, w.grownBy w1 none → Calls Tryz.prog 71 #[.pointer (some ⟨g.l, 0, none⟩), .pointer (some ⟨r, 0, none⟩)] w1 fun e w' => e = .returned (.int .i64 (flA F g.a g.bs s D (abs W)).1) ∧ (∃ k' W', LgAt w0 w' n b r F C (flA F g.a g.bs s D (abs W)).2.1 k' (flA F g.a g.bs s D (abs W)).2.2.1 W' g ∧ abs W' = (flA F g.a g.bs s D (abs W)).2.2.2 ∧ LgW w w' b k k' W W' g g) ∧ w'.heap[g.l]? = some (.cells (lcells r g).toArray 94 (0, 0))) := by
      intro w1 hg
      have h1 := h.then hg
      refine (twrite_at h1 hW hcnt).mono ?_
      rintro e w' ⟨rfl, k2, W2, h2, h3, h4⟩
      have h5 := h1.dv h2 h4
      exact ⟨rfl, ⟨k2, W2, h5, h3, (LgM.lw (LgM.new hg)).trans h4.lw⟩, h5.head⟩
    have HLC : Hid (∀ w3 : World, w3.heap[g.l]? = some (.cells (lcells r g).toArray 94 (0, 0)) → w3.cell? ⟨g.l, 2, none⟩ = some (.pointer (some ⟨r, 0, none⟩))) := by
      intro w3 h3
      exact cell_row h3 2
    have HS : Hid (∀ (w1 : World) (s2 : Dv) (k2 : Dk) (D2 : List Nat) (W2 : List Wt), LgAt w0 w1 n b r F C s2 k2 D2 W2 g → Calls Tryz.prog 72 #[.pointer (some ⟨g.l, 0, none⟩)] w1 fun e w' => e = .returned (.tuple #[]) ∧ LgAt w0 w' n b r F C s2 k2 D2 W2 (g.at0 g.end_) ∧ LgM w1 w' g (g.at0 g.end_)) := by
      intro w1 s2 k2 D2 W2 h1
      exact lsettle_at h1
    generalize hO : flA F g.a g.bs s D (abs W) = O at *
    have hdd : (g.du == g.la) = false := by simpa using hd
    by_cases hc : O.1 = 0
    · rw [hc] at HB
      clear h hO
      go_enter Tryz.func21, Tryz.ntmps21
      go_wp2_with fail
      refine H.out.mono ?_
      rintro e w' ⟨rfl, rfl⟩
      go_wp2_with fail
      go_quiet (fail)
      go_wp2_with fail
      go_region_held3 (fun w' => w'.cell? ⟨g.l, 2, none⟩ = some (.pointer (some ⟨r, 0, none⟩))) (first | assumption | go_keep) ((go_at_call 71; refine (HB.out _ (grown_trans (grown_drewN _ _ none) (grown_drew _ none))).mono ?_; rintro e3 w3 ⟨rfl, Z1, Z2⟩; have hk := HLC.out _ Z2))
      obtain ⟨k2, W2, h2, h3, h4⟩ := Z1
      have HZ := hide (And.intro h2 (And.intro h3 h4))
      have HS2 := hide (HS.out _ _ _ _ _ h2)
      clear h2 h3 h4 Z2 hk
      go_wp2_with fail
      refine HS2.out.mono ?_
      rintro e4 w4 ⟨rfl, h5, m5⟩
      have c4' : w4.cell? ⟨g.l, 4, none⟩ = some (.int .u64 g.la) := h5.cell 4
      have c5' : w4.cell? ⟨g.l, 5, none⟩ = some (.int .u64 g.du) := h5.cell 5
      have f5' : w4.frozen? ⟨g.l, 5, none⟩ = false := h5.free 5
      have HX := hide (And.intro h5.du5 m5)
      clear h5 m5
      go_wp2
      go_ret
      refine .inr ⟨hd, by rw [hc]; rfl, k2, W2, ?_⟩
      have e1 := HX.out.1.1
      have e2 := HX.out.1.2
      rw [← hc] at e1 e2
      exact ⟨e1, HZ.out.2.1, HZ.out.2.2.trans (LgM.lw (HX.out.2.trans e2))⟩
    · have hne : (O.1 != 0) = true := by simpa using hc
      clear h hO HS
      generalize hq : O.1 = c at *
      go_enter Tryz.func21, Tryz.ntmps21
      go_wp2_with fail
      refine H.out.mono ?_
      rintro e w' ⟨rfl, rfl⟩
      go_wp2_with fail
      go_quiet (fail)
      go_wp2_with fail
      go_region_held3 (fun w' => w'.cell? ⟨g.l, 2, none⟩ = some (.pointer (some ⟨r, 0, none⟩))) (first | assumption | go_keep) ((go_at_call 71; refine (HB.out _ (grown_trans (grown_drewN _ _ none) (grown_drew _ none))).mono ?_; rintro e3 w3 ⟨rfl, Z1, Z2⟩; have hk := HLC.out _ Z2))
      have HZ := hide Z1
      clear Z1 Z2 hk
      go_wp2
      go_ret
      obtain ⟨k2, W2, h2, h3, h4⟩ := HZ.out
      refine .inr ⟨hd, rfl, k2, W2, ?_⟩
      subst hq
      have e1 : g.fl O.1 = g := g.fl_no hc
      exact ⟨by rw [e1]; exact h2, h3, by rw [e1]; exact h4⟩
end
end Go.Proofs.YtofdijaipjkfbaaGreatDoor
/- Scan. -/
namespace Go.Proofs.YtofdijaipjkfbaaGreatDoor
open Go.RowKit Ap
attribute [local go_sem ↓] Go.wp_at_zero Go.wp_at_succ
theorem results_tmp3 {fn : Func} {t u v : Tmp} (h : fn.results = #[.tmp t, .tmp u, .tmp v]) (tmps : Array Value) (P : Program) (w : World) :
    (results fn tmps).run P w = .ok (.tuple #[tmps.getD t undef, tmps.getD u undef, tmps.getD v undef]) w := by
  simp [results, h]
/-- What a region of the device shows. -/
def shows (F C : Nat) (D : List Nat) (A : List Pr) : List Nat := bytesAt (now 64 D A) (F * 64) (C * 64)
section
variable {w0 w w' w'' : World} {n b r F C : Nat} {s s' : Dv} {k k' : Dk} {D D' : List Nat} {W W' : List Wt}
/-- What Scan leaves. -/
structure ScanP (w0 w w' : World) (n b : Nat) (s : Dv) (k : Dk) (D : List Nat) (W : List Wt) : Prop where
  dev : Dev w0 w' n 64 b s k D W
  mov : DvM w w' b k k W W
set_option maxRecDepth 20000 in
set_option maxHeartbeats 4000000 in
theorem lScan_at (h : Dev w0 w n 64 b s k D W) (hr : RgAt w r b F C) (hFC : F + C ≤ n) (hn : n ≤ 9) (hcnt : s.cnt ≤ 90000) (hT : Fm.Cr.Tab w0) (E S : Int) (hS : U64 S) (hB : Bytes (shows F C D (abs W))) :
    Calls Tryz.prog 25 #[.pointer (some ⟨r, 0, none⟩), .int .u64 E, .int .u64 S] w fun e w' =>
      ((rgo (pcn 64 0 (C * 64)) s).1 = 0 ∧ ∃ v ys, e = .returned (.tuple #[v, .int .i64 ((Fm.fend (Fm.rowF E S (ints (shows F C D (abs W)))) : Nat) : Int), .int .i64 0]) ∧ Fm.frs ys = Fm.rowF E S (ints (shows F C D (abs W))) ∧ Fm.FsAt w' w.heap.size v ys ∧ ScanP w0 w w' n b (rgo (pcn 64 0 (C * 64)) s).2 k D W) ∨
      ((rgo (pcn 64 0 (C * 64)) s).1 ≠ 0 ∧ e = .returned (.tuple #[.slice none 0 0, .int .i64 0, .int .i64 (rgo (pcn 64 0 (C * 64)) s).1]) ∧ ScanP w0 w w' n b (rgo (pcn 64 0 (C * 64)) s).2 k D W) := by
  have hp := pcn64 0 (C * 64) (by omega)
  have H := hide (gBytes_at h hr (by omega))
  have HR : Hid (∀ q, Calls Tryz.prog 73 #[.pointer (some ⟨r, 0, none⟩), .int .i64 0, .int .i64 ((C * 64 : Nat) : Int)] (w.drewN q) fun e w' => ∃ v c, e = .returned (.tuple #[v, .int .i64 c]) ∧ c = (rgo (pcn 64 0 (C * 64)) s).1 ∧ ReadP w0 (w.drewN q) w' n 64 b s k D W (C * 64) (pcn 64 0 (C * 64)) (shows F C D (abs W)) v c) := by
    intro q
    have := gRead_at (h.drew q) (hr.drew q) hFC 0 (C * 64) (by omega) (by omega)
    rw [Nat.add_zero] at this
    exact this.mono (by rintro e w' ⟨v, c, rfl, p⟩; exact ⟨v, c, rfl, p.code, p⟩)
  have HL : Hid (∀ q w2 v c, ReadP w0 (w.drewN q) w2 n 64 b s k D W (C * 64) (pcn 64 0 (C * 64)) (shows F C D (abs W)) v c → ScanP w0 w w2 n b (rgo (pcn 64 0 (C * 64)) s).2 k D W) := by
    intro q w2 v c p
    exact ⟨p.dev, ⟨rfl, fun i e => .inl e, fun x hx => .inl ⟨x, hx, rfl⟩, ((Kept.new (grown_drewN w q none) _).trans p.kept (fun i _ e => e))⟩⟩
  by_cases hc : (rgo (pcn 64 0 (C * 64)) s).1 = 0
  · have HS : Hid (∀ q w2 gx, ReadP w0 (w.drewN q) w2 n 64 b s k D W (C * 64) (pcn 64 0 (C * 64)) (shows F C D (abs W)) (.slice (some ⟨gx, 0, none⟩) (C * 64) (C * 64)) 0 → Calls Tryz.prog 74 #[.slice (some ⟨gx, 0, none⟩) (C * 64) (C * 64), .int .u64 E, .int .u64 S] w2 fun e w' => ∃ v ys, e = .returned (.tuple #[v, .int .i64 ((Fm.fend (Fm.rowF E S (ints (shows F C D (abs W)))) : Nat) : Int)]) ∧ Fm.frs ys = Fm.rowF E S (ints (shows F C D (abs W))) ∧ Fm.FsAt w' w.heap.size v ys ∧ ScanP w0 w w' n b (rgo (pcn 64 0 (C * 64)) s).2 k D W) := by
      intro q w2 gx p
      have hsp := HL.out q w2 _ _ p
      obtain ⟨g2, e2, h3, h4, h5⟩ := p.ok rfl
      cases e2
      have hat : At w2 (some ⟨gx, 0, none⟩) (shows F C D (abs W)) := by
        intro j u hu
        have e : (⟨gx, 0, none⟩ : Addr).add j = ⟨gx, j, none⟩ := by unfold Addr.add; split <;> simp_all
        refine ⟨_, rfl, ?_⟩
        rw [e, cell_row h4 j]
        exact bv_get _ _ _ hu
      have hle : (C * 64) ≤ 576 := by omega
      have hsz : w.heap.size ≤ w2.heap.size := hsp.mov.kept.size
      refine (Fm.scan_any (some ⟨gx, 0, none⟩) (C * 64) (C * 64) (ints (shows F C D (abs W))) E S w2 ⟨At.ints hat, by rw [ints_length]; exact h5, (fun e => by cases e), Nat.le_refl _, ints_byt hB, by omega, hT.grown p.dev.disk.grown⟩ hS.1 hS.2 (by omega)).mono ?_
      rintro e w' ⟨v, ys, rfl, h6, h7, h8⟩
      exact ⟨v, ys, rfl, h6, h7.base hsz, hsp.dev.then h8, hsp.mov.new h8⟩
    rw [hc] at HR
    have hB2 : C * 64 ≤ 576 := by omega
    have HR2 : Hid (∀ q, Calls Tryz.prog 73 #[.pointer (some ⟨r, 0, none⟩), .int .i64 0, .int .i64 ((C * 64 : Nat) : Int)] (w.drewN q) fun e w' => ∃ gx, e = .returned (.tuple #[.slice (some ⟨gx, 0, none⟩) (C * 64) (C * 64), .int .i64 0]) ∧ ReadP w0 (w.drewN q) w' n 64 b s k D W (C * 64) (pcn 64 0 (C * 64)) (shows F C D (abs W)) (.slice (some ⟨gx, 0, none⟩) (C * 64) (C * 64)) 0) := by
      intro q
      refine (HR.out q).mono ?_
      rintro e w' ⟨v, c, rfl, rfl, p⟩
      obtain ⟨g2, e2, _⟩ := p.ok rfl
      subst e2
      exact ⟨g2, rfl, p⟩
    clear h hr HR HL hp hB
    generalize hfe : ((Fm.fend (Fm.rowF E S (ints (shows F C D (abs W)))) : Nat) : Int) = fe at *
    generalize hB3 : C * 64 = B at *
    have HB3 := hide hB3
    clear hB3
    go_enter Tryz.func25, Tryz.ntmps25
    go_wp2_with fail
    refine H.out.mono ?_
    rintro e w1 ⟨rfl, q, rfl⟩
    go_wp2_with fail
    refine (HR2.out q).mono ?_
    rintro e w2 ⟨gx, rfl, p⟩
    have HP := hide (HS.out q w2 gx p)
    clear p
    go_wp2_with fail
    refine HP.out.mono ?_
    rintro e w3 ⟨v, ys, rfl, Z1, Z2, Z3⟩
    obtain ⟨ao, cap, rfl⟩ := Fm.own_form Z2.own
    have HZ := hide (And.intro Z1 (And.intro Z2 Z3))
    clear Z1 Z2 Z3
    go_wp2
    refine bodyPost_ret (results_tmp3 rfl _ _ _) rfl ?_
    exact .inl ⟨hc, _, ys, rfl, HZ.out.1, HZ.out.2.1, HZ.out.2.2⟩
  · have HR2 : Hid (∀ q, Calls Tryz.prog 73 #[.pointer (some ⟨r, 0, none⟩), .int .i64 0, .int .i64 ((C * 64 : Nat) : Int)] (w.drewN q) fun e w' => e = .returned (.tuple #[.slice none 0 0, .int .i64 (rgo (pcn 64 0 (C * 64)) s).1]) ∧ ScanP w0 w w' n b (rgo (pcn 64 0 (C * 64)) s).2 k D W) := by
      intro q
      refine (HR.out q).mono ?_
      rintro e w' ⟨v, c, rfl, rfl, p⟩
      have := p.no hc
      subst this
      exact ⟨rfl, HL.out q _ _ _ p⟩
    have hB2 : C * 64 ≤ 576 := by omega
    clear h hr HR HL hp hB
    generalize hq : (rgo (pcn 64 0 (C * 64)) s).1 = c at *
    generalize (rgo (pcn 64 0 (C * 64)) s).2 = s2 at *
    have hne : (c != 0) = true := by simpa using hc
    clear hq
    generalize C * 64 = B at *
    go_enter Tryz.func25, Tryz.ntmps25
    go_wp2_with fail
    refine H.out.mono ?_
    rintro e w1 ⟨rfl, q, rfl⟩
    go_wp2_with fail
    refine (HR2.out q).mono ?_
    rintro e w2 ⟨rfl, p⟩
    have HP := hide p
    clear p
    go_wp2
    refine bodyPost_ret (results_tmp3 rfl _ _ _) rfl ?_
    exact .inr ⟨hc, rfl, HP.out⟩
end
end Go.Proofs.YtofdijaipjkfbaaGreatDoor
/- The document's New. -/
namespace Go.Proofs.YtofdijaipjkfbaaGreatDoor
open Go.RowKit Ap
attribute [local go_sem ↓] Go.wp_at_zero Go.wp_at_succ

/-- New bytes, and what an append of them comes to. -/
theorem make_push {wq : World} {lo rb j vcap sz : Nat} {vo : Option Addr} {vw : Value} {S : List Bx} (hb : wq.heap[rb]? = some (.cells #[.slice vo j vcap, vw] 145 (0, 0))) (hR : RowAt wq lo (.slice vo j vcap) S) (hS : S.length = j) (hs1 : sz ≤ 4096) (hlo : lo ≤ wq.heap.size) (hj : j ≤ 65536) :
    ∃ g cap2 w2, (∀ ty, (Builtin.append_ #[51, 51] ty #[.slice vo j vcap, .slice (some ⟨wq.heap.size + 1, 0, none⟩) 1 1]).run Tryz.prog ((wq.drew.alloc (.cells (bv (zs sz)).toArray 5)).alloc (.cells #[.slice (some ⟨wq.heap.size, 0, none⟩) sz sz] 39)) = .ok (.slice (some ⟨g, 0, none⟩) (j + 1) cap2) w2) ∧
      (wq.drew.alloc (.cells (bv (zs sz)).toArray 5)).cell? ⟨rb, 0, none⟩ = some (.slice vo j vcap) ∧ ((wq.drew.alloc (.cells (bv (zs sz)).toArray 5)).alloc (.cells #[.slice (some ⟨wq.heap.size, 0, none⟩) sz sz] 39)).cell? ⟨rb, 0, none⟩ = some (.slice vo j vcap) ∧ w2.cell? ⟨rb, 0, none⟩ = some (.slice vo j vcap) ∧ w2.frozen? ⟨rb, 0, none⟩ = false ∧
      Hid ((w2.setCell ⟨rb, 0, none⟩ (.slice (some ⟨g, 0, none⟩) (j + 1) cap2)).heap[rb]? = some (.cells #[.slice (some ⟨g, 0, none⟩) (j + 1) cap2, vw] 145 (0, 0)) ∧ RowAt (w2.setCell ⟨rb, 0, none⟩ (.slice (some ⟨g, 0, none⟩) (j + 1) cap2)) lo (.slice (some ⟨g, 0, none⟩) (j + 1) cap2) (S ++ [⟨wq.heap.size, sz, zs sz⟩]) ∧ Kept wq (w2.setCell ⟨rb, 0, none⟩ (.slice (some ⟨g, 0, none⟩) (j + 1) cap2)) (fun i => i = rb ∨ (Value.slice vo j vcap).ownBlock = some i)) := by
  have g1' : wq.grownBy (wq.drew.alloc (.cells (bv (zs sz)).toArray 5)) none := grown_trans (grown_drew wq none) (World.grownBy_alloc _ _ none)
  have hsz : (wq.drew.alloc (.cells (bv (zs sz)).toArray 5)).heap.size = wq.heap.size + 1 := Array.size_push ..
  have hzl : (zs sz).length = sz := by simp [zs]
  have o1 : BxAt (wq.drew.alloc (.cells (bv (zs sz)).toArray 5)) wq.heap.size ⟨wq.heap.size, sz, zs sz⟩ := by
    have := World.ownsRow_lit (base := wq.heap.size) (e := 5) (size := 1) wq.drew (bv (zs sz)).toArray sz (Nat.le_refl _) (by unfold maxLen; omega) (by simp [bv_length, zs])
    simp only [BxAt, Bx.v, hzl]
    exact this
  have hro := (hR.grown g1').row
  rw [hS] at hro
  obtain ⟨g, cap2, w2, hrun, o2, g2⟩ := run_row hro (Nat.le_trans hlo g1'.size) (.slice (some ⟨wq.heap.size, 0, none⟩) sz sz) rfl hj
  obtain ⟨c1, c2, c3, c4⟩ := push_pre hb hR g1' g2
  have gz := World.grownBy_alloc (wq.drew.alloc (.cells (bv (zs sz)).toArray 5)) (.cells #[.slice (some ⟨wq.heap.size, 0, none⟩) sz sz] 39) none
  rw [hsz] at hrun
  exact ⟨g, cap2, w2, hrun, c1, c2, c3, c4, hide (push_row hb hR (grown_trans g1' gz) (BxAt.grown o1 gz) hlo (by rw [hS, Bx.v]; simp only [hzl]; exact o2) g2)⟩

set_option maxHeartbeats 1000000 in
theorem rnew_bad (s z : Int) (w : World) (h : mayB s z = false) : Calls Tryz.prog 37 #[.int .i64 s, .int .i64 z] w fun e w' => ∃ rb, e = .returned (.tuple #[.pointer (some ⟨rb, 0, none⟩), .int .i64 2]) ∧ Empty w' rb ∧ w.heap.size ≤ rb ∧ w.grownBy w' none := by
  have HM := hide (mayR_any s z)
  rw [h] at HM
  clear h
  go_enter Tryz.func37, Tryz.ntmps37
  go_wp2_with fail
  refine (HM.out _).mono ?_
  rintro e w1 ⟨rfl, rfl⟩
  go_wp2
  go_ret2
  exact ⟨_, rfl, heap_alloc_new w _, Nat.le_refl _, World.grownBy_alloc w _ none⟩
set_option maxRecDepth 20000 in
set_option maxHeartbeats 4000000 in
theorem rnew_any (n size : Nat) (w : World) (h : mayB (n : Int) (size : Int) = true) : Calls Tryz.prog 37 #[.int .i64 (n : Int), .int .i64 (size : Int)] w fun e w' => ∃ q : Rk, e = .returned (.tuple #[.pointer (some ⟨q.r, 0, none⟩), .int .i64 0]) ∧ RefAt w' w.heap.size n size q ∧ q.S.map Bx.xs = List.replicate n (zs size) ∧ q.V = [] ∧ w.grownBy w' none := by
  have HM := hide (mayR_any n size)
  rw [h] at HM
  have hs := shape_of h
  have s1 := hs.s1
  have n1 := hs.n1
  have hmk := make_bytes size (by omega)
  have HSH := hide hs
  have H0 := hide (And.intro (heap_alloc_new w (.cells #[.slice none 0 0, .slice none 0 0] 145)) (World.grownBy_alloc w (.cells #[.slice none 0 0, .slice none 0 0] 145) none))
  clear h hs
  go_enter Tryz.func37, Tryz.ntmps37
  go_wp2_with fail
  refine (HM.out _).mono ?_
  rintro e w1 ⟨rfl, rfl⟩
  obtain ⟨rb, hrb⟩ : ∃ rb, rb = w.heap.size := ⟨_, rfl⟩
  have HB := hide hrb
  rw [← hrb] at H0 ⊢
  clear hrb
  go_wp2
  go_loopg [7] n (fun q i wr => ∃ j : Nat, q + j = n ∧ i = .int .i64 j ∧ Hid (∃ v S, S.length = j ∧ wr.heap[rb]? = some (.cells #[v, .slice none 0 0] 145 (0, 0)) ∧ RowAt wr rb v S ∧ S.map Bx.xs = List.replicate j (zs size) ∧ w.grownBy wr none))
  case atStart => exact ⟨0, by omega, rfl, hide ⟨.slice none 0 0, [], rfl, by rw [HB.out] at H0 ⊢; exact H0.out.1, RowAt.nil _ _, by simp, H0.out.2⟩⟩
  case round =>
    obtain ⟨j, hkj, rfl, HR⟩ := hrel
    obtain ⟨v, S, u0, u1, u2, u3, u5⟩ := HR.out
    by_cases hk : 0 < gk
    · obtain ⟨vo, vcap, hv, -, -, -⟩ := own_form u2.row
      rw [u0] at hv
      subst hv
      have hcv : wr.cell? ⟨rb, 0, none⟩ = some (.slice vo j vcap) := cell_row (l := [.slice vo j vcap, .slice none 0 0]) u1 0
      obtain ⟨g, cap2, w2, hrun, c1, c2, c3, c4, P2⟩ := make_push (sz := size) u1 u2 u0 (by omega) (Nat.le_of_lt (row_lt u1)) (by omega)
      have c1' : (wr.alloc (.cells (bv (zs size)).toArray 5)).cell? ⟨rb, 0, none⟩ = some (.slice vo j vcap) := c1
      have c2' : ((wr.alloc (.cells (bv (zs size)).toArray 5)).alloc (.cells #[.slice (some ⟨wr.heap.size, 0, none⟩) size size] 39)).cell? ⟨rb, 0, none⟩ = some (.slice vo j vcap) := c2
      have HX := hide (And.intro u0 (And.intro u1 (And.intro u2 (And.intro u3 u5))))
      have h2 : (j : Int) < (n : Int) := by omega
      clear u0 u1 u2 u3 u5 HR
      go_wp2
      go_region_law (refine step_append_run (by rfl) _ _ _ (by rfl) _ _ (by rfl) (by rfl) hrun ?_)
      all_goals
        go_wp2
        go_roundg (gk - 1)
        case measure => omega
        case rel =>
          obtain ⟨p1, p2, p3⟩ := P2.out
          obtain ⟨f0, f1, f2, f3, f5⟩ := HX.out
          refine ⟨j + 1, by omega, by go_num, hide ⟨_, S ++ [⟨wr.heap.size, size, zs size⟩], by simp [f0], p1, p2, ?_, ?_⟩⟩
          · rw [List.map_append, f3, List.replicate_succ']; rfl
          · refine ((Kept.new f5 _).trans p3 (fun _ _ e => e)).grown ?_
            rintro i hi (e | e)
            · have := HB.out; omega
            · have := (own_block f2.row i e).1; have := HB.out; omega
    · have hj : j = n := by omega
      subst hj
      have HX := hide (And.intro u0 (And.intro u1 (And.intro u2 (And.intro u3 u5))))
      clear u0 u1 u2 u3 u5 HR hkj hk
      go_wp2
      go_ret2
      obtain ⟨f0, f1, f2, f3, f5⟩ := HX.out
      refine ⟨⟨rb, v, .slice none 0 0, S, []⟩, rfl, ⟨f1, by rw [HB.out]; exact Nat.le_refl _, by rw [← HB.out]; exact f2, World.ownsRow_nil _ _ _ _, by simp, by simp, HSH.out, f0, ?_, by simp⟩, f3, rfl, f5⟩
      intro b hb
      have : b.xs ∈ List.replicate j (zs size) := by rw [← f3]; exact List.mem_map_of_mem hb
      rw [List.eq_of_mem_replicate this]
      simp [zs]
end Go.Proofs.YtofdijaipjkfbaaGreatDoor
/- The document's Copy. -/
namespace Go.Proofs.YtofdijaipjkfbaaGreatDoor
open Go.RowKit Ap
attribute [local go_sem ↓] Go.wp_at_zero Go.wp_at_succ

section
variable {wq : World} {lo n size : Nat} {q : Rk}
theorem twin_wait2 {ao vo : Option Addr} {cap j vcap s : Nat} {y : List Nat} (h : RefAt wq lo n size q) (hlo : lo ≤ wq.heap.size) (hvw : q.vw = .slice vo j vcap) (hj : q.V.length = j) (hj2 : j ≤ 1000000) (hat : At wq ao y) (hl : y.length = size) (hnil : ao = none → size = 0 ∧ cap = 0) (hs : s < n) :
    Calls Tryz.prog 100 #[.slice ao size cap] wq.drew fun e w1 => ∃ gt ct g cap2 w2, e = .returned (.slice (some ⟨gt, 0, none⟩) size ct) ∧ (∀ ty, (Builtin.append_ #[143, 143] ty #[.slice vo j vcap, .slice (some ⟨w1.heap.size, 0, none⟩) 1 1]).run Tryz.prog (w1.alloc (.cells #[.int .i64 (s : Int), .slice (some ⟨gt, 0, none⟩) size ct] 156)) = .ok (.slice (some ⟨g, 0, none⟩) (j + 1) cap2) w2) ∧
      w1.cell? ⟨q.r, 1, none⟩ = some (.slice vo j vcap) ∧ (w1.alloc (.cells #[.int .i64 (s : Int), .slice (some ⟨gt, 0, none⟩) size ct] 156)).cell? ⟨q.r, 1, none⟩ = some (.slice vo j vcap) ∧ w2.cell? ⟨q.r, 1, none⟩ = some (.slice vo j vcap) ∧ w2.frozen? ⟨q.r, 1, none⟩ = false ∧
      Hid (Kept wq w1 (rfoot q)) ∧ Hid (Kept wq (w1.alloc (.cells #[.int .i64 (s : Int), .slice (some ⟨gt, 0, none⟩) size ct] 156)) (rfoot q)) ∧ Hid (Kept wq w2 (rfoot q)) ∧
      Hid (RefAt (w2.setCell ⟨q.r, 1, none⟩ (.slice (some ⟨g, 0, none⟩) (j + 1) cap2)) lo n size ⟨q.r, q.v, .slice (some ⟨g, 0, none⟩) (j + 1) cap2, q.S, q.V ++ [(s, ⟨gt, ct, y⟩)]⟩ ∧ Kept wq (w2.setCell ⟨q.r, 1, none⟩ (.slice (some ⟨g, 0, none⟩) (j + 1) cap2)) (rfoot q) ∧ ∀ i, rfoot ⟨q.r, q.v, .slice (some ⟨g, 0, none⟩) (j + 1) cap2, q.S, q.V ++ [(s, ⟨gt, ct, y⟩)]⟩ i → rfoot q i ∨ wq.heap.size ≤ i) := by
  have s0 := h.shape.s0
  have s1 := h.shape.s1
  refine (twin_any ao size cap y wq.drew hat hl (by omega) hnil (by omega)).mono ?_
  rintro e w1 ⟨gt, ct, rfl, o1, g1⟩
  have g1' := grown_trans (grown_drew wq none) g1
  have h1 := h.grown g1'
  have hro := h1.wrow
  rw [hvw, hj] at hro
  obtain ⟨g, cap2, w2, hrun, o2, g2, hg⟩ := run_wait hro (Nat.le_trans hlo g1'.size) (s : Int) (.slice (some ⟨gt, 0, none⟩) size ct) rfl hj2
  have gz := World.grownBy_alloc w1 (.cells #[.int .i64 (s : Int), .slice (some ⟨gt, 0, none⟩) size ct] 156) none
  have hz := h1.grown gz
  have hwn : (Value.slice vo j vcap).ownBlock ≠ some q.r := by
    rw [← hvw]
    intro e
    obtain ⟨_, c1, q1⟩ := own_block h.wrow q.r e
    rw [h.head] at q1
    simp at q1
  have hh2 := (g2.block q.r (row_lt hz.head) (fun e => hwn e.symm)).trans hz.head
  have c3 : w2.cell? ⟨q.r, 1, none⟩ = some q.vw := cell_row (l := [q.v, q.vw]) hh2 1
  have P := h.wrote (v' := .slice (some ⟨g, 0, none⟩) (j + 1) cap2) (b := ⟨gt, ct, y⟩) (s := s) hlo (grown_trans g1' gz) (BxAt.grown o1 gz) hl hs (by rw [hj, Bx.v]; simp only [hl]; exact o2) (by rw [hvw]; exact g2) (fun x e => by
    cases e
    rw [hvw]
    exact hg.imp id (fun e => Nat.le_trans g1'.size e))
  refine ⟨gt, ct, g, cap2, w2, rfl, hrun, ?_, ?_, ?_, free_row hh2 1, hide (Kept.new g1' _), hide (Kept.new (grown_trans g1' gz) _), hide ?_, hide P⟩
  · rw [h1.c1, hvw]
  · rw [hz.c1, hvw]
  · rw [c3, hvw]
  · exact (Kept.new (grown_trans g1' gz) _).trans (Kept.of g2 (fun i e _ => .inr (.inr (.inl (by rw [hvw]; exact e))))) (fun _ _ e => e)
end
section
variable {w : World} {lo n size : Nat} {q : Rk} {r : Nat}
end
end Go.Proofs.YtofdijaipjkfbaaGreatDoor
/- The document's device. -/
namespace Go.Proofs.YtofdijaipjkfbaaGreatDoor
open Go.RowKit Ap
attribute [local go_sem ↓] Go.wp_at_zero Go.wp_at_succ

def rvcells (r : Nat) (s : Dv) : List Value := [.pointer (some ⟨r, 0, none⟩), .bool s.off, .int .i64 s.arm, .int .i64 (s.cnt : Int)]
structure RvAt (w : World) (c r : Nat) (s : Dv) : Prop where
  head : w.heap[c]? = some (.cells (rvcells r s).toArray 101 (0, 0))
  ok : s.Ok
structure RDev (w : World) (lo n size c : Nat) (s : Dv) (q : Rk) : Prop where
  ref : RefAt w lo n size q
  dev : RvAt w c q.r s
  low : lo ≤ c
structure RM (w w' : World) (c : Nat) (q q' : Rk) : Prop where
  r : q'.r = q.r
  rf : ∀ i, rfoot q' i → rfoot q i ∨ w.heap.size ≤ i
  kept : Kept w w' (fun i => rfoot q i ∨ i = c)
/-- What the document's disk holds. -/
def rst (q : Rk) : List (List Nat) × List Pr := (q.S.map Bx.xs, absV q.V)
def rsyncA (size : Nat) (st : List (List Nat) × List Pr) : List (List Nat) × List Pr := (stlR (fun _ => size) st.2 st.1 st.2.length, [])
def rcrashA (size : Nat) (F : List (Int × Int)) (st : List (List Nat) × List Pr) : List (List Nat) × List Pr := (stlR (fun i => lasts (fateK F i) (fateA F i) size) st.2 st.1 st.2.length, [])
theorem absV_length (V : List (Nat × Bx)) : (absV V).length = V.length := by simp [absV]
section
variable {w w' w'' : World} {lo n size c r : Nat} {s s' : Dv} {q q' q'' : Rk}
theorem RvAt.same (h : RvAt w c r s) (hb : w'.heap[c]? = w.heap[c]?) : RvAt w' c r s := ⟨hb.trans h.head, h.ok⟩
theorem RvAt.lt (h : RvAt w c r s) : c < w.heap.size := row_lt h.head
theorem RvAt.grown (h : RvAt w c r s) (hg : w.grownBy w' none) : RvAt w' c r s := h.same (hg.block c h.lt (by simp))
theorem RvAt.kept {S : Nat → Prop} (h : RvAt w c r s) (hk : Kept w w' S) (hS : ¬ S c) : RvAt w' c r s := h.same (hk.block c h.lt hS)
theorem RvAt.c0 (h : RvAt w c r s) : w.cell? ⟨c, 0, none⟩ = some (.pointer (some ⟨r, 0, none⟩)) := cell_row h.head 0
theorem RvAt.c1 (h : RvAt w c r s) : w.cell? ⟨c, 1, none⟩ = some (.bool s.off) := cell_row h.head 1
theorem RvAt.c2 (h : RvAt w c r s) : w.cell? ⟨c, 2, none⟩ = some (.int .i64 s.arm) := cell_row h.head 2
theorem RvAt.c3 (h : RvAt w c r s) : w.cell? ⟨c, 3, none⟩ = some (.int .i64 (s.cnt : Int)) := cell_row h.head 3
theorem RvAt.free (h : RvAt w c r s) (j : Nat) : w.frozen? ⟨c, j, none⟩ = false := free_row h.head j
theorem RDev.off (h : RDev w lo n size c s q) : ¬ rfoot q c := h.ref.other_off h.dev.head (by decide) (by decide) (by decide) (by decide)
theorem RDev.then (h : RDev w lo n size c s q) (hg : w.grownBy w' none) : RDev w' lo n size c s q := ⟨h.ref.grown hg, h.dev.grown hg, h.low⟩
theorem RM.refl (w : World) (c : Nat) (q : Rk) : RM w w c q q := ⟨rfl, fun _ e => .inl e, Kept.refl _ _⟩
theorem RM.trans (h : RM w w' c q q') (g : RM w' w'' c q' q'') : RM w w'' c q q'' := by
  refine ⟨g.r.trans h.r, ?_, h.kept.trans g.kept ?_⟩
  · intro i hi
    rcases g.rf i hi with e | e
    · exact h.rf i e
    · exact Or.inr (Nat.le_trans h.kept.size e)
  · rintro i hi (e | e)
    · rcases h.rf i e with e | e
      · exact Or.inl e
      · omega
    · exact Or.inr e
theorem RM.new (h : RM w w' c q q') (g : w'.grownBy w'' none) : RM w w'' c q q' := ⟨h.r, h.rf, h.kept.trans (Kept.new g _) (fun _ _ e => e)⟩
theorem RM.pre (g : w.grownBy w' none) (h : RM w' w'' c q q') : RM w w'' c q q' := ⟨h.r, fun i hi => (h.rf i hi).imp id (fun e => Nat.le_trans g.size e), (Kept.new g _).trans h.kept (fun _ _ e => e)⟩
theorem RM.row (hg : w.grownBy w' (some c)) : RM w w' c q q := ⟨rfl, fun _ e => .inl e, Kept.of hg (fun _ e _ => Or.inr (Option.some.inj e).symm)⟩
theorem RM.of (hr : q'.r = q.r) (hk : Kept w w' (rfoot q)) (hf : ∀ i, rfoot q' i → rfoot q i ∨ w.heap.size ≤ i) : RM w w' c q q' := ⟨hr, hf, hk.mono (fun _ _ e => Or.inl e)⟩
theorem RDev.rset (h : RDev w lo n size c s q) (hg : w.grownBy w' (some c)) (hd : RvAt w' c q.r s') : RDev w' lo n size c s' q :=
  ⟨h.ref.kept (Kept.of hg (S := fun i => i = c) (fun _ e _ => (Option.some.inj e).symm)) (fun i hi e => by have e : i = c := e; exact h.off (e ▸ hi)), hd, h.low⟩
theorem RDev.rsk (h : RDev w lo n size c s q) (hr : q'.r = q.r) (hq : RefAt w' lo n size q') (hk : Kept w w' (rfoot q)) : RDev w' lo n size c s q' :=
  ⟨hq, by rw [hr]; exact h.dev.kept hk h.off, h.low⟩
theorem at_rdev {ao : Option Addr} {xs : List Nat} (hat : At w ao xs) (h : RvAt w c r s) (hg : w.grownBy w' (some c)) : At w' ao xs := by
  intro j u hu
  obtain ⟨a, e, hc⟩ := hat j u hu
  refine ⟨a, e, hg.cell hc ?_⟩
  rintro e2
  have e2 : (a.add j).block = c := Option.some.inj e2
  have hsp : (a.add j).spot = none := by
    unfold World.cell? at hc
    split at hc
    · split at hc
      · cases hc
      · rename_i hs; simpa using hs
    · cases hc
  have he : a.add j = ⟨c, (a.add j).off, none⟩ := by
    cases hh : a.add j
    rw [hh] at e2 hsp
    simp at e2 hsp
    subst e2 hsp
    rfl
  rw [he, cell_row h.head] at hc
  generalize (a.add j).off = i at hc
  match i, hc with
  | 0, hc => simp [rvcells] at hc
  | 1, hc => simp [rvcells] at hc
  | 2, hc => simp [rvcells] at hc
  | 3, hc => simp [rvcells] at hc
  | i + 4, hc => simp [rvcells] at hc

set_option maxRecDepth 20000 in
set_option maxHeartbeats 1000000 in
theorem rmade_any (h : RvAt w c r s) (hc : s.cnt < 100000) : Calls Tryz.prog 180 #[.pointer (some ⟨c, 0, none⟩)] w fun e w' => e = .returned (.bool s.goes) ∧ RvAt w' c r s.next ∧ w.grownBy w' (some c) := by
  have c1 := h.c1
  have c2 := h.c2
  have c3 := h.c3
  have f1 := h.free 1
  have f2 := h.free 2
  have f3 := h.free 3
  have hlo := h.ok.lo
  have hhi := h.ok.hi
  have HH := hide h
  obtain ⟨x, a, n⟩ := s
  simp only at c1 c2 c3 hc hlo hhi
  cases x with
  | true =>
    have e2 : Dv.goes ⟨true, a, n⟩ = false := rfl
    rw [e2]
    clear h e2
    go_enter Tryz.func180, Tryz.ntmps180
    go_wp2
    go_ret
    exact ⟨rfl, HH.out, grown_refl _ _⟩
  | false =>
    by_cases h0 : a = 0
    · subst h0
      have e2 : Dv.goes ⟨false, 0, n⟩ = false := rfl
      rw [e2]
      clear h e2
      go_enter Tryz.func180, Tryz.ntmps180
      go_wp2
      go_ret
      refine ⟨rfl, ⟨?_, HH.out.ok.next hc⟩, grown_then (grown_setCell _ c 1 _) (grown_setCell _ c 2 _) (fun j e => Or.inr e)⟩
      have h1 := row_setCell HH.out.head 1 (.bool true)
      exact row_setCell h1 2 (.int .i64 (-1))
    · have e2 : Dv.goes ⟨false, a, n⟩ = true := by simp [Dv.goes, h0]
      by_cases h1 : 0 < a
      · have e1 : Dv.next ⟨false, a, n⟩ = ⟨false, a - 1, n + 1⟩ := by simp [Dv.next, h0, h1]
        rw [e1, e2]
        clear h e1 e2
        go_enter Tryz.func180, Tryz.ntmps180
        go_wp2
        go_ret
        refine ⟨rfl, ⟨?_, ⟨by show -1 ≤ a - 1; omega, by show a - 1 ≤ _; omega, by show n + 1 ≤ _; omega⟩⟩, grown_then (grown_setCell _ c 2 _) (grown_setCell _ c 3 _) (fun j e => Or.inr e)⟩
        have h1 := row_setCell HH.out.head 2 (.int .i64 (a - 1))
        exact row_setCell h1 3 (.int .i64 ((n + 1 : Nat) : Int))
      · have e1 : Dv.next ⟨false, a, n⟩ = ⟨false, a, n + 1⟩ := by simp [Dv.next, h0, h1]
        rw [e1, e2]
        clear h e1 e2
        go_enter Tryz.func180, Tryz.ntmps180
        go_wp2
        go_ret
        refine ⟨rfl, ⟨?_, ⟨hlo, hhi, by show n + 1 ≤ _; omega⟩⟩, grown_setCell _ c 3 _⟩
        exact row_setCell HH.out.head 3 (.int .i64 ((n + 1 : Nat) : Int))
set_option maxRecDepth 20000 in
set_option maxHeartbeats 1000000 in
theorem rarm_any (h : RvAt w c r s) (n : Int) (hn : n ≤ 9223372036854775807) : Calls Tryz.prog 47 #[.pointer (some ⟨c, 0, none⟩), .int .i64 n] w fun e w' => e = .returned (.int .i64 s.upc) ∧ RvAt w' c r (s.armed n) ∧ w.grownBy w' (some c) := by
  have c1 := h.c1
  have c2 := h.c2
  have f2 := h.free 2
  have HH := hide h
  obtain ⟨x, a, m⟩ := s
  simp only at c1 c2
  cases x with
  | true =>
    rw [show Dv.upc ⟨true, a, m⟩ = 60 from rfl]
    clear h
    go_enter Tryz.func47, Tryz.ntmps47
    go_wp2
    go_ret
    exact ⟨rfl, HH.out, grown_refl _ _⟩
  | false =>
    rw [show Dv.upc ⟨false, a, m⟩ = 0 from rfl]
    clear h
    by_cases hm : n < -1
    · have e : Dv.armed ⟨false, a, m⟩ n = ⟨false, -1, m⟩ := by simp [Dv.armed]; omega
      rw [e]
      clear e
      go_enter Tryz.func47, Tryz.ntmps47
      go_wp2
      go_ret
      exact ⟨rfl, ⟨row_setCell HH.out.head 2 (.int .i64 (-1)), ⟨by show (-1 : Int) ≤ -1; omega, by show (-1 : Int) ≤ _; omega, HH.out.ok.few⟩⟩, grown_setCell _ c 2 _⟩
    · have e : Dv.armed ⟨false, a, m⟩ n = ⟨false, n, m⟩ := by simp [Dv.armed]; omega
      rw [e]
      clear e
      have hm2 : -1 ≤ n := by omega
      go_enter Tryz.func47, Tryz.ntmps47
      go_wp2
      go_ret
      exact ⟨rfl, ⟨row_setCell HH.out.head 2 (.int .i64 n), ⟨hm2, hn, HH.out.ok.few⟩⟩, grown_setCell _ c 2 _⟩
set_option maxHeartbeats 400000 in
theorem rdown_any (h : RvAt w c r s) : Calls Tryz.prog 59 #[.pointer (some ⟨c, 0, none⟩)] w fun e w' => e = .returned (.bool s.off) ∧ w' = w := by
  have c1 := h.c1
  clear h
  go_enter Tryz.func59, Tryz.ntmps59
  go_wp2
  go_ret
  exact ⟨rfl, rfl⟩
set_option maxHeartbeats 400000 in
theorem rcount_any (h : RvAt w c r s) : Calls Tryz.prog 55 #[.pointer (some ⟨c, 0, none⟩)] w fun e w' => e = .returned (.int .i64 (s.cnt : Int)) ∧ w' = w := by
  have c3 := h.c3
  clear h
  go_enter Tryz.func55, Tryz.ntmps55
  go_wp2
  go_ret
  exact ⟨rfl, rfl⟩
set_option maxHeartbeats 400000 in
theorem rdsize_any (h : RDev w lo n size c s q) : Calls Tryz.prog 141 #[.pointer (some ⟨c, 0, none⟩)] w fun e w' => e = .returned (.int .i64 (size : Int)) ∧ w' = w := by
  have c0 := h.dev.c0
  have HH := hide h.ref
  clear h
  go_enter Tryz.func141, Tryz.ntmps141
  go_wp2_with fail
  refine (rsize_any rfl HH.out).mono ?_
  rintro e w' ⟨rfl, rfl⟩
  go_wp2
  go_ret
  exact ⟨rfl, rfl⟩
set_option maxHeartbeats 400000 in
theorem rdsectors_any (h : RDev w lo n size c s q) : Calls Tryz.prog 84 #[.pointer (some ⟨c, 0, none⟩)] w fun e w' => e = .returned (.int .i64 (n : Int)) ∧ w' = w := by
  have c0 := h.dev.c0
  have HH := hide h.ref
  clear h
  go_enter Tryz.func84, Tryz.ntmps84
  go_wp2_with fail
  refine (rsectors_any rfl HH.out).mono ?_
  rintro e w' ⟨rfl, rfl⟩
  go_wp2
  go_ret
  exact ⟨rfl, rfl⟩
set_option maxHeartbeats 400000 in
theorem rdwaiting_any (h : RDev w lo n size c s q) : Calls Tryz.prog 57 #[.pointer (some ⟨c, 0, none⟩)] w fun e w' => e = .returned (.int .i64 (q.V.length : Int)) ∧ w' = w := by
  have c0 := h.dev.c0
  have HH := hide h.ref
  clear h
  go_enter Tryz.func57, Tryz.ntmps57
  go_wp2_with fail
  refine (rwaiting_any rfl HH.out).mono ?_
  rintro e w' ⟨rfl, rfl⟩
  go_wp2
  go_ret
  exact ⟨rfl, rfl⟩
end
end Go.Proofs.YtofdijaipjkfbaaGreatDoor
