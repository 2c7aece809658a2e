/- Texts joined: Rq, Rr2, Pb, Pc. -/
import Derived.Test.YtinkkocleognbaaGreatDoorJpAg
import Derived.Test.YtinkkocleognbaaGreatDoorJpAe
import Derived.Laws.AppendOwnNone
namespace Go.Proofs.YtinkkocleognbaaGreatDoor
/- Run: bodies, one behind the other. -/
open Go.RowKit
attribute [local go_sem ↓] Go.wp_at_zero Go.wp_at_succ
attribute [local go_sem] Oper.semAt_some
/-- What a body is told, and what it makes of a book. -/
def bdE (S : Sb) (xs : List Int) : Int := if (getR xs).2 = 0 then appE S (getR xs).1 else (getR xs).2
def bdS (S : Sb) (xs : List Int) : Sb := if (getR xs).2 = 0 then app S (getR xs).1 else S
theorem bdE_out {S : Sb} {r : Rc} (ho : r.Ok) (h : r.May) : bdE S r.out = appE S r := by unfold bdE; rw [getR_out ho h]; rfl
theorem bdS_out {S : Sb} {r : Rc} (ho : r.Ok) (h : r.May) : bdS S r.out = app S r := by unfold bdS; rw [getR_out ho h]; rfl
theorem bdS_no {S : Sb} {xs : List Int} (h : bdE S xs ≠ 0) : bdS S xs = S := by
  unfold bdE at h
  unfold bdS
  split
  · rename_i h1
    rw [if_pos h1] at h
    exact app_no h
  · rfl
theorem bdS_ok {S : Sb} (h : S.Ok) (xs : List Int) : (bdS S xs).Ok := by
  unfold bdS
  split
  · exact h.app _
  · exact h
theorem bdS_abc (S : Sb) (xs : List Int) : (bdS S xs).a = S.a ∧ (bdS S xs).b = S.b ∧ (bdS S xs).c = S.c := by
  unfold bdS
  split
  · exact app_abc S _
  · exact ⟨rfl, rfl, rfl⟩
def bfo (S : Sb) (l : List (List Int)) (k : Nat) : Sb := (l.take k).foldl bdS S
theorem bfo_succ {S : Sb} {l : List (List Int)} {k : Nat} {r : List Int} (h : l[k]? = some r) : bfo S l (k + 1) = bdS (bfo S l k) r := by
  unfold bfo
  rw [List.take_add_one, h]
  simp
theorem bfo_ok {S : Sb} (h : S.Ok) (l : List (List Int)) (k : Nat) : (bfo S l k).Ok := by
  unfold bfo
  generalize l.take k = m
  induction m generalizing S with
  | nil => exact h
  | cons r m ih => exact ih (bdS_ok h r)
theorem bfo_abc (S : Sb) (l : List (List Int)) (k : Nat) : (bfo S l k).a = S.a ∧ (bfo S l k).b = S.b ∧ (bfo S l k).c = S.c := by
  unfold bfo
  generalize l.take k = m
  induction m generalizing S with
  | nil => exact ⟨rfl, rfl, rfl⟩
  | cons r m ih =>
    obtain ⟨h1, h2, h3⟩ := ih (bdS S r)
    obtain ⟨k1, k2, k3⟩ := bdS_abc S r
    exact ⟨h1.trans k1, h2.trans k2, h3.trans k3⟩
/-- The first n bodies are taken; e: what the next one is told. -/
structure BRan (S : Sb) (l : List (List Int)) (n : Nat) (e : Int) : Prop where
  le : n ≤ l.length
  ok : ∀ k r, l[k]? = some r → k < n → bdE (bfo S l k) r = 0
  no : ∀ r, l[n]? = some r → bdE (bfo S l n) r = e ∧ e ≠ 0
  all : n = l.length → e = 0
def bn : Sb → List (List Int) → Nat
  | _, [] => 0
  | S, r :: l => if bdE S r = 0 then bn (bdS S r) l + 1 else 0
def bE : Sb → List (List Int) → Int
  | _, [] => 0
  | S, r :: l => if bdE S r = 0 then bE (bdS S r) l else bdE S r
theorem bran_is (S : Sb) (l : List (List Int)) : BRan S l (bn S l) (bE S l) := by
  induction l generalizing S with
  | nil => exact ⟨Nat.le_refl _, fun k r h _ => by simp at h, fun r h => by simp at h, fun _ => rfl⟩
  | cons r l ih =>
    by_cases h : bdE S r = 0
    · obtain ⟨h1, h2, h3, h4⟩ := ih (bdS S r)
      have e1 : bn S (r :: l) = bn (bdS S r) l + 1 := by rw [bn, if_pos h]
      have e2 : bE S (r :: l) = bE (bdS S r) l := by rw [bE, if_pos h]
      rw [e1, e2]
      refine ⟨by simpa using h1, fun k q hk hlt => ?_, fun q hq => ?_, fun e => h4 (by simpa using e)⟩
      · cases k with
        | zero => simp at hk; rw [← hk]; exact h
        | succ k => exact h2 k q (by simpa using hk) (by omega)
      · exact h3 q (by simpa using hq)
    · have e1 : bn S (r :: l) = 0 := by rw [bn, if_neg h]
      have e2 : bE S (r :: l) = bdE S r := by rw [bE, if_neg h]
      rw [e1, e2]
      refine ⟨Nat.zero_le _, fun k q _ hlt => by omega, fun q hq => ?_, fun e => by simp at e⟩
      simp at hq
      rw [← hq]
      exact ⟨rfl, h⟩
section
variable {S : Sb} {l : List (List Int)} {n j : Nat} {e : Int} {r : List Int}
theorem BRan.step (h : BRan S l n e) (hj : j ≤ n) (hr : l[j]? = some r) (h0 : bdE (bfo S l j) r = 0) : j + 1 ≤ n := by
  apply Classical.byContradiction
  intro hn
  obtain rfl : j = n := by omega
  have h1 := h.no r hr
  rw [h0] at h1
  exact h1.2 h1.1.symm
theorem BRan.stop (h : BRan S l n e) (hj : j ≤ n) (hr : l[j]? = some r) (h0 : bdE (bfo S l j) r ≠ 0) : n = j ∧ e = bdE (bfo S l j) r := by
  obtain rfl : j = n := by
    apply Classical.byContradiction
    intro hn
    exact h0 (h.ok j r hr (by omega))
  exact ⟨rfl, (h.no r hr).1.symm⟩
theorem BRan.end_ (h : BRan S l n e) (hj : j ≤ n) (hl : j = l.length) : n = j ∧ e = 0 := by
  have := h.le
  obtain rfl : j = n := by omega
  exact ⟨rfl, h.all hl⟩
end
/-- Bodies that are records' bytes come to what the records come to. -/
theorem b_out (S : Sb) (l : List Rc) (h : ∀ r ∈ l, r.May ∧ r.Ok) : bn S (l.map Rc.out) = rn S l ∧ bE S (l.map Rc.out) = rE S l ∧ ∀ k, bfo S (l.map Rc.out) k = fo S l k := by
  refine ⟨?_, ?_, ?_⟩
  · induction l generalizing S with
    | nil => rfl
    | cons r l ih =>
      have hr := h r (by simp)
      rw [List.map_cons, bn, rn, bdE_out hr.2 hr.1, bdS_out hr.2 hr.1, ih _ (fun q hq => h q (by simp [hq]))]
  · induction l generalizing S with
    | nil => rfl
    | cons r l ih =>
      have hr := h r (by simp)
      rw [List.map_cons, bE, rE, bdE_out hr.2 hr.1, bdS_out hr.2 hr.1, ih _ (fun q hq => h q (by simp [hq]))]
  · intro k
    unfold bfo fo
    rw [← List.map_take]
    have h' : ∀ r ∈ l.take k, r.May ∧ r.Ok := fun r hr => h r (List.mem_of_mem_take hr)
    generalize l.take k = m at h'
    induction m generalizing S with
    | nil => rfl
    | cons r m ih =>
      have hr := h' r (by simp)
      rw [List.map_cons, List.foldl_cons, List.foldl_cons, bdS_out hr.2 hr.1]
      exact ih _ (fun q hq => h' q (by simp [hq]))
theorem getR_ok {xs : List Int} (h : Oc.Byt xs) (_h0 : (getR xs).2 = 0) : (getR xs).1.Ok := by
  rcases getR_cases xs with h1 | h1
  · rw [h1.2.1]; exact rcOf_ok h
  · rw [h1.1]; constructor <;> decide
set_option maxRecDepth 20000 in
set_option maxHeartbeats 8000000 in
theorem abody_any {w : World} {p : Bp} {S : Sb} {K : Nat} (h : BkAt w p S K) (ho : S.Ok) (hK : K ≤ 10000000) (hT : Rk.Tab w) {ao : Option Addr} {n cap : Nat} {xs : List Int} (hB : Oc.Byt xs) (hn : xs.length = n) (hat : Oc.At w ao xs) (hc : n ≤ cap) (hm : n ≤ 140737488355328) : Calls Tryz.prog 37 #[.pointer (some ⟨p.b, 0, none⟩), .slice ao n cap] w fun e w' => e = .returned (.int .i64 (bdE S xs)) ∧ ∃ q, BkAt w' q (bdS S xs) (K + 1) ∧ Bst w w' p q := by
  have HG := hide (Rk.get_any xs hB ao n cap w hn hat hc hm hT)
  by_cases h0 : (getR xs).2 = 0
  · have hro := getR_ok hB h0
    have e1 : bdE S xs = appE S (getR xs).1 := by unfold bdE; rw [if_pos h0]
    have e2 : bdS S xs = app S (getR xs).1 := by unfold bdS; rw [if_pos h0]
    rw [e1, e2]
    rw [h0] at HG
    generalize (getR xs).1 = r at *
    have HA : Hid (∀ W, w.grownBy W none → Calls Tryz.prog 39 #[.pointer (some ⟨p.b, 0, none⟩), .agg #[.int .i64 r.k, .int .u32 r.i, .int .i64 r.s, .int .i64 r.u, .int .i64 r.c]] W fun e w' => e = .returned (.int .i64 (appE S r)) ∧ ∃ q, BkAt w' q (app S r) (K + 1) ∧ Bst w w' p q) := by
      intro W g
      refine (apply_any (h.then g) ho hK r hro (hT.new g)).mono ?_
      rintro e w' ⟨rfl, q, h1, h2⟩
      exact ⟨rfl, q, h1, (Bst.grown g p).trans h2⟩
    clear h ho hT hB hat e1 e2 h0 hro
    generalize appE S r = er at *
    generalize app S r = Sr at *
    unfold Rk.rcV at HG
    go_enter Tryz.func37, Tryz.ntmps37
    go_wp2_with fail
    refine HG.out.mono ?_
    rintro e w1 ⟨rfl, g1⟩
    have HA1 := hide (HA.out _ (gn_alloc g1 (.cells #[.int .i64 r.k, .int .u32 r.i, .int .i64 r.s, .int .i64 r.u, .int .i64 r.c] 47)))
    clear g1 HG HA
    go_wp2_with fail
    refine HA1.out.mono ?_
    rintro e w2 ⟨rfl, hq⟩
    have HQ := hide hq
    clear hq HA1
    go_wp2
    go_ret
    exact ⟨rfl, HQ.out⟩
  · have e1 : bdE S xs = (getR xs).2 := by unfold bdE; rw [if_neg h0]
    have e2 : bdS S xs = S := by unfold bdS; rw [if_neg h0]
    rw [e1, e2]
    have HB := hide h
    clear h ho hT hB hat e1 e2
    generalize (getR xs).1 = r at *
    generalize (getR xs).2 = er at *
    have f1 : (er != 0) = true := by simpa using h0
    unfold Rk.rcV at HG
    go_enter Tryz.func37, Tryz.ntmps37
    go_wp2_with fail
    refine HG.out.mono ?_
    rintro e w1 ⟨rfl, g1⟩
    have HQ := hide (gn_alloc g1 (.cells #[.int .i64 r.k, .int .u32 r.i, .int .i64 r.s, .int .i64 r.u, .int .i64 r.c] 47))
    clear g1 HG
    go_wp2
    go_ret
    exact ⟨rfl, p, (HB.out.then HQ.out).mono (by omega), Bst.grown HQ.out p⟩
end Go.Proofs.YtinkkocleognbaaGreatDoor
namespace Go.Proofs.YtinkkocleognbaaGreatDoor
/- Run, over frames in memory. -/
open Go.RowKit
attribute [local go_sem ↓] Go.wp_at_zero Go.wp_at_succ
attribute [local go_sem] Oper.semAt_some
/-- A frame: its numbers, its body as a slice, the body's bytes. -/
structure Fm where
  e : Int
  s : Int
  ao : Option Addr
  n : Nat
  cap : Nat
  xs : List Int
structure Fm.Ok (f : Fm) : Prop where
  len : f.xs.length = f.n
  le : f.n ≤ f.cap
  few : f.n ≤ 140737488355328
  byt : Oc.Byt f.xs
theorem cell_blk {w w' : World} {a : Addr} (h : w'.heap[a.block]? = w.heap[a.block]?) : w'.cell? a = w.cell? a := by
  unfold World.cell?
  simp only [h]
theorem add_blk (a : Addr) (j : Nat) : (a.add j).block = a.block := by unfold Addr.add; split <;> rfl
theorem At_keep {w w' : World} {ao : Option Addr} {xs : List Int} {X : Nat → Prop} (h : Oc.At w ao xs) (k : Kept w w' X) (hX : ∀ a, ao = some a → xs ≠ [] → ¬ X a.block) : Oc.At w' ao xs := by
  intro j u hj
  obtain ⟨a, e, hc⟩ := h j u hj
  refine ⟨a, e, ?_⟩
  have hne : xs ≠ [] := fun e => by rw [e] at hj; simp at hj
  have hlt : a.block < w.heap.size := by
    unfold World.cell? at hc
    rw [add_blk] at hc
    cases hq : w.heap[a.block]? with
    | none => simp [hq] at hc
    | some o => exact row_lt hq
  have hq := cell_blk (w := w) (w' := w') (a := a.add j) (by rw [add_blk]; exact k.block _ hlt (hX a e hne))
  exact hq.trans hc
/-- Frames that lie somewhere, in blocks of FB. -/
def FmsAt (w : World) (FB : Nat → Prop) (bo : Option Addr) (fs : List Fm) : Prop := ∀ j f, fs[j]? = some f → ∃ blk off, bo = some (⟨blk, off, none⟩ : Addr) ∧ FB blk ∧ w.cell? ⟨blk, off + j * 3, none⟩ = some (.int .u64 f.e) ∧ w.cell? ⟨blk, off + j * 3 + 1, none⟩ = some (.int .u64 f.s) ∧ w.cell? ⟨blk, off + j * 3 + 2, none⟩ = some (.slice f.ao f.n f.cap) ∧ Oc.At w f.ao f.xs ∧ (∀ a, f.ao = some a → f.xs ≠ [] → FB a.block)
theorem FmsAt.keep {w w' : World} {FB X : Nat → Prop} {bo : Option Addr} {fs : List Fm} (h : FmsAt w FB bo fs) (k : Kept w w' X) (hX : ∀ i, FB i → ¬ X i) : FmsAt w' FB bo fs := by
  intro j f hj
  obtain ⟨blk, off, e, h0, h1, h2, h3, h4, h5⟩ := h j f hj
  exact ⟨blk, off, e, h0, k.cell (hX _ h0) h1, k.cell (hX _ h0) h2, k.cell (hX _ h0) h3, At_keep h4 k (fun a ea hne => hX _ (h5 a ea hne)), h5⟩
theorem FmsAt.then {w w' : World} {FB : Nat → Prop} {bo : Option Addr} {fs : List Fm} (h : FmsAt w FB bo fs) (g : w.grownBy w' none) : FmsAt w' FB bo fs := h.keep (Kept.new g (fun _ => False)) (fun _ _ e => e)
def bds (fs : List Fm) : List (List Int) := fs.map Fm.xs
theorem bds_get {fs : List Fm} {j : Nat} {f : Fm} (h : fs[j]? = some f) : (bds fs)[j]? = some f.xs := by unfold bds; rw [List.getElem?_map, h]; rfl
/-- In the midst of Run. -/
structure RuS (w wr : World) (p q : Bp) (S : Sb) (K : Nat) (FB : Nat → Prop) (bo : Option Addr) (fs : List Fm) (j : Nat) : Prop where
  bk : BkAt wr q (bfo S (bds fs) j) (K + j)
  st : Bst w wr p q
  fm : FmsAt wr FB bo fs
  tab : Rk.Tab wr
theorem RuS.then {w wr wr' : World} {p q : Bp} {S : Sb} {K : Nat} {FB : Nat → Prop} {bo : Option Addr} {fs : List Fm} {j : Nat} (h : RuS w wr p q S K FB bo fs j) (g : wr.grownBy wr' none) : RuS w wr' p q S K FB bo fs j := ⟨h.bk.then g, h.st.trans (Bst.grown g q), h.fm.then g, h.tab.new g⟩
set_option maxRecDepth 20000 in
set_option maxHeartbeats 16000000 in
theorem run_any {w : World} {p : Bp} {S : Sb} {K : Nat} (h : BkAt w p S K) (ho : S.Ok) (hK : K ≤ 1000000) (hT : Rk.Tab w) {FB : Nat → Prop} {bo : Option Addr} {cap : Nat} {fs : List Fm} (hl : fs.length ≤ 1000) (hF : FmsAt w FB bo fs) (hFB : ∀ i, FB i → ¬ p.own i ∧ i < w.heap.size) (h0 : ¬ p.own 0) (hO : ∀ f ∈ fs, f.Ok) : Calls Tryz.prog 9 #[.pointer (some ⟨p.b, 0, none⟩), .slice bo fs.length cap] w fun e w' => ∃ q, e = .returned (.tuple #[.int .i64 (bn S (bds fs) : Int), .int .i64 (bE S (bds fs))]) ∧ BkAt w' q (bfo S (bds fs) (bn S (bds fs))) (K + fs.length) ∧ Bst w w' p q := by
  have HNo : Hid (Calls Tryz.prog 36 #[.pointer (some ⟨p.b, 0, none⟩)] w fun e w' => e = .returned (.bool false) ∧ w.grownBy w' none) := isNone_no h ho.a0
  have HR := hide (bran_is S (bds fs))
  have HS0 : Hid (RuS w w p p S K FB bo fs 0) := ⟨h.mono (Nat.le_refl _), Bst.refl w p, hF, hT⟩
  have hbl : (bds fs).length = fs.length := by simp [bds]
  have HStep : Hid (∀ (wr : World) q j f, RuS w wr p q S K FB bo fs j → fs[j]? = some f → Calls Tryz.prog 37 #[.pointer (some ⟨p.b, 0, none⟩), .slice f.ao f.n f.cap] wr fun e w' => e = .returned (.int .i64 (bdE (bfo S (bds fs) j) f.xs)) ∧ ∃ q', RuS w w' p q' S K FB bo fs (j + 1) ∧ (bdE (bfo S (bds fs) j) f.xs ≠ 0 → BkAt w' q' (bfo S (bds fs) j) (K + fs.length) ∧ Bst w w' p q')) := by
    intro wr q j f hs hj
    obtain ⟨blk, off, -, -, -, -, -, hat, -⟩ := hs.fm j f hj
    have hf := hO f (List.mem_of_getElem? hj)
    have hjl := (List.getElem?_eq_some_iff.1 hj).1
    have := abody_any hs.bk (bfo_ok ho _ j) (by omega) hs.tab hf.byt hf.len hat hf.le hf.few
    rw [hs.st.b] at this
    refine this.mono ?_
    rintro e w' ⟨rfl, q', h1, h2⟩
    have hne : ∀ i, FB i → ¬ q.own i := fun i hi e => by
      rcases hs.st.own i e with e2 | e2
      · exact (hFB i hi).1 e2
      · have := (hFB i hi).2; omega
    have hz : ¬ q.own 0 := fun e => by
      rcases hs.st.own 0 e with e2 | e2
      · exact h0 e2
      · have := hT.lt; omega
    refine ⟨rfl, q', ⟨by rw [bfo_succ (bds_get hj)]; exact h1, hs.st.trans h2, hs.fm.keep h2.kept hne, fun jj hjj => h2.kept.cell hz (hs.tab jj hjj)⟩, fun he => ⟨?_, hs.st.trans h2⟩⟩
    rw [bdS_no he] at h1
    exact h1.mono (by omega)
  have HF := hide (And.intro hF hl)
  clear h ho hT hF hFB hO h0
  go_enter Tryz.func9, Tryz.ntmps9
  go_wp2_with fail
  refine HNo.out.mono ?_
  rintro e w1 ⟨rfl, g1⟩
  have HS1 := hide (HS0.out.then g1)
  clear g1 HNo HS0
  go_wp2
  go_loopg [13] fs.length (fun k i wr => ∃ j : Nat, k + j = fs.length ∧ i = .int .i64 (j : Int) ∧ ∃ q, Hid (RuS w wr p q S K FB bo fs j ∧ j ≤ bn S (bds fs)))
  case atStart => exact ⟨0, by omega, rfl, p, HS1.out, Nat.zero_le _⟩
  case round =>
    clear HS1
    obtain ⟨j, hkj, rfl, q, HL⟩ := hrel
    by_cases hk : 0 < gk
    · have hj : j < fs.length := by omega
      have h1 : (j : Int) < (fs.length : Int) := by omega
      have h0 : (0 : Int) ≤ (j : Int) := by omega
      obtain ⟨f, hf⟩ : ∃ f, fs[j]? = some f := ⟨fs[j]'hj, List.getElem?_eq_getElem hj⟩
      obtain ⟨blk, off, rfl, -, k0, k1, k2, -, -⟩ := HL.out.1.fm j f hf
      have HC := hide (HStep.out _ q j f (HL.out.1.then (grown_alloc wr (.cells #[.int .u64 f.e, .int .u64 f.s, .slice f.ao f.n f.cap] 41))) hf)
      have HJ := hide (And.intro (bds_get hf) HL.out.2)
      clear hf hj
      go_wp2_with fail
      refine HC.out.mono ?_
      rintro e w3 ⟨rfl, q', h3, h4⟩
      have H3 := hide (And.intro h3 h4)
      clear h3 h4 HC
      by_cases he : bdE (bfo S (bds fs) j) f.xs = 0
      · have HJ2 := hide (HR.out.step HJ.out.2 HJ.out.1 he)
        rw [he]
        clear he
        go_wp2
        go_roundg (gk - 1)
        case measure => omega
        case rel => exact ⟨j + 1, by omega, by go_num, q', H3.out.1, HJ2.out⟩
      · have HJ2 := hide (HR.out.stop HJ.out.2 HJ.out.1 he)
        have H4 := hide (H3.out.2 he)
        clear H3
        generalize hv : bdE (bfo S (bds fs) j) f.xs = v at *
        clear hv
        have f2 : (v != 0) = true := by simpa using he
        clear he
        go_wp2
        go_ret2
        exact ⟨q', by rw [HJ2.out.1, HJ2.out.2]; rfl, by rw [HJ2.out.1]; exact H4.out.1, H4.out.2⟩
    · have hj : j = fs.length := by omega
      have HE := hide (HR.out.end_ HL.out.2 (by rw [hbl]; exact hj))
      subst hj
      go_wp2
      go_ret2
      exact ⟨q, by rw [HE.out.1, HE.out.2]; rfl, by rw [HE.out.1]; exact HL.out.1.bk, HL.out.1.st⟩
end Go.Proofs.YtinkkocleognbaaGreatDoor
namespace Go.Proofs.YtinkkocleognbaaGreatDoor
/- For ReplayParts: records copied; boxes laid in any order; frames gathered. -/
open Go.RowKit Go.Shelf
attribute [local go_sem ↓] Go.wp_at_zero Go.wp_at_succ
attribute [local go_sem] Oper.semAt_some
theorem slice_to48 (ao : Option Addr) (i n cap : Nat) (hi : i ≤ cap) (w : World) : (Instr.slice 48 (.slice ao n cap) none (some (.int .i64 (i : Int))) none).run Tryz.prog w = .ok (.slice ao i cap) w := by
  simp [Instr.slice, run_underlying Tryz.underlying48, Instr.sliceBounds, Instr.sliceBound, asIntOf]
  rw [if_pos hi]
  cases ao with
  | none => simp
  | some a => simp [addr_add0]
theorem RecsAt.take {w : World} {ao : Option Addr} {l : List Rc} (h : RecsAt w ao l) (n : Nat) : RecsAt w ao (l.take n) := fun j c hj => by
  refine h j c ?_
  rw [List.getElem?_take] at hj
  split at hj
  · exact hj
  · cases hj
set_option maxHeartbeats 4000000 in
theorem copyrec_any {w : World} {ao : Option Addr} {cap : Nat} {l : List Rc} (h : RecsAt w ao l) (hn : ao = none → cap = 0) (hl : l.length ≤ 65536) : Calls Tryz.prog 33 #[.slice ao l.length cap] w fun e w' => ∃ so c2, e = .returned (.slice so l.length c2) ∧ Rw w' w.heap.size so c2 l ∧ w.grownBy w' none := by
  obtain ⟨i0, hi0, hz0, hz1, hz2⟩ := info_parts info47
  have HI0 := hide (And.intro hi0 (And.intro hz0 (And.intro hz1 hz2)))
  cases ao with
  | none =>
    have h0 := recs_none h
    have hc := hn rfl
    subst h0
    subst hc
    clear h hn hi0 hz0 hz1 hz2
    go_enter Tryz.func33, Tryz.ntmps33
    go_wp2_with (at_builtin; refine wpList_append_own_none rfl (.tmp 4) (.tmp 5) 48 rfl 0 47 i0 5 Tryz.underlying48 HI0.out.1 (.slice none 0 0) 0 [] rfl (World.ownsRow_nil _ _ _ _) rfl ?_)
    go_wp2
    go_ret
    exact ⟨none, 0, rfl, ⟨World.ownsRow_nil _ _ _ _⟩, grown_refl _ _⟩
  | some a =>
    have hcells : ∀ j u, (rcs l)[j]? = some u → w.cell? (Addr.add a j) = some u := by
      by_cases h0 : l = []
      · subst h0; intro j u hj; simp [rcs] at hj
      · obtain ⟨g, off, e⟩ := h.form h0
        cases e
        exact h.cells
    have HC := hide (And.intro hcells (rcs_one l))
    clear hi0 hz0 hz1 hz2 hcells h hn
    go_enter Tryz.func33, Tryz.ntmps33
    go_wp2_with (at_builtin; refine wpList_append_own _ rfl (.tmp 4) (.tmp 5) 48 rfl w.heap.size 47 i0 (.agg #[.int .i64 0, .int .u32 0, .int .i64 0, .int .i64 0, .int .i64 0]) 5 40 Tryz.underlying48 HI0.out.1 HI0.out.2.1 HI0.out.2.2.1 HI0.out.2.2.2 rfl (by decide) (.slice none 0 0) 0 [] rfl (World.ownsRow_nil _ _ _ _) a l.length cap (rcs l) rfl (rcs_length l) HC.out.1 HC.out.2 (by unfold maxLen; omega) (by omega) (Nat.le_refl _) ?_)
    intro v' w' ho hg hv
    clear hv
    obtain ⟨so, c2, rfl, -⟩ := Ix.own_form ho
    have H := hide (And.intro ho hg)
    clear ho hg
    go_wp2
    go_ret
    refine ⟨so, c2, by simp, ⟨?_⟩, H.out.2⟩
    have := H.out.1
    simpa using this
/-- Two boxes, and what is stored in them, whatever their order. -/
structure Pz (wb W : World) (b4 b5 d : Nat) (m : Int) (S : Sb) (p : Bp) : Prop where
  c4 : W.heap[b4]? = some (.cells [Value.pointer (some ⟨d, 0, none⟩)].toArray 27 (0, 0))
  c5 : W.heap[b5]? = some (.cells [Value.int .i64 m].toArray 3 (0, 0))
  gr : wb.grownBy W none
  bk : Lb wb W d S p
  n4 : ¬ p.own b4
  n5 : ¬ p.own b5
  g4 : wb.heap.size ≤ b4
  g5 : wb.heap.size ≤ b5
/-- Both boxes lie there. -/
structure Py (wb X : World) (b4 b5 d : Nat) (S : Sb) (p : Bp) : Prop where
  c4 : X.heap[b4]? = some (.cells [Value.pointer none].toArray 27 (0, 0))
  c5 : X.heap[b5]? = some (.cells [Value.int .i64 0].toArray 3 (0, 0))
  gr : wb.grownBy X none
  bk : Lb wb X d S p
  n4 : ¬ p.own b4
  n5 : ¬ p.own b5
  g4 : wb.heap.size ≤ b4
  g5 : wb.heap.size ≤ b5
section
variable {wb W wx X : World} {b4 b5 d : Nat} {m : Int} {S : Sb} {p : Bp}
theorem Lb.set (h : Lb wb X d S p) (b : Nat) (v : Value) (hn : ¬ p.own b) : Lb wb (X.setCell ⟨b, 0, none⟩ v) d S p := ⟨h.eb, h.bk.far (kept_setCell X b 0 v) (fun i hi e => hn (by rw [← e]; exact hi)), h.own⟩
theorem Py.ne (h : Py wb X b4 b5 d S p) : ¬ b4 = b5 := fun e => by
  have := h.c4
  rw [e, h.c5] at this
  cases this
theorem Py.one (h : Py wb X b4 b5 d S p) : (X.setCell ⟨b4, 0, none⟩ (.pointer (some ⟨d, 0, none⟩))).heap[b4]? = some (.cells [Value.pointer (some ⟨d, 0, none⟩)].toArray 27 (0, 0)) ∧ (X.setCell ⟨b4, 0, none⟩ (.pointer (some ⟨d, 0, none⟩))).heap[b5]? = some (.cells [Value.int .i64 0].toArray 3 (0, 0)) ∧ wb.grownBy (X.setCell ⟨b4, 0, none⟩ (.pointer (some ⟨d, 0, none⟩))) none ∧ Lb wb (X.setCell ⟨b4, 0, none⟩ (.pointer (some ⟨d, 0, none⟩))) d S p :=
  ⟨row_setCell h.c4 0 _, (kept_setCell X b4 0 _).at h.c5 (fun e => h.ne e.symm), gn_set h.gr h.g4, h.bk.set _ _ h.n4⟩
theorem Py.two (h : Py wb X b4 b5 d S p) (m : Int) : Pz wb ((X.setCell ⟨b4, 0, none⟩ (.pointer (some ⟨d, 0, none⟩))).setCell ⟨b5, 0, none⟩ (.int .i64 m)) b4 b5 d m S p := by
  obtain ⟨h1, h2, h3, h4⟩ := h.one
  exact ⟨(kept_setCell _ b5 0 _).at h1 h.ne, row_setCell h2 0 _, gn_set h3 h.g5, h4.set _ _ h.n5, h.n4, h.n5, h.g4, h.g5⟩
end
end Go.Proofs.YtinkkocleognbaaGreatDoor
namespace Go.Proofs.YtinkkocleognbaaGreatDoor
/- For ReplayParts: the frames that are gathered. -/
open Go.RowKit Go.Shelf
def fmc (f : Fm) : List Value := [.int .u64 f.e, .int .u64 f.s, .slice f.ao f.n f.cap]
def fcs (l : List Fm) : List Value := l.flatMap fmc
theorem fmc_length (f : Fm) : (fmc f).length = 3 := rfl
theorem fcs_cons (f : Fm) (l : List Fm) : fcs (f :: l) = fmc f ++ fcs l := by simp [fcs]
theorem fcs_snoc (l : List Fm) (f : Fm) : fcs (l ++ [f]) = fcs l ++ fmc f := by simp [fcs]
theorem fcs_length (l : List Fm) : (fcs l).length = l.length * 3 := by
  induction l with
  | nil => rfl
  | cons r l ih => rw [fcs_cons, List.length_append, ih, fmc_length, List.length_cons]; omega
theorem fcs_at {l : List Fm} {i : Nat} {r : Fm} (h : l[i]? = some r) {o : Nat} (ho : o < 3) : (fcs l)[i * 3 + o]? = (fmc r)[o]? := by
  induction l generalizing i with
  | nil => simp at h
  | cons q l ih =>
    rw [fcs_cons]
    cases i with
    | zero =>
      simp at h
      subst h
      rw [List.getElem?_append_left (by rw [fmc_length]; omega)]
      simp
    | succ i =>
      rw [List.getElem?_append_right (by rw [fmc_length]; omega), fmc_length, show (i + 1) * 3 + o - 3 = i * 3 + o by omega]
      exact ih (by simpa using h)
theorem fmc_one (f : Fm) : ∀ u ∈ fmc f, u.oneCell' = true := by
  intro u hu
  simp [fmc] at hu
  rcases hu with rfl | rfl | rfl <;> rfl
theorem info41 : (Tryz.prog.info? 41).map (fun i => (i.zero, i.size, i.bytes)) = some (some (.agg #[.int .u64 0, .int .u64 0, .slice none 0 0]), 3, 40) := by kernel_rfl
/-- Frames gathered since wL: those of the records from k up to j. -/
structure PaS (wL wr : World) (h : List Rc) (k j : Nat) (q : Value) : Prop where
  ex : ∃ fs : List Fm, fs.length = j - k ∧ bds fs = ((h.take j).drop k).map Rc.out ∧ wr.ownsRow wL.heap.size 41 3 q fs.length (fcs fs) ∧ ∀ f ∈ fs, f.Ok ∧ ∃ g, f.ao = some ⟨g, 0, none⟩ ∧ wL.heap.size ≤ g ∧ wr.heap[g]? = some (.cells (f.xs.map (Value.int .u8)).toArray 5 (0, 0))
  gr : wL.grownBy wr none
theorem PaS.start (wL : World) (h : List Rc) (k : Nat) (hk : k ≤ h.length) : PaS wL wL h k k (.slice none 0 0) := by
  refine ⟨⟨[], by simp, ?_, World.ownsRow_nil _ _ _ _, fun f hf => by cases hf⟩, grown_refl _ _⟩
  rw [List.drop_eq_nil_of_le (by rw [List.length_take]; omega)]
  rfl
theorem At_row {w : World} {g : Nat} {xs : List Int} (h : w.heap[g]? = some (.cells (xs.map (Value.int .u8)).toArray 5 (0, 0))) : Oc.At w (some ⟨g, 0, none⟩) xs := by
  intro j u hj
  refine ⟨_, rfl, ?_⟩
  rw [Addr.add_lit, Nat.zero_add, cell_row h, List.getElem?_map, hj]
  rfl
/-- One frame more. -/
theorem PaS.push {wL wr wp w' : World} {h : List Rc} {k j g mq cq : Nat} {vq : Option Addr} {v' : Value} {r : Rc} {fs : List Fm} (h1 : fs.length = j - k) (h2 : bds fs = ((h.take j).drop k).map Rc.out) (h3 : wr.ownsRow wL.heap.size 41 3 (.slice vq mq cq) fs.length (fcs fs)) (h4 : ∀ f ∈ fs, f.Ok ∧ ∃ g, f.ao = some ⟨g, 0, none⟩ ∧ wL.heap.size ≤ g ∧ wr.heap[g]? = some (.cells (f.xs.map (Value.int .u8)).toArray 5 (0, 0))) (gr : wL.grownBy wr none) (hkj : k ≤ j) (hr : h[j]? = some r) (_ho : r.Ok) (hm : r.May) (hsz : r.out.length = sz r.k) (gp : wr.grownBy wp none) (hg : wr.heap.size ≤ g) (hb : wp.heap[g]? = some (.cells (r.out.map (Value.int .u8)).toArray 5 (0, 0))) (hby : Oc.Byt r.out) (ei : Int)
    (hov : w'.ownsRow wL.heap.size 41 3 v' (mq + 1) (fcs fs ++ fmc ⟨ei, 0, some ⟨g, 0, none⟩, sz r.k, sz r.k, r.out⟩)) (hgw : (wp.alloc (.cells (fmc ⟨ei, 0, some ⟨g, 0, none⟩, sz r.k, sz r.k, r.out⟩).toArray 41)).grownBy w' (Value.slice vq mq cq).ownBlock) : PaS wL w' h k (j + 1) v' := by
  have hmq : mq = fs.length := slice_n h3
  have hjl := (List.getElem?_eq_some_iff.1 hr).1
  have k0 : Kept wr w' (fun i => (Value.slice vq mq cq).ownBlock = some i) := ((Kept.new gp _).trans (Kept.new (grown_alloc wp _) (fun i => (Value.slice vq mq cq).ownBlock = some i)) (fun _ _ e => e)).trans (Kept.of hgw (S := fun i => (Value.slice vq mq cq).ownBlock = some i) (fun j e _ => e)) (fun _ _ e => e)
  have kp : Kept wp w' (fun i => (Value.slice vq mq cq).ownBlock = some i) := (Kept.new (grown_alloc wp _) _).trans (Kept.of hgw (S := fun i => (Value.slice vq mq cq).ownBlock = some i) (fun j e _ => e)) (fun _ _ e => e)
  have hof : ∀ i c, (Value.slice vq mq cq).ownBlock = some i → wr.heap[i]? = some (.cells c 5 (0, 0)) → False := fun i c hi hc => by
    obtain ⟨-, cur, hc'⟩ := Ix.own_block h3 hi
    rw [hc] at hc'
    cases hc'
  have hgg : ¬ (Value.slice vq mq cq).ownBlock = some g := fun e => by
    obtain ⟨-, cur, hc'⟩ := Ix.own_block h3 e
    have := row_lt hc'
    omega
  refine ⟨⟨fs ++ [⟨ei, 0, some ⟨g, 0, none⟩, sz r.k, sz r.k, r.out⟩], ?_, ?_, ?_, ?_⟩, kept_grown gr k0 (fun i hi => (Ix.own_block h3 hi).1)⟩
  · rw [List.length_append, h1]; simp; omega
  · unfold bds at h2 ⊢
    rw [List.map_append, h2, List.take_add_one, hr, Option.toList_some, List.drop_append_of_le_length (by rw [List.length_take]; omega), List.map_append]
    rfl
  · rw [List.length_append, fcs_snoc, ← hmq]
    exact hov
  · intro f hf
    rcases List.mem_append.1 hf with hf | hf
    · obtain ⟨q1, gg, q2, q3, q4⟩ := h4 f hf
      exact ⟨q1, gg, q2, q3, k0.at q4 (fun e => hof _ _ e q4)⟩
    · rw [List.mem_singleton] at hf
      subst hf
      exact ⟨⟨hsz, Nat.le_refl _, by
        show sz r.k ≤ _
        have hk5 := may_kind hm
        rcases hk5 with e | e | e | e | e <;> rw [e] <;> decide, hby⟩, g, rfl, Nat.le_trans gr.size hg, kp.at hb hgg⟩
/-- The frames, as Run takes them. -/
theorem PaS.fms {wL wr : World} {h : List Rc} {k j mq cq : Nat} {vq : Option Addr} (s : PaS wL wr h k j (.slice vq mq cq)) : ∃ fs : List Fm, fs.length = mq ∧ mq = j - k ∧ bds fs = ((h.take j).drop k).map Rc.out ∧ FmsAt wr (fun i => wL.heap.size ≤ i ∧ i < wr.heap.size) vq fs ∧ ∀ f ∈ fs, f.Ok := by
  obtain ⟨fs, h1, h2, h3, h4⟩ := s.ex
  have hmq : mq = fs.length := slice_n h3
  refine ⟨fs, hmq.symm, by omega, h2, fun i f hi => ?_, fun f hf => (h4 f hf).1⟩
  have hl := (List.getElem?_eq_some_iff.1 hi).1
  obtain ⟨g, c, cur, e1, e2, e3, e4, e5, e6, e7⟩ := Ix.own_row h3 (by omega)
  cases e1
  have key : ∀ o u, o < 3 → (fmc f)[o]? = some u → wr.cell? ⟨g, 0 + i * 3 + o, none⟩ = some u := fun o u ho hu => by
    rw [Nat.zero_add]
    exact Ix.own_cell e3 e7 ((fcs_at hi ho).trans hu)
  obtain ⟨-, gg, q2, q3, q4⟩ := h4 f (List.mem_of_getElem? hi)
  refine ⟨g, 0, rfl, ⟨e2, row_lt e3⟩, key 0 _ (by decide) rfl, key 1 _ (by decide) rfl, key 2 _ (by decide) rfl, by rw [q2]; exact At_row q4, fun a ha _ => ?_⟩
  rw [q2] at ha
  cases ha
  exact ⟨q3, row_lt q4⟩
theorem out_facts {r : Rc} (hm : r.May) : r.out.length = sz r.k ∧ Oc.Byt r.out := ⟨out_length hm, out_byt hm⟩
theorem BkAt.z0 {w : World} {p : Bp} {S : Sb} {K : Nat} (h : BkAt w p S K) : ¬ p.own 0 := by
  obtain ⟨Lb, R, M, E, T, N, B, C, h, -⟩ := h
  exact h.z
end Go.Proofs.YtinkkocleognbaaGreatDoor
