/- Texts joined: JpAh, P6, Q1. -/
import Derived.Test.YtinkkocleognbaaGreatDoorJuAw
import Derived.Test.YtinkkocleognbaaGreatDoorJuAu
import Derived.Laws.AppendOwnNone
import Derived.Test.YtinkkocleognbaaGreatDoorJuAx
/- Texts joined: Rq, Rr2, Pb, Pc. -/
namespace Go.Proofs.YtinkkocleognbaaGreatDoor
/- Run: bodies, one behind the other. -/
open Go.RowKit
attribute [local go_sem ↓] Go.wp_at_zero Go.wp_at_succ
attribute [local go_sem] Oper.semAt_some
/-- What a body is told, and what it makes of a book. -/
def bdE (S : Sb) (xs : List Int) : Int := if (getR xs).2 = 0 then appE S (getR xs).1 else (getR xs).2
def bdS (S : Sb) (xs : List Int) : Sb := if (getR xs).2 = 0 then app S (getR xs).1 else S
theorem bdS_no {S : Sb} {xs : List Int} (h : bdE S xs ≠ 0) : bdS S xs = S := by
  unfold bdE at h
  unfold bdS
  split
  · rename_i h1
    rw [if_pos h1] at h
    exact app_no h
  · rfl
theorem bdS_ok {S : Sb} (h : S.Ok) (xs : List Int) : (bdS S xs).Ok := by
  unfold bdS
  split
  · exact h.app _
  · exact h
def bfo (S : Sb) (l : List (List Int)) (k : Nat) : Sb := (l.take k).foldl bdS S
theorem bfo_succ {S : Sb} {l : List (List Int)} {k : Nat} {r : List Int} (h : l[k]? = some r) : bfo S l (k + 1) = bdS (bfo S l k) r := by
  unfold bfo
  rw [List.take_add_one, h]
  simp
theorem bfo_ok {S : Sb} (h : S.Ok) (l : List (List Int)) (k : Nat) : (bfo S l k).Ok := by
  unfold bfo
  generalize l.take k = m
  induction m generalizing S with
  | nil => exact h
  | cons r m ih => exact ih (bdS_ok h r)
/-- The first n bodies are taken; e: what the next one is told. -/
structure BRan (S : Sb) (l : List (List Int)) (n : Nat) (e : Int) : Prop where
  le : n ≤ l.length
  ok : ∀ k r, l[k]? = some r → k < n → bdE (bfo S l k) r = 0
  no : ∀ r, l[n]? = some r → bdE (bfo S l n) r = e ∧ e ≠ 0
  all : n = l.length → e = 0
def bn : Sb → List (List Int) → Nat
  | _, [] => 0
  | S, r :: l => if bdE S r = 0 then bn (bdS S r) l + 1 else 0
def bE : Sb → List (List Int) → Int
  | _, [] => 0
  | S, r :: l => if bdE S r = 0 then bE (bdS S r) l else bdE S r
theorem bran_is (S : Sb) (l : List (List Int)) : BRan S l (bn S l) (bE S l) := by
  induction l generalizing S with
  | nil => exact ⟨Nat.le_refl _, fun k r h _ => by simp at h, fun r h => by simp at h, fun _ => rfl⟩
  | cons r l ih =>
    by_cases h : bdE S r = 0
    · obtain ⟨h1, h2, h3, h4⟩ := ih (bdS S r)
      have e1 : bn S (r :: l) = bn (bdS S r) l + 1 := by rw [bn, if_pos h]
      have e2 : bE S (r :: l) = bE (bdS S r) l := by rw [bE, if_pos h]
      rw [e1, e2]
      refine ⟨by simpa using h1, fun k q hk hlt => ?_, fun q hq => ?_, fun e => h4 (by simpa using e)⟩
      · cases k with
        | zero => simp at hk; rw [← hk]; exact h
        | succ k => exact h2 k q (by simpa using hk) (by omega)
      · exact h3 q (by simpa using hq)
    · have e1 : bn S (r :: l) = 0 := by rw [bn, if_neg h]
      have e2 : bE S (r :: l) = bdE S r := by rw [bE, if_neg h]
      rw [e1, e2]
      refine ⟨Nat.zero_le _, fun k q _ hlt => by omega, fun q hq => ?_, fun e => by simp at e⟩
      simp at hq
      rw [← hq]
      exact ⟨rfl, h⟩
section
variable {S : Sb} {l : List (List Int)} {n j : Nat} {e : Int} {r : List Int}
theorem BRan.step (h : BRan S l n e) (hj : j ≤ n) (hr : l[j]? = some r) (h0 : bdE (bfo S l j) r = 0) : j + 1 ≤ n := by
  apply Classical.byContradiction
  intro hn
  obtain rfl : j = n := by omega
  have h1 := h.no r hr
  rw [h0] at h1
  exact h1.2 h1.1.symm
theorem BRan.stop (h : BRan S l n e) (hj : j ≤ n) (hr : l[j]? = some r) (h0 : bdE (bfo S l j) r ≠ 0) : n = j ∧ e = bdE (bfo S l j) r := by
  obtain rfl : j = n := by
    apply Classical.byContradiction
    intro hn
    exact h0 (h.ok j r hr (by omega))
  exact ⟨rfl, (h.no r hr).1.symm⟩
theorem BRan.end_ (h : BRan S l n e) (hj : j ≤ n) (hl : j = l.length) : n = j ∧ e = 0 := by
  have := h.le
  obtain rfl : j = n := by omega
  exact ⟨rfl, h.all hl⟩
end
theorem getR_ok {xs : List Int} (h : Oc.Byt xs) (_h0 : (getR xs).2 = 0) : (getR xs).1.Ok := by
  rcases getR_cases xs with h1 | h1
  · rw [h1.2.1]; exact rcOf_ok h
  · rw [h1.1]; constructor <;> decide
set_option maxRecDepth 20000 in
set_option maxHeartbeats 8000000 in
theorem abody_any {w : World} {p : Bp} {S : Sb} {K : Nat} (h : BkAt w p S K) (ho : S.Ok) (hK : K ≤ 10000000) (hT : Rk.Tab w) {ao : Option Addr} {n cap : Nat} {xs : List Int} (hB : Oc.Byt xs) (hn : xs.length = n) (hat : Oc.At w ao xs) (hc : n ≤ cap) (hm : n ≤ 140737488355328) : Calls Tryz.prog 37 #[.pointer (some ⟨p.b, 0, none⟩), .slice ao n cap] w fun e w' => e = .returned (.int .i64 (bdE S xs)) ∧ ∃ q, BkAt w' q (bdS S xs) (K + 1) ∧ Bst w w' p q := by
  have HG := hide (Rk.get_any xs hB ao n cap w hn hat hc hm hT)
  by_cases h0 : (getR xs).2 = 0
  · have hro := getR_ok hB h0
    have e1 : bdE S xs = appE S (getR xs).1 := by unfold bdE; rw [if_pos h0]
    have e2 : bdS S xs = app S (getR xs).1 := by unfold bdS; rw [if_pos h0]
    rw [e1, e2]
    rw [h0] at HG
    generalize (getR xs).1 = r at *
    have HA : Hid (∀ W, w.grownBy W none → Calls Tryz.prog 39 #[.pointer (some ⟨p.b, 0, none⟩), .agg #[.int .i64 r.k, .int .u32 r.i, .int .i64 r.s, .int .i64 r.u, .int .i64 r.c]] W fun e w' => e = .returned (.int .i64 (appE S r)) ∧ ∃ q, BkAt w' q (app S r) (K + 1) ∧ Bst w w' p q) := by
      intro W g
      refine (apply_any (h.then g) ho hK r hro (hT.new g)).mono ?_
      rintro e w' ⟨rfl, q, h1, h2⟩
      exact ⟨rfl, q, h1, (Bst.grown g p).trans h2⟩
    clear h ho hT hB hat e1 e2 h0 hro
    generalize appE S r = er at *
    generalize app S r = Sr at *
    unfold Rk.rcV at HG
    go_enter Tryz.func37, Tryz.ntmps37
    go_wp2_with fail
    refine HG.out.mono ?_
    rintro e w1 ⟨rfl, g1⟩
    have HA1 := hide (HA.out _ (gn_alloc g1 (.cells #[.int .i64 r.k, .int .u32 r.i, .int .i64 r.s, .int .i64 r.u, .int .i64 r.c] 47)))
    clear g1 HG HA
    go_wp2_with fail
    refine HA1.out.mono ?_
    rintro e w2 ⟨rfl, hq⟩
    have HQ := hide hq
    clear hq HA1
    go_wp2
    go_ret
    exact ⟨rfl, HQ.out⟩
  · have e1 : bdE S xs = (getR xs).2 := by unfold bdE; rw [if_neg h0]
    have e2 : bdS S xs = S := by unfold bdS; rw [if_neg h0]
    rw [e1, e2]
    have HB := hide h
    clear h ho hT hB hat e1 e2
    generalize (getR xs).1 = r at *
    generalize (getR xs).2 = er at *
    have f1 : (er != 0) = true := by simpa using h0
    unfold Rk.rcV at HG
    go_enter Tryz.func37, Tryz.ntmps37
    go_wp2_with fail
    refine HG.out.mono ?_
    rintro e w1 ⟨rfl, g1⟩
    have HQ := hide (gn_alloc g1 (.cells #[.int .i64 r.k, .int .u32 r.i, .int .i64 r.s, .int .i64 r.u, .int .i64 r.c] 47))
    clear g1 HG
    go_wp2
    go_ret
    exact ⟨rfl, p, (HB.out.then HQ.out).mono (by omega), Bst.grown HQ.out p⟩
end Go.Proofs.YtinkkocleognbaaGreatDoor
namespace Go.Proofs.YtinkkocleognbaaGreatDoor
/- Run, over frames in memory. -/
open Go.RowKit
attribute [local go_sem ↓] Go.wp_at_zero Go.wp_at_succ
attribute [local go_sem] Oper.semAt_some
/-- A frame: its numbers, its body as a slice, the body's bytes. -/
structure Fm where
  e : Int
  s : Int
  ao : Option Addr
  n : Nat
  cap : Nat
  xs : List Int
structure Fm.Ok (f : Fm) : Prop where
  len : f.xs.length = f.n
  le : f.n ≤ f.cap
  few : f.n ≤ 140737488355328
  byt : Oc.Byt f.xs
theorem cell_blk {w w' : World} {a : Addr} (h : w'.heap[a.block]? = w.heap[a.block]?) : w'.cell? a = w.cell? a := by
  unfold World.cell?
  simp only [h]
theorem add_blk (a : Addr) (j : Nat) : (a.add j).block = a.block := by unfold Addr.add; split <;> rfl
theorem At_keep {w w' : World} {ao : Option Addr} {xs : List Int} {X : Nat → Prop} (h : Oc.At w ao xs) (k : Kept w w' X) (hX : ∀ a, ao = some a → xs ≠ [] → ¬ X a.block) : Oc.At w' ao xs := by
  intro j u hj
  obtain ⟨a, e, hc⟩ := h j u hj
  refine ⟨a, e, ?_⟩
  have hne : xs ≠ [] := fun e => by rw [e] at hj; simp at hj
  have hlt : a.block < w.heap.size := by
    unfold World.cell? at hc
    rw [add_blk] at hc
    cases hq : w.heap[a.block]? with
    | none => simp [hq] at hc
    | some o => exact row_lt hq
  have hq := cell_blk (w := w) (w' := w') (a := a.add j) (by rw [add_blk]; exact k.block _ hlt (hX a e hne))
  exact hq.trans hc
/-- Frames that lie somewhere, in blocks of FB. -/
def FmsAt (w : World) (FB : Nat → Prop) (bo : Option Addr) (fs : List Fm) : Prop := ∀ j f, fs[j]? = some f → ∃ blk off, bo = some (⟨blk, off, none⟩ : Addr) ∧ FB blk ∧ w.cell? ⟨blk, off + j * 3, none⟩ = some (.int .u64 f.e) ∧ w.cell? ⟨blk, off + j * 3 + 1, none⟩ = some (.int .u64 f.s) ∧ w.cell? ⟨blk, off + j * 3 + 2, none⟩ = some (.slice f.ao f.n f.cap) ∧ Oc.At w f.ao f.xs ∧ (∀ a, f.ao = some a → f.xs ≠ [] → FB a.block)
theorem FmsAt.keep {w w' : World} {FB X : Nat → Prop} {bo : Option Addr} {fs : List Fm} (h : FmsAt w FB bo fs) (k : Kept w w' X) (hX : ∀ i, FB i → ¬ X i) : FmsAt w' FB bo fs := by
  intro j f hj
  obtain ⟨blk, off, e, h0, h1, h2, h3, h4, h5⟩ := h j f hj
  exact ⟨blk, off, e, h0, k.cell (hX _ h0) h1, k.cell (hX _ h0) h2, k.cell (hX _ h0) h3, At_keep h4 k (fun a ea hne => hX _ (h5 a ea hne)), h5⟩
theorem FmsAt.then {w w' : World} {FB : Nat → Prop} {bo : Option Addr} {fs : List Fm} (h : FmsAt w FB bo fs) (g : w.grownBy w' none) : FmsAt w' FB bo fs := h.keep (Kept.new g (fun _ => False)) (fun _ _ e => e)
def bds (fs : List Fm) : List (List Int) := fs.map Fm.xs
theorem bds_get {fs : List Fm} {j : Nat} {f : Fm} (h : fs[j]? = some f) : (bds fs)[j]? = some f.xs := by unfold bds; rw [List.getElem?_map, h]; rfl
/-- In the midst of Run. -/
structure RuS (w wr : World) (p q : Bp) (S : Sb) (K : Nat) (FB : Nat → Prop) (bo : Option Addr) (fs : List Fm) (j : Nat) : Prop where
  bk : BkAt wr q (bfo S (bds fs) j) (K + j)
  st : Bst w wr p q
  fm : FmsAt wr FB bo fs
  tab : Rk.Tab wr
theorem RuS.then {w wr wr' : World} {p q : Bp} {S : Sb} {K : Nat} {FB : Nat → Prop} {bo : Option Addr} {fs : List Fm} {j : Nat} (h : RuS w wr p q S K FB bo fs j) (g : wr.grownBy wr' none) : RuS w wr' p q S K FB bo fs j := ⟨h.bk.then g, h.st.trans (Bst.grown g q), h.fm.then g, h.tab.new g⟩
set_option maxRecDepth 20000 in
set_option maxHeartbeats 16000000 in
theorem run_any {w : World} {p : Bp} {S : Sb} {K : Nat} (h : BkAt w p S K) (ho : S.Ok) (hK : K ≤ 1000000) (hT : Rk.Tab w) {FB : Nat → Prop} {bo : Option Addr} {cap : Nat} {fs : List Fm} (hl : fs.length ≤ 1000) (hF : FmsAt w FB bo fs) (hFB : ∀ i, FB i → ¬ p.own i ∧ i < w.heap.size) (h0 : ¬ p.own 0) (hO : ∀ f ∈ fs, f.Ok) : Calls Tryz.prog 9 #[.pointer (some ⟨p.b, 0, none⟩), .slice bo fs.length cap] w fun e w' => ∃ q, e = .returned (.tuple #[.int .i64 (bn S (bds fs) : Int), .int .i64 (bE S (bds fs))]) ∧ BkAt w' q (bfo S (bds fs) (bn S (bds fs))) (K + fs.length) ∧ Bst w w' p q := by
  have HNo : Hid (Calls Tryz.prog 36 #[.pointer (some ⟨p.b, 0, none⟩)] w fun e w' => e = .returned (.bool false) ∧ w.grownBy w' none) := isNone_no h ho.a0
  have HR := hide (bran_is S (bds fs))
  have HS0 : Hid (RuS w w p p S K FB bo fs 0) := ⟨h.mono (Nat.le_refl _), Bst.refl w p, hF, hT⟩
  have hbl : (bds fs).length = fs.length := by simp [bds]
  have HStep : Hid (∀ (wr : World) q j f, RuS w wr p q S K FB bo fs j → fs[j]? = some f → Calls Tryz.prog 37 #[.pointer (some ⟨p.b, 0, none⟩), .slice f.ao f.n f.cap] wr fun e w' => e = .returned (.int .i64 (bdE (bfo S (bds fs) j) f.xs)) ∧ ∃ q', RuS w w' p q' S K FB bo fs (j + 1) ∧ (bdE (bfo S (bds fs) j) f.xs ≠ 0 → BkAt w' q' (bfo S (bds fs) j) (K + fs.length) ∧ Bst w w' p q')) := by
    intro wr q j f hs hj
    obtain ⟨blk, off, -, -, -, -, -, hat, -⟩ := hs.fm j f hj
    have hf := hO f (List.mem_of_getElem? hj)
    have hjl := (List.getElem?_eq_some_iff.1 hj).1
    have := abody_any hs.bk (bfo_ok ho _ j) (by omega) hs.tab hf.byt hf.len hat hf.le hf.few
    rw [hs.st.b] at this
    refine this.mono ?_
    rintro e w' ⟨rfl, q', h1, h2⟩
    have hne : ∀ i, FB i → ¬ q.own i := fun i hi e => by
      rcases hs.st.own i e with e2 | e2
      · exact (hFB i hi).1 e2
      · have := (hFB i hi).2; omega
    have hz : ¬ q.own 0 := fun e => by
      rcases hs.st.own 0 e with e2 | e2
      · exact h0 e2
      · have := hT.lt; omega
    refine ⟨rfl, q', ⟨by rw [bfo_succ (bds_get hj)]; exact h1, hs.st.trans h2, hs.fm.keep h2.kept hne, fun jj hjj => h2.kept.cell hz (hs.tab jj hjj)⟩, fun he => ⟨?_, hs.st.trans h2⟩⟩
    rw [bdS_no he] at h1
    exact h1.mono (by omega)
  have HF := hide (And.intro hF hl)
  clear h ho hT hF hFB hO h0
  go_enter Tryz.func9, Tryz.ntmps9
  go_wp2_with fail
  refine HNo.out.mono ?_
  rintro e w1 ⟨rfl, g1⟩
  have HS1 := hide (HS0.out.then g1)
  clear g1 HNo HS0
  go_wp2
  go_loopg [13] fs.length (fun k i wr => ∃ j : Nat, k + j = fs.length ∧ i = .int .i64 (j : Int) ∧ ∃ q, Hid (RuS w wr p q S K FB bo fs j ∧ j ≤ bn S (bds fs)))
  case atStart => exact ⟨0, by omega, rfl, p, HS1.out, Nat.zero_le _⟩
  case round =>
    clear HS1
    obtain ⟨j, hkj, rfl, q, HL⟩ := hrel
    by_cases hk : 0 < gk
    · have hj : j < fs.length := by omega
      have h1 : (j : Int) < (fs.length : Int) := by omega
      have h0 : (0 : Int) ≤ (j : Int) := by omega
      obtain ⟨f, hf⟩ : ∃ f, fs[j]? = some f := ⟨fs[j]'hj, List.getElem?_eq_getElem hj⟩
      obtain ⟨blk, off, rfl, -, k0, k1, k2, -, -⟩ := HL.out.1.fm j f hf
      have HC := hide (HStep.out _ q j f (HL.out.1.then (grown_alloc wr (.cells #[.int .u64 f.e, .int .u64 f.s, .slice f.ao f.n f.cap] 41))) hf)
      have HJ := hide (And.intro (bds_get hf) HL.out.2)
      clear hf hj
      go_wp2_with fail
      refine HC.out.mono ?_
      rintro e w3 ⟨rfl, q', h3, h4⟩
      have H3 := hide (And.intro h3 h4)
      clear h3 h4 HC
      by_cases he : bdE (bfo S (bds fs) j) f.xs = 0
      · have HJ2 := hide (HR.out.step HJ.out.2 HJ.out.1 he)
        rw [he]
        clear he
        go_wp2
        go_roundg (gk - 1)
        case measure => omega
        case rel => exact ⟨j + 1, by omega, by go_num, q', H3.out.1, HJ2.out⟩
      · have HJ2 := hide (HR.out.stop HJ.out.2 HJ.out.1 he)
        have H4 := hide (H3.out.2 he)
        clear H3
        generalize hv : bdE (bfo S (bds fs) j) f.xs = v at *
        clear hv
        have f2 : (v != 0) = true := by simpa using he
        clear he
        go_wp2
        go_ret2
        exact ⟨q', by rw [HJ2.out.1, HJ2.out.2]; rfl, by rw [HJ2.out.1]; exact H4.out.1, H4.out.2⟩
    · have hj : j = fs.length := by omega
      have HE := hide (HR.out.end_ HL.out.2 (by rw [hbl]; exact hj))
      subst hj
      go_wp2
      go_ret2
      exact ⟨q, by rw [HE.out.1, HE.out.2]; rfl, by rw [HE.out.1]; exact HL.out.1.bk, HL.out.1.st⟩
end Go.Proofs.YtinkkocleognbaaGreatDoor
namespace Go.Proofs.YtinkkocleognbaaGreatDoor
/- For ReplayParts: records copied; boxes laid in any order; frames gathered. -/
open Go.RowKit Go.Shelf
attribute [local go_sem ↓] Go.wp_at_zero Go.wp_at_succ
attribute [local go_sem] Oper.semAt_some
theorem RecsAt.take {w : World} {ao : Option Addr} {l : List Rc} (h : RecsAt w ao l) (n : Nat) : RecsAt w ao (l.take n) := fun j c hj => by
  refine h j c ?_
  rw [List.getElem?_take] at hj
  split at hj
  · exact hj
  · cases hj
/-- Both boxes lie there. -/
structure Py (wb X : World) (b4 b5 d : Nat) (S : Sb) (p : Bp) : Prop where
  c4 : X.heap[b4]? = some (.cells [Value.pointer none].toArray 27 (0, 0))
  c5 : X.heap[b5]? = some (.cells [Value.int .i64 0].toArray 3 (0, 0))
  gr : wb.grownBy X none
  bk : Lb wb X d S p
  n4 : ¬ p.own b4
  n5 : ¬ p.own b5
  g4 : wb.heap.size ≤ b4
  g5 : wb.heap.size ≤ b5
section
variable {wb W wx X : World} {b4 b5 d : Nat} {m : Int} {S : Sb} {p : Bp}
theorem Lb.set (h : Lb wb X d S p) (b : Nat) (v : Value) (hn : ¬ p.own b) : Lb wb (X.setCell ⟨b, 0, none⟩ v) d S p := ⟨h.eb, h.bk.far (kept_setCell X b 0 v) (fun i hi e => hn (by rw [← e]; exact hi)), h.own⟩
theorem Py.ne (h : Py wb X b4 b5 d S p) : ¬ b4 = b5 := fun e => by
  have := h.c4
  rw [e, h.c5] at this
  cases this
theorem Py.one (h : Py wb X b4 b5 d S p) : (X.setCell ⟨b4, 0, none⟩ (.pointer (some ⟨d, 0, none⟩))).heap[b4]? = some (.cells [Value.pointer (some ⟨d, 0, none⟩)].toArray 27 (0, 0)) ∧ (X.setCell ⟨b4, 0, none⟩ (.pointer (some ⟨d, 0, none⟩))).heap[b5]? = some (.cells [Value.int .i64 0].toArray 3 (0, 0)) ∧ wb.grownBy (X.setCell ⟨b4, 0, none⟩ (.pointer (some ⟨d, 0, none⟩))) none ∧ Lb wb (X.setCell ⟨b4, 0, none⟩ (.pointer (some ⟨d, 0, none⟩))) d S p :=
  ⟨row_setCell h.c4 0 _, (kept_setCell X b4 0 _).at h.c5 (fun e => h.ne e.symm), gn_set h.gr h.g4, h.bk.set _ _ h.n4⟩
end
end Go.Proofs.YtinkkocleognbaaGreatDoor
namespace Go.Proofs.YtinkkocleognbaaGreatDoor
/- For ReplayParts: the frames that are gathered. -/
open Go.RowKit Go.Shelf
def fmc (f : Fm) : List Value := [.int .u64 f.e, .int .u64 f.s, .slice f.ao f.n f.cap]
def fcs (l : List Fm) : List Value := l.flatMap fmc
theorem fmc_length (f : Fm) : (fmc f).length = 3 := rfl
theorem fcs_cons (f : Fm) (l : List Fm) : fcs (f :: l) = fmc f ++ fcs l := by simp [fcs]
theorem fcs_at {l : List Fm} {i : Nat} {r : Fm} (h : l[i]? = some r) {o : Nat} (ho : o < 3) : (fcs l)[i * 3 + o]? = (fmc r)[o]? := by
  induction l generalizing i with
  | nil => simp at h
  | cons q l ih =>
    rw [fcs_cons]
    cases i with
    | zero =>
      simp at h
      subst h
      rw [List.getElem?_append_left (by rw [fmc_length]; omega)]
      simp
    | succ i =>
      rw [List.getElem?_append_right (by rw [fmc_length]; omega), fmc_length, show (i + 1) * 3 + o - 3 = i * 3 + o by omega]
      exact ih (by simpa using h)
theorem info41 : (Tryz.prog.info? 41).map (fun i => (i.zero, i.size, i.bytes)) = some (some (.agg #[.int .u64 0, .int .u64 0, .slice none 0 0]), 3, 40) := by kernel_rfl
/-- Frames gathered since wL: those of the records from k up to j. -/
structure PaS (wL wr : World) (h : List Rc) (k j : Nat) (q : Value) : Prop where
  ex : ∃ fs : List Fm, fs.length = j - k ∧ bds fs = ((h.take j).drop k).map Rc.out ∧ wr.ownsRow wL.heap.size 41 3 q fs.length (fcs fs) ∧ ∀ f ∈ fs, f.Ok ∧ ∃ g, f.ao = some ⟨g, 0, none⟩ ∧ wL.heap.size ≤ g ∧ wr.heap[g]? = some (.cells (f.xs.map (Value.int .u8)).toArray 5 (0, 0))
  gr : wL.grownBy wr none
theorem PaS.start (wL : World) (h : List Rc) (k : Nat) (hk : k ≤ h.length) : PaS wL wL h k k (.slice none 0 0) := by
  refine ⟨⟨[], by simp, ?_, World.ownsRow_nil _ _ _ _, fun f hf => by cases hf⟩, grown_refl _ _⟩
  rw [List.drop_eq_nil_of_le (by rw [List.length_take]; omega)]
  rfl
theorem At_row {w : World} {g : Nat} {xs : List Int} (h : w.heap[g]? = some (.cells (xs.map (Value.int .u8)).toArray 5 (0, 0))) : Oc.At w (some ⟨g, 0, none⟩) xs := by
  intro j u hj
  refine ⟨_, rfl, ?_⟩
  rw [Addr.add_lit, Nat.zero_add, cell_row h, List.getElem?_map, hj]
  rfl
/-- The frames, as Run takes them. -/
theorem PaS.fms {wL wr : World} {h : List Rc} {k j mq cq : Nat} {vq : Option Addr} (s : PaS wL wr h k j (.slice vq mq cq)) : ∃ fs : List Fm, fs.length = mq ∧ mq = j - k ∧ bds fs = ((h.take j).drop k).map Rc.out ∧ FmsAt wr (fun i => wL.heap.size ≤ i ∧ i < wr.heap.size) vq fs ∧ ∀ f ∈ fs, f.Ok := by
  obtain ⟨fs, h1, h2, h3, h4⟩ := s.ex
  have hmq : mq = fs.length := slice_n h3
  refine ⟨fs, hmq.symm, by omega, h2, fun i f hi => ?_, fun f hf => (h4 f hf).1⟩
  have hl := (List.getElem?_eq_some_iff.1 hi).1
  obtain ⟨g, c, cur, e1, e2, e3, e4, e5, e6, e7⟩ := Ix.own_row h3 (by omega)
  cases e1
  have key : ∀ o u, o < 3 → (fmc f)[o]? = some u → wr.cell? ⟨g, 0 + i * 3 + o, none⟩ = some u := fun o u ho hu => by
    rw [Nat.zero_add]
    exact Ix.own_cell e3 e7 ((fcs_at hi ho).trans hu)
  obtain ⟨-, gg, q2, q3, q4⟩ := h4 f (List.mem_of_getElem? hi)
  refine ⟨g, 0, rfl, ⟨e2, row_lt e3⟩, key 0 _ (by decide) rfl, key 1 _ (by decide) rfl, key 2 _ (by decide) rfl, by rw [q2]; exact At_row q4, fun a ha _ => ?_⟩
  rw [q2] at ha
  cases ha
  exact ⟨q3, row_lt q4⟩
end Go.Proofs.YtinkkocleognbaaGreatDoor
/- The document's Run, over its Get. -/
namespace Go.Proofs.YtinkkocleognbaaGreatDoor
open Go.RowKit Go.Shelf
attribute [local go_sem ↓] Go.wp_at_zero Go.wp_at_succ
/-- In the midst of the document's Run. -/
structure DuS (w wr : World) (lo d : Nat) (v v' : Value) (S : Sb) (FB : Nat → Prop) (bo : Option Addr) (fs : List Fm) (j : Nat) : Prop where
  db : Db wr lo d v' (bfo S (bds fs) j)
  st : Dst w wr d v v'
  fm : FmsAt wr FB bo fs
theorem DuS.then {w wr wr' : World} {lo d : Nat} {v v' : Value} {S : Sb} {FB : Nat → Prop} {bo : Option Addr} {fs : List Fm} {j : Nat} (h : DuS w wr lo d v v' S FB bo fs j) (g : wr.grownBy wr' none) : DuS w wr' lo d v v' S FB bo fs j := ⟨h.db.then g, h.st.trans (Dst.new g d v'), h.fm.then g⟩
set_option maxRecDepth 20000 in
set_option maxHeartbeats 16000000 in
theorem drun_any (hGet : ∀ (xs : List Int) (ao : Option Addr) (n cap : Nat) (W : World), Oc.Byt xs → xs.length = n → Oc.At W ao xs → n ≤ cap → Calls Tryz.prog 60 #[.slice ao n cap] W fun e w' => e = .returned (.tuple #[Rk.rcV (getR xs).1, .int .i64 (getR xs).2]) ∧ W.grownBy w' none)
    {w : World} {lo d : Nat} {v : Value} {S : Sb} (h : Db w lo d v S) (ho : S.Ok) {FB : Nat → Prop} {bo : Option Addr} {cap : Nat} {fs : List Fm} (hl : fs.length ≤ 1000) (hF : FmsAt w FB bo fs) (hFB : ∀ i, FB i → ¬ dbo d v i ∧ i < w.heap.size) (hO : ∀ f ∈ fs, f.Ok) :
    Calls Tryz.prog 29 #[.pointer (some ⟨d, 0, none⟩), .slice bo fs.length cap] w fun e w' => ∃ v', e = .returned (.tuple #[.int .i64 (bn S (bds fs) : Int), .int .i64 (bE S (bds fs))]) ∧ Db w' lo d v' (bfo S (bds fs) (bn S (bds fs))) ∧ Dst w w' d v v' := by
  have HR := hide (bran_is S (bds fs))
  have HS0 : Hid (DuS w w lo d v v S FB bo fs 0) := ⟨h, Dst.refl w d v, hF⟩
  have hbl : (bds fs).length = fs.length := by simp [bds]
  have HG : Hid (∀ (wr : World) v' j f, DuS w wr lo d v v' S FB bo fs j → fs[j]? = some f → Calls Tryz.prog 60 #[.slice f.ao f.n f.cap] wr fun e w' => e = .returned (.tuple #[Rk.rcV (getR f.xs).1, .int .i64 (getR f.xs).2]) ∧ wr.grownBy w' none) := by
    intro wr v' j f hs hj
    obtain ⟨blk, off, -, -, -, -, -, hat, -⟩ := hs.fm j f hj
    have hf := hO f (List.mem_of_getElem? hj)
    exact hGet f.xs f.ao f.n f.cap wr hf.byt hf.len hat hf.le
  have HStep : Hid (∀ (wr : World) v' j f, DuS w wr lo d v v' S FB bo fs j → fs[j]? = some f → (getR f.xs).2 = 0 → Calls Tryz.prog 26 #[.pointer (some ⟨d, 0, none⟩), Rk.rcV (getR f.xs).1] wr fun e w' => e = .returned (.int .i64 (bdE (bfo S (bds fs) j) f.xs)) ∧ ∃ v2, DuS w w' lo d v v2 S FB bo fs (j + 1) ∧ (bdE (bfo S (bds fs) j) f.xs ≠ 0 → Db w' lo d v2 (bfo S (bds fs) j) ∧ Dst w w' d v v2)) := by
    intro wr v' j f hs hj h0
    have hf := hO f (List.mem_of_getElem? hj)
    refine (dapply_any hs.db (bfo_ok ho _ j) _ (getR_ok hf.byt h0)).mono ?_
    rintro e w' ⟨v2, rfl, h1, h2⟩
    have hbE : bdE (bfo S (bds fs) j) f.xs = appE (bfo S (bds fs) j) (getR f.xs).1 := by unfold bdE; rw [if_pos h0]
    have hbS : bdS (bfo S (bds fs) j) f.xs = app (bfo S (bds fs) j) (getR f.xs).1 := by unfold bdS; rw [if_pos h0]
    refine ⟨by rw [hbE], v2, ⟨by rw [bfo_succ (bds_get hj), hbS]; exact h1, hs.st.trans h2, hs.fm.keep h2.kept (fun i hi e => ?_)⟩, fun he => ⟨?_, hs.st.trans h2⟩⟩
    · rcases e with e | e
      · exact (hFB i hi).1 (.inl e)
      · rcases hs.st.own i e with e2 | e2
        · exact (hFB i hi).1 (.inr e2)
        · have := (hFB i hi).2; omega
    · rw [hbE] at he
      rw [app_no he] at h1
      exact h1
  have HBd : Hid (∀ j f, (getR f.xs).2 ≠ 0 → bdE (bfo S (bds fs) j) (Fm.xs f) = (getR f.xs).2) := fun j f h0 => by unfold bdE; rw [if_neg h0]
  clear h ho hF hFB hO hGet
  go_enter Tryz.func29, Tryz.ntmps29
  go_wp2
  go_loopg [6] fs.length (fun k i wr => ∃ j : Nat, k + j = fs.length ∧ i = .int .i64 (j : Int) ∧ ∃ v', Hid (DuS w wr lo d v v' S FB bo fs j ∧ j ≤ bn S (bds fs)))
  case atStart => exact ⟨0, by omega, rfl, v, HS0.out, Nat.zero_le _⟩
  case round =>
    clear HS0
    obtain ⟨j, hkj, rfl, v', HL⟩ := hrel
    by_cases hk : 0 < gk
    · have hj : j < fs.length := by omega
      have h1 : (j : Int) < (fs.length : Int) := by omega
      have h0 : (0 : Int) ≤ (j : Int) := by omega
      obtain ⟨f, hf⟩ : ∃ f, fs[j]? = some f := ⟨fs[j]'hj, List.getElem?_eq_getElem hj⟩
      obtain ⟨blk, off, rfl, -, k0, k1, k2, -, -⟩ := HL.out.1.fm j f hf
      have HC := hide (HG.out wr v' j f HL.out.1 hf)
      have HJ := hide (And.intro hf (And.intro (bds_get hf) HL.out.2))
      clear hf hj
      go_wp2_with fail
      refine HC.out.mono ?_
      rintro e w3 ⟨rfl, g3⟩
      have H3 := hide (HL.out.1.then g3)
      clear g3 HC k0 k1 k2
      by_cases hz : (getR f.xs).2 = 0
      · have HC2 := hide (HStep.out _ v' j f (H3.out.then (grown_alloc w3 (.cells (Rk.rcC (getR f.xs).1).toArray 47))) HJ.out.1 hz)
        rw [hz]
        clear hz
        generalize hr : (getR f.xs).1 = r at *
        clear hr
        obtain ⟨rk, ri, rs, ru, rc⟩ := r
        unfold Rk.rcC Rk.rcV at HC2
        unfold Rk.rcV
        dsimp only at *
        obtain ⟨c0, c1, c2, c3, c4⟩ := Rk.box5 (heap_alloc_new w3 (.cells [Value.int .i64 rk, .int .u32 ri, .int .i64 rs, .int .i64 ru, .int .i64 rc].toArray 47))
        go_wp2_with fail
        refine HC2.out.mono ?_
        clear HC2 c0 c1 c2 c3 c4
        rintro e w4 ⟨rfl, v2, h3, h4⟩
        have H4 := hide (And.intro h3 h4)
        clear h3 h4
        by_cases he : bdE (bfo S (bds fs) j) f.xs = 0
        · have HJ2 := hide (HR.out.step HJ.out.2.2 HJ.out.2.1 he)
          rw [he]
          clear he
          go_wp2
          go_roundg (gk - 1)
          case measure => omega
          case rel => exact ⟨j + 1, by omega, by go_num, v2, H4.out.1, HJ2.out⟩
        · have HJ2 := hide (HR.out.stop HJ.out.2.2 HJ.out.2.1 he)
          have H5 := hide (H4.out.2 he)
          clear H4
          generalize hv : bdE (bfo S (bds fs) j) f.xs = z at *
          clear hv
          have f2 : (z != 0) = true := by simpa using he
          clear he
          go_wp2
          go_ret2
          exact ⟨v2, by rw [HJ2.out.1, HJ2.out.2]; rfl, by rw [HJ2.out.1]; exact H5.out.1, H5.out.2⟩
      · have hb := HBd.out j f hz
        have HJ2 := hide (HR.out.stop HJ.out.2.2 HJ.out.2.1 (by rw [hb]; exact hz))
        rw [hb] at HJ2
        have H5 := hide (H3.out.then (grown_alloc w3 (.cells (Rk.rcC (getR f.xs).1).toArray 47)))
        clear hb H3
        generalize hr : (getR f.xs).1 = r at *
        generalize hv : (getR f.xs).2 = z at *
        clear hr hv
        obtain ⟨rk, ri, rs, ru, rc⟩ := r
        unfold Rk.rcC at H5
        unfold Rk.rcV
        dsimp only at *
        have f2 : (z != 0) = true := by simpa using hz
        clear hz
        go_wp2
        go_ret2
        exact ⟨v', by rw [HJ2.out.1, HJ2.out.2]; rfl, by rw [HJ2.out.1]; exact H5.out.db, H5.out.st⟩
    · have hj : j = fs.length := by omega
      have HE := hide (HR.out.end_ HL.out.2 (by rw [hbl]; exact hj))
      subst hj
      go_wp2
      go_ret2
      exact ⟨v', by rw [HE.out.1, HE.out.2]; rfl, by rw [HE.out.1]; exact HL.out.1.db, HL.out.1.st⟩
end Go.Proofs.YtinkkocleognbaaGreatDoor
/- Frames that are lent: marks, LentFrames. -/
namespace Go.Proofs.YtinkkocleognbaaGreatDoor
open Go.RowKit Go.Shelf
attribute [local go_sem ↓] Go.wp_at_zero Go.wp_at_succ
attribute [local go_sem] Oper.semAt_some
/-- A frame in a row: epoch, number, its body as a value. -/
structure Lf where
  e : Int
  s : Int
  u : Value
def lfc (x : Lf) : List Value := [.int .u64 x.e, .int .u64 x.s, x.u]
def lfcs (L : List Lf) : List Value := L.flatMap lfc
theorem lfcs_cons (x : Lf) (L : List Lf) : lfcs (x :: L) = lfc x ++ lfcs L := by simp [lfcs]
theorem lfcs_append (L M : List Lf) : lfcs (L ++ M) = lfcs L ++ lfcs M := by simp [lfcs]
theorem lfcs_length (L : List Lf) : (lfcs L).length = L.length * 3 := by
  induction L with
  | nil => rfl
  | cons x L ih => rw [lfcs_cons, List.length_append, ih, List.length_cons]; simp [lfc]; omega
theorem lfcs_at {L : List Lf} {i : Nat} {x : Lf} (h : L[i]? = some x) {o : Nat} (ho : o < 3) : (lfcs L)[i * 3 + o]? = (lfc x)[o]? := by
  induction L generalizing i with
  | nil => simp at h
  | cons y L ih =>
    rw [lfcs_cons]
    cases i with
    | zero =>
      simp at h
      subst h
      rw [List.getElem?_append_left (by simp [lfc]; omega)]
      simp
    | succ i =>
      rw [List.getElem?_append_right (by simp [lfc]; omega), show (i + 1) * 3 + o - (lfc y).length = i * 3 + o by simp [lfc]; omega]
      exact ih (by simpa using h)
def LfOne (L : List Lf) : Prop := ∀ x ∈ L, x.u.oneCell' = true
theorem lfcs_one {L : List Lf} (h : LfOne L) : ∀ u ∈ lfcs L, u.oneCell' = true := by
  intro u hu
  simp only [lfcs, List.mem_flatMap] at hu
  obtain ⟨x, hx, hu⟩ := hu
  simp only [lfc, List.mem_cons, List.not_mem_nil, or_false] at hu
  rcases hu with rfl | rfl | rfl
  · rfl
  · rfl
  · exact h x hx
/-- The mark of a place among frames. -/
def mkFr (k : Int) (i : Nat) : Lf := ⟨0, mkI k i, .slice none 0 0⟩
def mkFs (k : Int) (j : Nat) : List Lf := (List.range j).map fun i => mkFr k i
theorem mkFs_length (k : Int) (j : Nat) : (mkFs k j).length = j := by simp [mkFs]
theorem mkFs_succ (k : Int) (j : Nat) : mkFs k (j + 1) = mkFs k j ++ [mkFr k j] := by simp [mkFs, List.range_succ]
theorem mkFs_get (k : Int) (j i : Nat) (h : i < j) : (mkFs k j)[i]? = some (mkFr k i) := by simp [mkFs, h]
theorem mk59_any (k : Int) (j : Nat) (i : Int) (hij : i = (j : Int)) (w : World) (hk0 : 0 ≤ k) (hk : k ≤ 1000) (hi : j ≤ 100000000) : Calls Tryz.prog 59 #[.int .i64 k, .int .i64 i] w fun e w' => e = .returned (.agg #[.int .u64 0, .int .u64 (mkI k j), .slice none 0 0]) ∧ w.grownBy w' none := by
  subst hij
  have q := mk81_any k (j : Int) (w.alloc (.cells #[.int .u64 0, .int .u64 0, .slice none 0 0] 41)) hk0 hk (by omega) (by omega)
  have HG := hide (grown_alloc w (.cells #[.int .u64 0, .int .u64 (mkI k j), .slice none 0 0] 41))
  have b := heap_alloc_new w (.cells [Value.int .u64 0, .int .u64 (mkI k j), .slice none 0 0].toArray 41)
  have e0 := cell_row b 0
  have e1 := cell_row b 1
  have e2 := cell_row b 2
  have W1 : IntKind.u64.wrap (mkI k (j : Int)) = mkI k (j : Int) := by rw [IntKind.wrap_u64]; unfold mkI; omega
  clear hk0 hk hi b
  generalize mkI k j = M at *
  go_enter Tryz.func59, Tryz.ntmps59
  go_wp2_with fail
  refine q.mono ?_
  clear q
  rintro e wx ⟨rfl, hw⟩
  obtain rfl := hw.symm
  clear hw
  go_wp2
  generalize w.alloc (.cells #[.int .u64 0, .int .u64 M, .slice none 0 0] 41) = w9 at *
  refine bodyPost_ret (v := .agg #[.int .u64 0, .int .u64 M, .slice none 0 0]) ?_ rfl ?_
  · rw [results_cell1 rfl]; go_simp
  exact ⟨rfl, HG.out⟩
theorem slice_toF (ao : Option Addr) (len cap n : Nat) (h : n ≤ cap) (w : World) : (Instr.slice 42 (.slice ao len cap) none (some (.int .i64 (n : Int))) none).run Tryz.prog w = .ok (.slice ao n cap) w := by
  simp [Instr.slice, run_underlying Tryz.underlying42, Instr.sliceBounds, Instr.sliceBound, asIntOf, h]
  intro _; cases ao <;> simp [Addr.add]
theorem make_capF (n : Nat) (h : n ≤ 65536) (w : World) : (Instr.makeSlice 42 (.int .i64 0) (.int .i64 ((n : Int) + 12))).run Tryz.prog w = .ok (.slice (some ⟨w.heap.size, 0, none⟩) 0 (n + 12)) (w.alloc (.cells (madeCells #[.int .u64 0, .int .u64 0, .slice none 0 0] ((n + 12) * 3)) 41)) := by
  obtain ⟨i0, hi, hz0, hz1, hz2⟩ := info_parts info41
  rw [run_make (P := Tryz.prog) (w := w) 42 41 i0 _ Tryz.underlying42 hi hz0 .i64 .i64 0 ((n : Int) + 12) (by omega) (by omega) (by rw [hz2]; omega) (by omega), hz1]
  have e : ((n : Int) + 12).toNat = n + 12 := by omega
  rw [e]
  rfl
/-- Frames lent so far: their row, their bodies. -/
structure LfS (w W : World) (v : Value) (fs : List Fm) (L : List Lf) : Prop where
  row : W.ownsRow w.heap.size 41 3 v L.length (lfcs L)
  gr : w.grownBy W none
  one : LfOne L
  bod : ∀ (i : Nat) f x, fs[i]? = some f → L[i]? = some x → x.e = f.e ∧ x.s = f.s ∧ Oc.LentAt W w.heap.size x.u f.xs
  lts : ∀ x ∈ L, ∀ b, x.u.ownBlock = some b → b < W.heap.size
  ap : ∀ (i k : Nat) x y b, i < k → L[i]? = some x → L[k]? = some y → x.u.ownBlock = some b → y.u.ownBlock ≠ some b
theorem LfS.then {w W W' : World} {v : Value} {fs : List Fm} {L : List Lf} (h : LfS w W v fs L) (g : W.grownBy W' none) : LfS w W' v fs L :=
  ⟨own_keep h.row g, grown_trans h.gr g, h.one, fun i f x hf hx => ⟨(h.bod i f x hf hx).1, (h.bod i f x hf hx).2.1, Oc.LentAt.grown (h.bod i f x hf hx).2.2 g⟩, fun x hx b e => Nat.lt_of_lt_of_le (h.lts x hx b e) g.size, h.ap⟩
/-- Behind an append of one frame more. -/
theorem LfS.push {w W W' : World} {v v' : Value} {fs : List Fm} {L : List Lf} {x : Lf} (h : LfS w W v fs L) (ho : W'.ownsRow w.heap.size 41 3 v' (L.length + 1) (lfcs (L ++ [x]))) (g : W.grownBy W' v.ownBlock) (h1 : x.u.oneCell' = true) (hb : ∀ f, fs[L.length]? = some f → x.e = f.e ∧ x.s = f.s ∧ Oc.LentAt W w.heap.size x.u f.xs) (hl : ∀ b, x.u.ownBlock = some b → b < W.heap.size ∧ ∀ y ∈ L, y.u.ownBlock ≠ some b) : LfS w W' v' fs (L ++ [x]) := by
  have hkeep : ∀ u xs, Oc.LentAt W w.heap.size u xs → Oc.LentAt W' w.heap.size u xs := by
    intro u xs hl
    cases hv : v.ownBlock with
    | none => rw [hv] at g; exact Oc.LentAt.grown hl g
    | some k =>
      rw [hv] at g
      obtain ⟨-, cur, hc⟩ := Ix.own_block h.row hv
      exact Oc.LentAt.kept hl g hc (by decide)
  refine ⟨by rw [List.length_append]; exact ho, grown_then h.gr g (fun j e => Or.inl (Ix.own_block h.row e).1), fun y hy => ?_, fun i f y hf hy => ?_, fun y hy b e => ?_, fun i k y z b hik hy hz e => ?_⟩
  · rcases List.mem_append.1 hy with hy | hy
    · exact h.one y hy
    · rw [List.mem_singleton.1 hy]; exact h1
  · by_cases hi : i < L.length
    · rw [List.getElem?_append_left hi] at hy
      obtain ⟨k1, k2, k3⟩ := h.bod i f y hf hy
      exact ⟨k1, k2, hkeep _ _ k3⟩
    · have hlt := (List.getElem?_eq_some_iff.1 hy).1
      have hi2 : i = L.length := by simp at hlt; omega
      subst hi2
      rw [List.getElem?_append_right (Nat.le_refl _), Nat.sub_self] at hy
      simp at hy
      subst hy
      obtain ⟨k1, k2, k3⟩ := hb f hf
      exact ⟨k1, k2, hkeep _ _ k3⟩
  · rcases List.mem_append.1 hy with hy | hy
    · exact Nat.lt_of_lt_of_le (h.lts y hy b e) g.size
    · rw [List.mem_singleton.1 hy] at e; exact Nat.lt_of_lt_of_le (hl b e).1 g.size
  · have hlt := (List.getElem?_eq_some_iff.1 hz).1
    rw [List.length_append, List.length_singleton] at hlt
    rw [List.getElem?_append_left (by omega)] at hy
    by_cases hk : k < L.length
    · rw [List.getElem?_append_left hk] at hz
      exact h.ap i k y z b hik hy hz e
    · rw [List.getElem?_append_right (by omega), show k - L.length = 0 by omega] at hz
      simp at hz
      subst hz
      intro e2
      exact (hl b e2).2 y (List.mem_of_getElem? hy) e
set_option maxRecDepth 20000 in
set_option maxHeartbeats 8000000 in
theorem lentFs_any {w : World} {FB : Nat → Prop} {bo : Option Addr} {cap : Nat} {fs : List Fm} {n : Nat} (hn : fs.length = n) (hF : FmsAt w FB bo fs) (hO : ∀ f ∈ fs, f.Ok ∧ (f.ao = none → f.n = 0 ∧ f.cap = 0) ∧ f.n ≤ 140737488355000) (hb : n ≤ 10000) : Calls Tryz.prog 28 #[.slice bo n cap] w fun e w' => ∃ g c L, e = .returned (.slice (some ⟨g, 0, none⟩) n c) ∧ L.length = n ∧ LfS w w' (.slice (some ⟨g, 0, none⟩) (n + 12) c) fs (L ++ mkFs 1 12) := by
  have HN := hide (And.intro hn hb)
  have hmk := make_capF n (by omega)
  have W1 : IntKind.i64.wrap ((n : Int) + 12) = (n : Int) + 12 := by rw [IntKind.wrap_i64]; omega
  obtain ⟨i0, hi0, hz0, hz1, hz2⟩ := info_parts info41
  have HI0 := hide (And.intro hi0 (And.intro hz0 (And.intro hz1 hz2)))
  have g1 := grown_alloc w (.cells (madeCells #[.int .u64 0, .int .u64 0, .slice none 0 0] ((n + 12) * 3)) 41)
  have H0 : Hid (LfS w (w.alloc (.cells (madeCells #[.int .u64 0, .int .u64 0, .slice none 0 0] ((n + 12) * 3)) 41)) (.slice (some ⟨w.heap.size, 0, none⟩) 0 (n + 12)) fs []) := ⟨⟨rfl, Or.inr ⟨w.heap.size, n + 12, _, rfl, Nat.le_refl _, heap_alloc_new w _, Nat.zero_le _, by unfold maxLen; omega, by simp [madeCells], by simp [lfcs]⟩⟩, g1, (fun x hx => by cases hx), (fun i f x _ hx => by simp at hx), (fun x hx => by cases hx), fun i k x y b _ hx => by simp at hx⟩
  have HF := hide (And.intro hF hO)
  have HLe : Hid (∀ (W : World) f, f ∈ fs → w.grownBy W none → Oc.At W f.ao f.xs → Calls Tryz.prog 58 #[.agg #[.int .u64 f.e, .int .u64 f.s, .slice f.ao f.n f.cap]] W fun r w' => ∃ u, r = .returned (.agg #[.int .u64 f.e, .int .u64 f.s, u]) ∧ Oc.LentAt w' W.heap.size u f.xs ∧ W.grownBy w' none) := fun W f hf g ha => by
    obtain ⟨k1, k2, k3⟩ := hO f hf
    refine (Oc.lentFr f.e f.s f.ao f.n f.cap f.xs W k1.len ha k2 k3).mono ?_
    rintro r w' ⟨u, rfl, h1, h2⟩
    exact ⟨u, rfl, h1, h2⟩
  clear hn hi0 hz0 hz1 hz2 g1 hF hO hb
  go_enter Tryz.func28, Tryz.ntmps28
  go_wp2
  generalize w.alloc (.cells (madeCells #[.int .u64 0, .int .u64 0, .slice none 0 0] ((n + 12) * 3)) 41) = w1 at *
  go_loopg [3, 4] n (fun k v i wr => ∃ (j : Nat) (L : List Lf), k + j = n ∧ i = .int .i64 (j : Int) ∧ L.length = j ∧ Hid (LfS w wr v fs L))
  case atStart => exact ⟨0, [], by omega, rfl, rfl, H0.out⟩
  case round =>
    obtain ⟨j, L, hkj, rfl, hL, HS⟩ := hrel
    by_cases hk : 0 < gk
    · have hj : j < fs.length := by rw [HN.out.1]; omega
      have h1 : (0 : Int) ≤ (j : Int) := by omega
      have h2 : (j : Int) < (n : Int) := by omega
      obtain ⟨f, hf⟩ : ∃ f, fs[j]? = some f := ⟨fs[j], List.getElem?_eq_getElem hj⟩
      obtain ⟨blk, off, rfl, -, x0, x1, x2, hat, -⟩ := (HF.out.1.then HS.out.gr) j f hf
      have q := HLe.out wr f (List.mem_of_getElem? hf) HS.out.gr hat
      have HFf := hide (And.intro hf (And.intro hL hj))
      have HGK := hide (And.intro hk hkj)
      obtain ⟨vo, vcap, hvo, -⟩ := Ix.own_form HS.out.row
      rw [hL] at hvo
      subst hvo
      obtain ⟨fe, fsq, fao, fn, fcap, fxs⟩ := f
      dsimp only at *
      clear hf hL hj hk hkj hat
      go_wp2_with fail
      refine q.mono ?_
      clear q
      rintro e w2 ⟨u, rfl, hl, hg2⟩
      have hl0 : Oc.LentAt w2 w.heap.size u fxs := Oc.LentAt.base hl HS.out.gr.size
      obtain ⟨gu, cu, rfl, hro⟩ := hl
      have HNw : Hid (wr.heap.size ≤ gu ∧ gu < w2.heap.size) := by
        obtain ⟨q1, cur, q2⟩ := Ix.own_block hro rfl
        exact ⟨q1, row_lt q2⟩
      have HLts := hide HS.out.lts
      have g3 := grown_trans (grown_alloc w2 (.cells [Value.int .u64 fe, .int .u64 fsq, .slice (some ⟨gu, 0, none⟩) fxs.length cu].toArray 41)) (grown_alloc (w2.alloc (.cells [Value.int .u64 fe, .int .u64 fsq, .slice (some ⟨gu, 0, none⟩) fxs.length cu].toArray 41)) (.cells [Value.int .u64 fe, .int .u64 fsq, .slice (some ⟨gu, 0, none⟩) fxs.length cu].toArray 41))
      have b4 := heap_alloc_new (w2.alloc (.cells [Value.int .u64 fe, .int .u64 fsq, .slice (some ⟨gu, 0, none⟩) fxs.length cu].toArray 41)) (.cells [Value.int .u64 fe, .int .u64 fsq, .slice (some ⟨gu, 0, none⟩) fxs.length cu].toArray 41)
      rw [show (w2.alloc (.cells [Value.int .u64 fe, .int .u64 fsq, .slice (some ⟨gu, 0, none⟩) fxs.length cu].toArray 41)).heap.size = w2.heap.size + 1 from by show (w2.heap.push _).size = _; simp] at b4
      have HG3 := hide g3
      have HS3 := hide ((HS.out.then hg2).then g3)
      have HL3 := hide (Oc.LentAt.grown hl0 g3)
      have HRow : Hid (((w2.alloc (.cells [Value.int .u64 fe, .int .u64 fsq, .slice (some ⟨gu, 0, none⟩) fxs.length cu].toArray 41)).alloc (.cells [Value.int .u64 fe, .int .u64 fsq, .slice (some ⟨gu, 0, none⟩) fxs.length cu].toArray 41)).ownsRow w.heap.size 41 3 (.slice vo j vcap) j (lfcs L)) := by
        have := HS3.out.row
        rw [HFf.out.2.1] at this
        exact this
      have HCl : Hid (∀ (z : Nat) (y : Value), (lfcs [⟨fe, fsq, .slice (some ⟨gu, 0, none⟩) fxs.length cu⟩])[z]? = some y → ((w2.alloc (.cells [Value.int .u64 fe, .int .u64 fsq, .slice (some ⟨gu, 0, none⟩) fxs.length cu].toArray 41)).alloc (.cells [Value.int .u64 fe, .int .u64 fsq, .slice (some ⟨gu, 0, none⟩) fxs.length cu].toArray 41)).cell? (Addr.add ⟨w2.heap.size + 1, 0, none⟩ z) = some y) := fun z y hz => by
        rw [Addr.add_lit, Nat.zero_add, cell_row b4]
        exact hz
      have HSz : Hid (w.heap.size ≤ ((w2.alloc (.cells [Value.int .u64 fe, .int .u64 fsq, .slice (some ⟨gu, 0, none⟩) fxs.length cu].toArray 41)).alloc (.cells [Value.int .u64 fe, .int .u64 fsq, .slice (some ⟨gu, 0, none⟩) fxs.length cu].toArray 41)).heap.size) := HS3.out.gr.size
      have HB : Hid (n ≤ 10000 ∧ j < n) := ⟨HN.out.2, by have := HFf.out.2.2; have := HN.out.1; omega⟩
      clear hg2 hl0 hro g3 b4 x0 x1 x2
      go_wp2_with (at_builtin; refine wpList_append_own _ rfl (.tmp 22) (.tmp 24) 42 rfl w.heap.size 41 i0 (.agg #[.int .u64 0, .int .u64 0, .slice none 0 0]) 3 40 Tryz.underlying42 HI0.out.1 HI0.out.2.1 HI0.out.2.2.1 HI0.out.2.2.2 rfl (by decide) (.slice vo j vcap) j (lfcs L) rfl HRow.out ⟨w2.heap.size + 1, 0, none⟩ 1 1 (lfcs [⟨fe, fsq, .slice (some ⟨gu, 0, none⟩) fxs.length cu⟩]) rfl rfl HCl.out (lfcs_one (fun x hx => by rw [List.mem_singleton.1 hx]; rfl)) (by unfold maxLen; have := HB.out; omega) (by have := HB.out; omega) HSz.out ?_)
      intro v4 w4 ho4 hg4 hv4
      clear hv4
      have HZ : Hid (LfS w w4 v4 fs (L ++ [⟨fe, fsq, .slice (some ⟨gu, 0, none⟩) fxs.length cu⟩])) := by
        refine HS3.out.push (x := ⟨fe, fsq, .slice (some ⟨gu, 0, none⟩) fxs.length cu⟩) ?_ hg4 rfl (fun f hf => ?_) (fun b e => ?_)
        · rw [lfcs_append, HFf.out.2.1]; exact ho4
        · rw [HFf.out.2.1, HFf.out.1] at hf
          cases hf
          exact ⟨rfl, rfl, HL3.out⟩
        · simp only [Value.ownBlock] at e
          cases e
          refine ⟨Nat.lt_of_lt_of_le HNw.out.2 HG3.out.size, fun y hy e2 => ?_⟩
          have h5 := HLts.out y hy _ e2
          have h6 := HNw.out.1
          omega
      clear ho4 hg4 HS3 HL3 HRow HCl HSz
      have hjb : j < 65536 := by have := HB.out; omega
      go_wp2
      go_roundg (gk - 1)
      case measure => have := HGK.out; omega
      case rel => exact ⟨j + 1, _, by have := HGK.out; omega, by go_num, by simp [HFf.out.2.1], HZ.out⟩
    · have hjn : j = n := by omega
      subst hjn
      have HS1 := hide HS.out
      have hLn := hL
      have HLn := hide hLn
      clear HF HLe HS H0 hkj hk hmk W1 hL hLn
      obtain ⟨vo, vcap, hvo, -⟩ := Ix.own_form HS1.out.row
      rw [HLn.out] at hvo
      subst hvo
      go_wp2
      go_loopg [3, 6] 12 (fun k v i wr => ∃ t : Nat, k + t = 12 ∧ i = .int .i64 (t : Int) ∧ Hid (LfS w wr v fs (L ++ mkFs 1 t)))
      case atStart => exact ⟨0, rfl, rfl, by unfold Hid; simpa [mkFs] using HS1.out⟩
      case round =>
        clear HS1
        obtain ⟨t, hkt, rfl, HS⟩ := hrel
        by_cases hk : 0 < gk
        · have HGK := hide (And.intro hk hkt)
          have hlen : (L ++ mkFs 1 t).length = j + t := by rw [List.length_append, mkFs_length, HLn.out]
          have HLt := hide hlen
          obtain ⟨vo, vcap, hvo, -⟩ := Ix.own_form HS.out.row
          rw [hlen] at hvo
          subst hvo
          have qm := mk59_any 1 t (t : Int) rfl wr (by decide) (by decide) (by omega)
          have ht12 : (t : Int) < 12 := by omega
          clear hlen hk hkt
          go_wp2_with fail
          refine qm.mono ?_
          clear qm
          rintro e w2 ⟨rfl, hg2⟩
          have ga := grown_alloc w2 (.cells #[.int .u64 0, .int .u64 (mkI 1 (t : Int)), .slice none 0 0] 41)
          have HS3 := hide ((HS.out.then hg2).then ga)
          have HRow : Hid ((w2.alloc (.cells #[.int .u64 0, .int .u64 (mkI 1 (t : Int)), .slice none 0 0] 41)).ownsRow w.heap.size 41 3 (.slice vo (j + t) vcap) (j + t) (lfcs (L ++ mkFs 1 t))) := by
            have := HS3.out.row
            rw [HLt.out] at this
            exact this
          have HCl : Hid (∀ (x : Nat) (u : Value), (lfcs [mkFr 1 t])[x]? = some u → (w2.alloc (.cells #[.int .u64 0, .int .u64 (mkI 1 (t : Int)), .slice none 0 0] 41)).cell? (Addr.add ⟨w2.heap.size, 0, none⟩ x) = some u) := fun x u hx => by
            rw [Addr.add_lit, Nat.zero_add, cell_row (heap_alloc_new w2 (.cells [Value.int .u64 0, .int .u64 (mkI 1 (t : Int)), .slice none 0 0].toArray 41))]
            exact hx
          have HSz : Hid (w.heap.size ≤ (w2.alloc (.cells #[.int .u64 0, .int .u64 (mkI 1 (t : Int)), .slice none 0 0] 41)).heap.size) := HS3.out.gr.size
          have HB : Hid (j ≤ 10000 ∧ t < 12) := ⟨HN.out.2, by have := HGK.out; omega⟩
          clear hg2 ga HS
          go_wp2_with (at_builtin; refine wpList_append_own _ rfl (.tmp 30) (.tmp 33) 42 rfl w.heap.size 41 i0 (.agg #[.int .u64 0, .int .u64 0, .slice none 0 0]) 3 40 Tryz.underlying42 HI0.out.1 HI0.out.2.1 HI0.out.2.2.1 HI0.out.2.2.2 rfl (by decide) (.slice vo (j + t) vcap) (j + t) (lfcs (L ++ mkFs 1 t)) rfl HRow.out ⟨w2.heap.size, 0, none⟩ 1 1 (lfcs [mkFr 1 t]) rfl rfl HCl.out (lfcs_one (fun x hx => by rw [List.mem_singleton.1 hx]; rfl)) (by unfold maxLen; have := HB.out; omega) (by have := HB.out; omega) HSz.out ?_)
          intro v4 w4 ho4 hg4 hv4
          clear hv4
          have HZ : Hid (LfS w w4 v4 fs (L ++ mkFs 1 (t + 1))) := by
            rw [mkFs_succ, ← List.append_assoc]
            refine HS3.out.push (x := mkFr 1 t) ?_ hg4 rfl (fun f hf => ?_) (fun b e => by simp [mkFr, Value.ownBlock] at e)
            · rw [lfcs_append, HLt.out]; exact ho4
            · have := (List.getElem?_eq_some_iff.1 hf).1
              have h7 := HLt.out
              have h8 := HN.out.1
              omega
          clear ho4 hg4 HS3 HRow HCl HSz
          go_wp2
          go_roundg (gk - 1)
          case measure => have := HGK.out; omega
          case rel => exact ⟨t + 1, by have := HGK.out; omega, by have := HGK.out; go_num, HZ.out⟩
        · obtain rfl : t = 12 := by omega
          have hlen : (L ++ mkFs 1 12).length = j + 12 := by rw [List.length_append, mkFs_length, HLn.out]
          have hown := HS.out.row
          rw [hlen] at hown
          obtain ⟨g, c, cur, rfl, -⟩ := Ix.own_row hown (by omega)
          have hle : j + 12 ≤ c := by obtain ⟨vo, cc, e, h⟩ := Ix.own_form hown; cases e; exact h
          have hst := slice_toF (some ⟨g, 0, none⟩) (j + 12) c j (by omega)
          have HZ := hide HS.out
          clear HS hown hlen hle hkt hk
          go_wp2
          go_ret
          exact ⟨g, c, L, rfl, HLn.out, HZ.out⟩
end Go.Proofs.YtinkkocleognbaaGreatDoor
