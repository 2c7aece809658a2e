/- Texts joined: Sl9, SlN, SlL0. -/
import Derived.Test.YtonokaelbpfjnabGreatDoorJkAk
import Derived.Test.YtonokaelbpfjnabGreatDoorJkAj
/- What both headers say. -/
namespace Go.Proofs.YtonokaelbpfjnabGreatDoor
open Go.RowKit Ap
attribute [local go_sem ↓] Go.wp_at_zero Go.wp_at_succ
def intz (xs : List Nat) : List Int := xs.map fun (x : Nat) => (x : Int)
theorem intz_length (xs : List Nat) : (intz xs).length = xs.length := by simp [intz]
theorem intz_byt {xs : List Nat} (h : Bytes xs) : Fm.Byt (intz xs) := by
  intro x hx
  obtain ⟨y, hy, rfl⟩ := List.mem_map.1 hx
  have := h y hy
  omega
theorem bv_intz (xs : List Nat) : (intz xs).map (Value.int .u8) = bv xs := by simp [intz, bv, Function.comp_def]
theorem pcn_one (size : Nat) (h : 1 ≤ size) : pcn size 0 size = 1 := by
  unfold pcn
  rw [if_neg (by omega), Nat.zero_add, Nat.zero_div, Nat.div_eq_of_lt (by omega)]
/-- The header that a slot's first sector tells of. -/
def hx (size : Nat) (D : List Nat) (A : List Pr) (F : Nat) : Fm.Hd × Int := Fm.readH (intz (bytesAt (now size D A) (F * size + 0) size))
/-- What a slot's header says, if it is whole and its body could be there. -/
def acc (size C : Nat) (D : List Nat) (A : List Pr) (F : Nat) (a : Int) : List (Fm.Hd × Int) := if (hx size D A F).2 = 0 ∧ (hx size D A F).1.n ≤ (((C - 1) * size : Nat) : Int) then [((hx size D A F).1, a)] else []
def cells5 (L : List (Fm.Hd × Int)) : List Value := L.flatMap fun p => clC p.1 p.2
/-- At a round. -/
structure ClS (w0 w wr : World) (n size b : Nat) (s : Dv) (k : Dk) (D : List Nat) (W : List Wt) (v : Value) (L : List (Fm.Hd × Int)) : Prop where
  dev : Dev w0 wr n size b s k D W
  kept : Kept w wr (fun i => k.own i ∨ i = b)
  row : wr.ownsRow w.heap.size 87 5 v L.length (cells5 L)
/-- The newest first; of like ones the first stays ahead. -/
def srt : List (Fm.Hd × Int) → List (Fm.Hd × Int)
  | [p, q] => if p.1.g < q.1.g then [q, p] else [p, q]
  | L => L
theorem cells5_get : ∀ (L : List (Fm.Hd × Int)) (j : Nat) (p : Fm.Hd × Int), L[j]? = some p → ∀ (i : Nat) (v : Value), (clC p.1 p.2)[i]? = some v → (cells5 L)[j * 5 + i]? = some v
  | [], j, p, h, _, _, _ => by simp at h
  | x :: L, 0, p, h, i, v, hv => by
    simp at h
    subst h
    have hi : i < 5 := by have := (List.getElem?_eq_some_iff.1 hv).1; simpa [clC] using this
    show (clC x.1 x.2 ++ cells5 L)[0 * 5 + i]? = some v
    rw [List.getElem?_append_left (by simp [clC]; omega), Nat.zero_mul, Nat.zero_add]
    exact hv
  | x :: L, j + 1, p, h, i, v, hv => by
    have h' : L[j]? = some p := by simpa using h
    show (clC x.1 x.2 ++ cells5 L)[(j + 1) * 5 + i]? = some v
    rw [List.getElem?_append_right (by simp [clC]; omega), show (j + 1) * 5 + i - (clC x.1 x.2).length = j * 5 + i by simp [clC]; omega]
    exact cells5_get L j p h' i v hv
theorem cs_row {w : World} {B : Nat} {v : Value} {L : List (Fm.Hd × Int)} (h : w.ownsRow B 87 5 v L.length (cells5 L)) (hl : 0 < L.length) : ∃ g cap, ∃ cur : List Value, v = .slice (some ⟨g, 0, none⟩) L.length cap ∧ B ≤ g ∧ w.heap[g]? = some (.cells cur.toArray 87 (0, 0)) ∧ L.length ≤ cap ∧ CsAt w g L := by
  rcases h.2 with ⟨_, h0⟩ | ⟨g, cap, cur, hv, hb, hg, hn, hm, hs, ht⟩
  · omega
  · refine ⟨g, cap, cur.toList, hv, hb, by simpa using hg, hn, ?_⟩
    intro j p hj i u hu
    have h1 := cells5_get L j p hj i u hu
    have hg' : w.heap[g]? = some (.cells cur.toList.toArray 87 (0, 0)) := by simpa using hg
    rw [cell_row hg']
    rw [← ht, List.getElem?_take] at h1
    split at h1
    · exact h1
    · cases h1
/-- What claims leaves. -/
def ClPost (w0 w : World) (n size b Fa Fb C : Nat) (s : Dv) (k : Dk) (D : List Nat) (W : List Wt) (e : Ending) (w' : World) : Prop :=
      ((rgo 1 s).1 ≠ 0 ∧ e = .returned (.tuple #[.slice none 0 0, .int .i64 (rgo 1 s).1]) ∧ Dev w0 w' n size b (rgo 1 s).2 k D W ∧ Kept w w' (fun i => k.own i ∨ i = b)) ∨
      ((rgo 1 s).1 = 0 ∧ (rgo 1 (rgo 1 s).2).1 ≠ 0 ∧ e = .returned (.tuple #[.slice none 0 0, .int .i64 (rgo 1 (rgo 1 s).2).1]) ∧ Dev w0 w' n size b (rgo 1 (rgo 1 s).2).2 k D W ∧ Kept w w' (fun i => k.own i ∨ i = b)) ∨
      ((rgo 1 s).1 = 0 ∧ (rgo 1 (rgo 1 s).2).1 = 0 ∧ Dev w0 w' n size b (rgo 1 (rgo 1 s).2).2 k D W ∧ Kept w w' (fun i => k.own i ∨ i = b) ∧ ∃ so cap, e = .returned (.tuple #[.slice so (acc size C D (abs W) Fa 0 ++ acc size C D (abs W) Fb 1).length cap, .int .i64 0]) ∧ (0 < (acc size C D (abs W) Fa 0 ++ acc size C D (abs W) Fb 1).length → ∃ g, so = some ⟨g, 0, none⟩ ∧ w.heap.size ≤ g ∧ CsAt w' g (srt (acc size C D (abs W) Fa 0 ++ acc size C D (abs W) Fb 1))))
theorem RgAt.keptD {w0 w w' : World} {n size b r F C : Nat} {s : Dv} {k : Dk} {D : List Nat} {W : List Wt} (hr : RgAt w r b F C) (h : Dev w0 w n size b s k D W) (hk : Kept w w' (fun i => k.own i ∨ i = b)) : RgAt w' r b F C := by
  have h1 := h.far hr.head (by decide) (by decide) (by decide) (by decide)
  exact ⟨hk.at hr.head (fun e => e.elim h1.1 h1.2)⟩
theorem SlAt.keptD {w0 w w' : World} {n size b sl ra rb : Nat} {s : Dv} {k : Dk} {D : List Nat} {W : List Wt} (hl : SlAt w sl ra rb) (h : Dev w0 w n size b s k D W) (hk : Kept w w' (fun i => k.own i ∨ i = b)) : SlAt w' sl ra rb := by
  have h1 := h.far hl.head (by decide) (by decide) (by decide) (by decide)
  exact ⟨hk.at hl.head (fun e => e.elim h1.1 h1.2)⟩
theorem infoCL : (Tryz.prog.info? 87).map (fun i => (i.zero, i.size, i.bytes)) = some (some (.agg #[.int .u64 0, .int .u64 0, .int .i64 0, .int .u32 0, .int .i64 0]), 5, 40) := by kernel_rfl
theorem cell5_new (w : World) (a b c d e : Value) (t : TypeId) : ∀ j x, [a, b, c, d, e][j]? = some x → (w.alloc (.cells #[a, b, c, d, e] t)).cell? ((⟨w.heap.size, 0, none⟩ : Addr).add j) = some x := by
  intro j x hx
  have hb : (w.alloc (.cells #[a, b, c, d, e] t)).heap[w.heap.size]? = some (.cells [a, b, c, d, e].toArray t (0, 0)) := heap_alloc_new w _
  rw [Addr.add_lit, Nat.zero_add, cell_row hb]
  exact hx
theorem rgo_one (s : Dv) : (rgo 1 s).2 = s.next := by unfold rgo; split <;> rfl
theorem acc_length (size C : Nat) (D : List Nat) (A : List Pr) (F : Nat) (a : Int) : (acc size C D A F a).length ≤ 1 := by unfold acc; split <;> simp
theorem ClS.form {w0 w wr : World} {n size b : Nat} {s : Dv} {k : Dk} {D : List Nat} {W : List Wt} {v : Value} {L : List (Fm.Hd × Int)} (i : ClS w0 w wr n size b s k D W v L) : ∃ vo vcap, v = .slice vo L.length vcap := by
  obtain ⟨vo, cap, e, _⟩ := own_form i.row
  exact ⟨vo, cap, e⟩
theorem ClS.blk {w0 w wr : World} {n size b : Nat} {s : Dv} {k : Dk} {D : List Nat} {W : List Wt} {v : Value} {L : List (Fm.Hd × Int)} (i : ClS w0 w wr n size b s k D W v L) {g : Nat} (hg : v.ownBlock = some g) : w.heap.size ≤ g ∧ ¬ foot k W g ∧ g ≠ b ∧ g < wr.heap.size := by
  rcases i.row.2 with ⟨rfl, _⟩ | ⟨q, cap, cur, rfl, h1, h2, _⟩
  · cases hg
  · cases hg
    have hf := i.dev.far h2 (by decide) (by decide) (by decide) (by decide)
    refine ⟨h1, ?_, hf.2, row_lt h2⟩
    rintro (e | ⟨x, hx, e⟩)
    · exact hf.1 e
    · have h3 := (i.dev.disk.disk.waits x hx).2.2.2
      rw [e, h2] at h3
      simp at h3
theorem ClS.then {w0 w wr w' : World} {n size b : Nat} {s : Dv} {k : Dk} {D : List Nat} {W : List Wt} {v : Value} {L : List (Fm.Hd × Int)} (i : ClS w0 w wr n size b s k D W v L) (hg : wr.grownBy w' none) : ClS w0 w w' n size b s k D W v L :=
  ⟨i.dev.then hg, i.kept.trans (Kept.new hg _) (fun _ _ e => e), owns_off i.row (Kept.new hg (fun _ => False)) (fun _ _ e => e)⟩
theorem ClS.read {w0 w wr w' : World} {n size b m M : Nat} {s : Dv} {k : Dk} {D : List Nat} {W : List Wt} {v u : Value} {L : List (Fm.Hd × Int)} {xs : List Nat} {c : Int} (i : ClS w0 w wr n size b s k D W v L) (p : ReadP w0 wr w' n size b s k D W m M xs u c) : ClS w0 w w' n size b (rgo M s).2 k D W v L :=
  ⟨p.dev, i.kept.trans p.kept (fun _ _ e => e), owns_off i.row p.kept (fun g hg e => by
    obtain ⟨_, h2, h3, _⟩ := i.blk hg
    exact e.elim (fun e => h2 (.inl e)) h3)⟩
theorem ClS.push {w0 w wr w' : World} {n size b : Nat} {s : Dv} {k : Dk} {D : List Nat} {W : List Wt} {v v' : Value} {L : List (Fm.Hd × Int)} {h : Fm.Hd} {a : Int} {ob : Obj} (i : ClS w0 w wr n size b s k D W v L) (hw : w0.heap.size ≤ w.heap.size) (ho : w'.ownsRow w.heap.size 87 5 v' (L.length + 1) (cells5 L ++ clC h a)) (hg : (wr.alloc ob).grownBy w' v.ownBlock) : ClS w0 w w' n size b s k D W v' (L ++ [(h, a)]) := by
  have ga := World.grownBy_alloc wr ob none
  have i1 := i.then ga
  have hr : w'.ownsRow w.heap.size 87 5 v' (L ++ [(h, a)]).length (cells5 (L ++ [(h, a)])) := by
    rw [List.length_append]
    unfold cells5 at ho ⊢
    rw [List.flatMap_append]
    simpa using ho
  have hk : Kept (wr.alloc ob) w' (fun j => v.ownBlock = some j) := Kept.of hg (fun j e _ => e)
  refine ⟨?_, i1.kept.trans hk (fun j hj e => by have := (i.blk e).1; omega), hr⟩
  cases hv : v.ownBlock with
  | none => rw [hv] at hg; exact i1.dev.then hg
  | some g =>
    rw [hv] at hg
    obtain ⟨h1, h2, h3, _⟩ := i.blk hv
    exact i1.dev.row hg h2 h3 (by omega)
/-- Behind the sort. -/
structure SrP (w0 w w' : World) (n size b : Nat) (s : Dv) (k : Dk) (D : List Nat) (W : List Wt) (so : Option Addr) (L : List (Fm.Hd × Int)) : Prop where
  dev : Dev w0 w' n size b s k D W
  kept : Kept w w' (fun i => k.own i ∨ i = b)
  cs : 0 < L.length → ∃ g, so = some ⟨g, 0, none⟩ ∧ w.heap.size ≤ g ∧ CsAt w' g (srt L)
theorem ClS.sort {w0 w wr : World} {n size b cap : Nat} {s : Dv} {k : Dk} {D : List Nat} {W : List Wt} {so : Option Addr} {L : List (Fm.Hd × Int)} (i : ClS w0 w wr n size b s k D W (.slice so L.length cap) L) (hw : w0.heap.size ≤ w.heap.size) (hl : L.length ≤ 2) :
    Calls Tryz.prog 52 #[.slice so L.length cap, .func (.func 53) #[] #[]] wr fun e w' => e = .returned (.tuple #[]) ∧ SrP w0 w w' n size b s k D W so L := by
  refine sort_of so L.length cap wr hl _ _ ?_
  match L, i, hl with
  | [], i, _ =>
    refine (ins_few so 0 cap wr (by omega) _).mono ?_
    rintro e w' ⟨rfl, hw'⟩
    obtain rfl := hw'.symm
    exact ⟨rfl, i.dev, i.kept, fun e => by simp at e⟩
  | [p], i, _ =>
    refine (ins_few so 1 cap wr (by omega) _).mono ?_
    rintro e w' ⟨rfl, hw'⟩
    obtain rfl := hw'.symm
    refine ⟨rfl, i.dev, i.kept, fun _ => ?_⟩
    obtain ⟨g, c2, cur, hv, h1, h2, h3, h4⟩ := cs_row i.row (by simp)
    cases hv
    exact ⟨g, rfl, h1, h4⟩
  | [p, q], i, _ =>
    obtain ⟨g, c2, cur, hv, h1, h2, h3, h4⟩ := cs_row i.row (by simp)
    have hbk := i.blk (g := g) (by rw [hv]; rfl)
    cases hv
    refine (ins_two g cap wr p.1 q.1 p.2 q.2 h4 cur h2 h3).mono ?_
    rintro e w' ⟨rfl, g8, _, c8⟩
    refine ⟨rfl, i.dev.row g8 hbk.2.1 hbk.2.2.1 (by omega), i.kept.trans (Kept.of (S := fun j => j = g) g8 (fun j e _ => (Option.some.inj e).symm)) (fun j hj e => by omega), fun _ => ⟨g, rfl, h1, ?_⟩⟩
    unfold srt
    exact c8
  | p :: q :: x :: L, i, hl => simp at hl
section
variable {w0 w w' wr : World} {n size b sl ra rb Fa Fb C : Nat} {s : Dv} {k : Dk} {D : List Nat} {W : List Wt}
set_option maxRecDepth 20000 in
set_option maxHeartbeats 16000000 in
theorem claims_at (hl : SlAt w sl ra rb) (h : Dev w0 w n size b s k D W) (ha : RgAt w ra b Fa C) (hb : RgAt w rb b Fb C) (hFa : Fa + C ≤ n) (hFb : Fb + C ≤ n) (hC : 1 ≤ C) (hC2 : C ≤ 65536) (hs32 : 32 ≤ size) (hs : size ≤ 4096) (hcnt : s.cnt ≤ 90000) (hT : Fm.Cr.Tab w0) (hB : Bytes (now size D (abs W))) :
    Calls Tryz.prog 30 #[.pointer (some ⟨sl, 0, none⟩)] w fun e w' => ClPost w0 w n size b Fa Fb C s k D W e w' := by
  have HI := hide (And.intro hl (And.intro h (And.intro ha (And.intro hb (And.intro hT hB)))))
  obtain ⟨c0, c1⟩ := hl.cells
  clear hl h ha hb hT hB
  have i0 : ∀ w, (Instr.index 78 (.agg #[.pointer (some ⟨ra, 0, none⟩), .pointer (some ⟨rb, 0, none⟩)]) (.int .i64 0)).run Tryz.prog w = .ok (.agg #[.pointer (some ⟨ra, 0, none⟩)]) w := fun _ => by kernel_rfl
  have i1 : ∀ w, (Instr.index 78 (.agg #[.pointer (some ⟨ra, 0, none⟩), .pointer (some ⟨rb, 0, none⟩)]) (.int .i64 1)).run Tryz.prog w = .ok (.agg #[.pointer (some ⟨rb, 0, none⟩)]) w := fun _ => by kernel_rfl
  go_enter Tryz.func30, Tryz.ntmps30
  go_wp2
  go_loopg [4, 15] 2 (fun q v i wr => (q = 2 ∧ i = .int .i64 0 ∧ v = .slice none 0 0 ∧ wr = w) ∨ (q = 1 ∧ i = .int .i64 1 ∧ (rgo 1 s).1 = 0 ∧ Hid (ClS w0 w wr n size b (rgo 1 s).2 k D W v (acc size C D (abs W) Fa 0))) ∨ (q = 0 ∧ i = .int .i64 2 ∧ (rgo 1 s).1 = 0 ∧ (rgo 1 (rgo 1 s).2).1 = 0 ∧ Hid (ClS w0 w wr n size b (rgo 1 (rgo 1 s).2).2 k D W v (acc size C D (abs W) Fa 0 ++ acc size C D (abs W) Fb 1))))
  case atStart => exact .inl ⟨rfl, rfl, rfl, rfl⟩
  case round =>
    rcases hrel with ⟨rfl, rfl, rfl, hwr⟩ | ⟨rfl, rfl, hz1, HQ⟩ | ⟨rfl, rfl, hz1, hz2, HQ⟩
    · obtain rfl := hwr.symm
      have I : Hid (ClS w0 w w n size b s k D W (.slice none 0 0) []) := ⟨HI.out.2.1, Kept.refl _ _, World.ownsRow_nil _ _ _ _⟩
      have hct : s.cnt ≤ 90000 := hcnt
      have gA := World.grownBy_alloc w (.cells #[.pointer (some ⟨ra, 0, none⟩)] 77) none
      have bA : (w.alloc (.cells #[.pointer (some ⟨ra, 0, none⟩)] 77)).heap[w.heap.size]? = some (.cells [Value.pointer (some ⟨ra, 0, none⟩)].toArray 77 (0, 0)) := heap_alloc_new w _
      generalize hwA : w.alloc (.cells #[.pointer (some ⟨ra, 0, none⟩)] 77) = wA at *
      have hzA : w.heap.size < wA.heap.size := row_lt bA
      have HWA := hide hwA
      have cA : wA.cell? ⟨w.heap.size, 0, none⟩ = some (.pointer (some ⟨ra, 0, none⟩)) := cell_row bA 0
      have hnX := new_off I.out.dev (Nat.le_refl w.heap.size)
      have HA := hide (And.intro gA hnX)
      have hrg : RgAt wA ra b Fa C := (HI.out.2.2.1.keptD HI.out.2.1 I.out.kept).grown gA
      have HRG := hide hrg
      have HSz := hide (gSize_at ((I.out.dev.then gA).then (grown_drew wA none)) (hrg.grown (grown_drew wA none)))
      have HRd : Hid (∀ w3 : World, wA.grownBy w3 none → Calls Tryz.prog 50 #[.pointer (some ⟨ra, 0, none⟩), .int .i64 0, .int .i64 (size : Int)] w3 fun e w' => ∃ v c, e = .returned (.tuple #[v, .int .i64 c]) ∧ ReadP w0 w3 w' n size b s k D W size 1 (bytesAt (now size D (abs W)) (Fa * size + 0) size) v c) := by
        intro w3 hg
        have q := gRead_at ((I.out.dev.then gA).then hg) (hrg.grown hg) (by omega) 0 size (by rw [Nat.zero_add]; exact Nat.le_mul_of_pos_left _ hC) (by rw [pcn_one size (by omega)]; omega)
        rw [pcn_one size (by omega)] at q
        exact q
      have hBx : Bytes (bytesAt (now size D (abs W)) (Fa * size + 0) size) := fun x hx => HI.out.2.2.2.2.2 x (List.mem_of_mem_drop (List.mem_of_mem_take hx))
      have HBx := hide hBx
      have HHX : Hid (hx size D (abs W) Fa = Fm.readH (intz (bytesAt (now size D (abs W)) (Fa * size + 0) size))) := rfl
      clear gA bA hwA hnX hrg hBx
      go_wp2_with fail
      rw [HWA.out]
      generalize bytesAt (now size D (abs W)) (Fa * size + 0) size = XS at *
      generalize hX6 : w.heap.size = X at *
      go_region_held3 (fun w6 => w6.cell? ⟨X, 0, none⟩ = some (.pointer (some ⟨ra, 0, none⟩))) (first | assumption | exact (grown_drew wA none).cell cA (by simp)) ((first | (go_at_call 45; refine HSz.out.mono ?_; rintro e3 w6 ⟨rfl, hw6⟩; obtain rfl := hw6.symm; have hk3 := (grown_drew wA none).cell cA (by simp)) | (go_at_call 50; refine (HRd.out _ (grown_drew wA none)).mono ?_; rintro e4 w4 ⟨v4, c4, rfl, p4⟩; have hk4 := cell_kept ((Kept.new (grown_drew wA none) _).trans p4.kept (fun i _ e => e)) cA HA.out.2; have HK4 := hide ((Kept.new (grown_drew wA none) (fun i => k.own i ∨ i = b)).trans p4.kept (fun i _ e => e)); have P4 := hide (ReadP.pre (grown_trans HA.out.1 (grown_drew wA none)) p4); clear p4)))
      clear HSz HRd hk3 cA HWA
      by_cases hc : c4 = 0
      · subst hc
        obtain ⟨g4, hv4, hg4, hb4, hl4⟩ := P4.out.ok rfl
        subst hv4
        have hat4 : Fm.At w4 (some ⟨g4, 0, none⟩) (intz XS) := Fm.at_row (by rw [bv_intz]; exact hb4)
        have hrd := Fm.read_any (intz XS) (intz_byt HBx.out) (some ⟨g4, 0, none⟩) size size w4 (by rw [intz_length]; exact hl4) hat4 (fun e => by cases e) (Nat.le_refl _) (by omega) (HI.out.2.2.2.2.1.grown P4.out.dev.disk.grown)
        rw [← HHX.out] at hrd
        clear hb4 hat4 hg4 hl4
        unfold Fm.hdV at hrd
        obtain ⟨hh, hhe⟩ : ∃ hh, hh = hx size D (abs W) Fa := ⟨_, rfl⟩
        rw [← hhe] at hrd
        have HHE := hide hhe
        clear hhe HHX
        go_wp2_with fail
        refine hrd.mono ?_
        clear hrd
        rintro e w5 ⟨rfl, g5⟩
        have gB := World.grownBy_alloc w5 (.cells #[.int .u64 hh.1.g, .int .u64 hh.1.c, .int .i64 hh.1.n, .int .u32 hh.1.s] 25) none
        have bB : (w5.alloc (.cells #[.int .u64 hh.1.g, .int .u64 hh.1.c, .int .i64 hh.1.n, .int .u32 hh.1.s] 25)).heap[w5.heap.size]? = some (.cells (Fm.hdC hh.1).toArray 25 (0, 0)) := heap_alloc_new w5 _
        generalize hwB : w5.alloc (.cells #[.int .u64 hh.1.g, .int .u64 hh.1.c, .int .i64 hh.1.n, .int .u32 hh.1.s] 25) = wB at *
        have HWB := hide hwB
        have g45 := grown_trans g5 gB
        have P5 := hide (P4.out.then g45)
        have cX := g45.cell hk4 (by simp)
        have HBB := hide (And.intro bB g45)
        obtain ⟨d0, d1, d2, d3⟩ := Fm.box4 bB
        have HRm : Hid (∀ w3 : World, wB.grownBy w3 none → Calls Tryz.prog 29 #[.agg #[.pointer (some ⟨ra, 0, none⟩)]] w3 fun e w' => e = .returned (.int .i64 (((C - 1) * size : Nat) : Int)) ∧ w3.grownBy w' none) := by
          intro w3 hg
          exact room_at (P5.out.dev.then hg) ((((HRG.out.keptD (I.out.dev.then HA.out.1) ((Kept.refl wA _).trans HK4.out (fun i _ e => e)))).grown g45).grown hg) hC hC2 hs
        clear bB hwB g5 gB g45 hk4
        go_wp2_with fail
        rw [HWB.out]
        generalize w5.heap.size = Y at *
        have I5 := hide (I.out.read P5.out)
        have hz1 : (rgo 1 s).1 = 0 := P4.out.code.symm
        have HZ := hide hz1
        clear hz1 HBx hzA
        by_cases hcode : hh.2 = 0
        · rw [hcode]
          have HCode := hide hcode
          clear hcode
          generalize hRM : (((C - 1) * size : Nat) : Int) = RM at *
          have HRM := hide hRM
          clear hRM
          by_cases hle : hh.1.n ≤ RM
          · have hle2 : decide (hh.1.n ≤ RM) = true := decide_eq_true hle
            go_region_held3 (fun w6 => w6.cell? ⟨X, 0, none⟩ = some (.pointer (some ⟨ra, 0, none⟩)) ∧ w6.cell? ⟨Y, 2, none⟩ = some (.int .i64 hh.1.n)) (first | assumption | exact ⟨(grown_drew wB none).cell cX (by simp), (grown_drew wB none).cell d2 (by simp)⟩ | exact ⟨cX, d2⟩) ((go_at_call 29; refine (HRm.out _ (grown_drew wB none)).mono ?_; rintro e7 w7 ⟨rfl, g7⟩; have G7 := hide (grown_trans (grown_drew wB none) g7); have hk7 : w7.cell? ⟨X, 0, none⟩ = some (.pointer (some ⟨ra, 0, none⟩)) ∧ w7.cell? ⟨Y, 2, none⟩ = some (.int .i64 hh.1.n) := ⟨G7.out.cell cX (by simp), G7.out.cell d2 (by simp)⟩; clear g7))
            clear HRm hle2
            obtain ⟨e0, e1, e2, e3⟩ : w7.cell? ⟨Y, 0, none⟩ = some (.int .u64 hh.1.g) ∧ w7.cell? ⟨Y, 1, none⟩ = some (.int .u64 hh.1.c) ∧ w7.cell? ⟨Y, 2, none⟩ = some (.int .i64 hh.1.n) ∧ w7.cell? ⟨Y, 3, none⟩ = some (.int .u32 hh.1.s) := ⟨G7.out.cell d0 (by simp), G7.out.cell d1 (by simp), G7.out.cell d2 (by simp), G7.out.cell d3 (by simp)⟩
            have I7 := hide (I5.out.then G7.out)
            have HS7 := hide (Nat.le_trans I7.out.kept.size (Nat.le_refl _))
            obtain ⟨i0, hi0, hz0, hz1, hz2⟩ := info_parts infoCL
            have HI0 := hide (And.intro hi0 (And.intro hz0 (And.intro hz1 hz2)))
            clear hi0 hz0 hz1 hz2 d0 d1 d2 d3 cX hk7
            go_wp2_with (at_builtin; refine wpList_append_own _ rfl (.tmp 45) (.tmp 49) 83 rfl w.heap.size 87 i0 (.agg #[.int .u64 0, .int .u64 0, .int .i64 0, .int .u32 0, .int .i64 0]) 5 40 Tryz.underlying83 HI0.out.1 HI0.out.2.1 HI0.out.2.2.1 HI0.out.2.2.2 rfl (by decide) (.slice none 0 0) 0 (cells5 []) rfl (I7.out.row.alloc _) ⟨w7.heap.size, 0, none⟩ 1 1 [.int .u64 hh.1.g, .int .u64 hh.1.c, .int .i64 hh.1.n, .int .u32 hh.1.s, .int .i64 0] rfl rfl (cell5_new _ _ _ _ _ _ _) (by simp [Value.oneCell']) (by unfold maxLen; omega) (by omega) (by have := HS7.out; simp; omega) ?_)
            intro v8 w8 ho8 hg8 hv8
            clear hv8
            have eacc : acc size C D (abs W) Fa 0 = [(hh.1, 0)] := by
              unfold acc
              rw [← HHE.out, if_pos ⟨HCode.out, by rw [HRM.out]; exact hle⟩]
            have N8 : Hid (ClS w0 w w8 n size b (rgo 1 s).2 k D W v8 ([] ++ acc size C D (abs W) Fa 0)) := by
              rw [eacc]
              have ho9 : w8.ownsRow w.heap.size 87 5 v8 (([] : List (Fm.Hd × Int)).length + 1) (cells5 [] ++ clC hh.1 0) := by first | exact ho8 | (rw [hX6]; exact ho8)
              exact I7.out.push HI.out.2.1.disk.grown.size ho9 hg8
            clear eacc
            obtain ⟨vo8, vc8, rfl, -⟩ := own_form ho8
            clear ho8 hg8 e0 e1 e2 e3
            go_wp2
            go_roundg 1
            case measure => omega
            case rel => exact .inr (.inl ⟨rfl, rfl, HZ.out, N8⟩)
          · have hle2 : decide (hh.1.n ≤ RM) = false := decide_eq_false hle
            go_region_held3 (fun w6 => w6.cell? ⟨X, 0, none⟩ = some (.pointer (some ⟨ra, 0, none⟩)) ∧ w6.cell? ⟨Y, 2, none⟩ = some (.int .i64 hh.1.n)) (first | assumption | exact ⟨(grown_drew wB none).cell cX (by simp), (grown_drew wB none).cell d2 (by simp)⟩ | exact ⟨cX, d2⟩) ((go_at_call 29; refine (HRm.out _ (grown_drew wB none)).mono ?_; rintro e7 w7 ⟨rfl, g7⟩; have G7 := hide (grown_trans (grown_drew wB none) g7); have hk7 : w7.cell? ⟨X, 0, none⟩ = some (.pointer (some ⟨ra, 0, none⟩)) ∧ w7.cell? ⟨Y, 2, none⟩ = some (.int .i64 hh.1.n) := ⟨G7.out.cell cX (by simp), G7.out.cell d2 (by simp)⟩; clear g7))
            clear HRm hle2
            have eacc : acc size C D (abs W) Fa 0 = [] := by
              unfold acc
              rw [← HHE.out, if_neg (fun e => by have h9 := e.2; rw [HRM.out] at h9; omega)]
            have N8 : Hid (ClS w0 w w7 n size b (rgo 1 s).2 k D W (.slice none 0 0) ([] ++ acc size C D (abs W) Fa 0)) := by
              rw [eacc, List.append_nil]
              exact I5.out.then G7.out
            clear eacc d0 d1 d2 d3 cX hk7
            go_wp2
            go_roundg 1
            case measure => omega
            case rel => exact .inr (.inl ⟨rfl, rfl, HZ.out, N8⟩)
        · have hcz : (hh.2 == 0) = false := by simpa using hcode
          have eacc : acc size C D (abs W) Fa 0 = [] := by
            unfold acc
            rw [← HHE.out, if_neg (fun e => hcode e.1)]
          go_quiet (fail)
          have N8 : Hid (ClS w0 w (wB.drewN nq) n size b (rgo 1 s).2 k D W (.slice none 0 0) ([] ++ acc size C D (abs W) Fa 0)) := by
            rw [eacc, List.append_nil]
            exact I5.out.then (grown_drewN wB nq none)
          clear eacc d0 d1 d2 d3 cX HRm
          generalize wB.drewN nq = w7 at *
          go_wp2
          go_roundg 1
          case measure => omega
          case rel => exact .inr (.inl ⟨rfl, rfl, HZ.out, N8⟩)
      · have hne : (c4 != 0) = true := by simpa using hc
        have P5 := hide P4.out
        clear hk4
        go_wp2
        go_ret2
        exact .inl ⟨fun e => hc (P5.out.code.trans e), by rw [← P5.out.code]; rfl, P5.out.dev, P5.out.kept⟩
    · have I := HQ
      have HZ1 := hide hz1
      have hct : (rgo 1 s).2.cnt ≤ 90001 := by have h1 := rgo_one s; rw [h1]; have := s.next_le; omega
      have hla : (acc size C D (abs W) Fa 0).length ≤ 1 := acc_length ..
      obtain ⟨vo, vcap, rfl⟩ := I.out.form
      clear hz1 HQ
      have gA := World.grownBy_alloc wr (.cells #[.pointer (some ⟨rb, 0, none⟩)] 77) none
      have bA : (wr.alloc (.cells #[.pointer (some ⟨rb, 0, none⟩)] 77)).heap[wr.heap.size]? = some (.cells [Value.pointer (some ⟨rb, 0, none⟩)].toArray 77 (0, 0)) := heap_alloc_new wr _
      generalize hwA : wr.alloc (.cells #[.pointer (some ⟨rb, 0, none⟩)] 77) = wA at *
      have hzA : wr.heap.size < wA.heap.size := row_lt bA
      have HWA := hide hwA
      have cA : wA.cell? ⟨wr.heap.size, 0, none⟩ = some (.pointer (some ⟨rb, 0, none⟩)) := cell_row bA 0
      have hnX := new_off I.out.dev (Nat.le_refl wr.heap.size)
      have HA := hide (And.intro gA hnX)
      have hrg : RgAt wA rb b Fb C := (HI.out.2.2.2.1.keptD HI.out.2.1 I.out.kept).grown gA
      have HRG := hide hrg
      have HSz := hide (gSize_at ((I.out.dev.then gA).then (grown_drew wA none)) (hrg.grown (grown_drew wA none)))
      have HRd : Hid (∀ w3 : World, wA.grownBy w3 none → Calls Tryz.prog 50 #[.pointer (some ⟨rb, 0, none⟩), .int .i64 0, .int .i64 (size : Int)] w3 fun e w' => ∃ v c, e = .returned (.tuple #[v, .int .i64 c]) ∧ ReadP w0 w3 w' n size b (rgo 1 s).2 k D W size 1 (bytesAt (now size D (abs W)) (Fb * size + 0) size) v c) := by
        intro w3 hg
        have q := gRead_at ((I.out.dev.then gA).then hg) (hrg.grown hg) (by omega) 0 size (by rw [Nat.zero_add]; exact Nat.le_mul_of_pos_left _ hC) (by rw [pcn_one size (by omega)]; omega)
        rw [pcn_one size (by omega)] at q
        exact q
      have hBx : Bytes (bytesAt (now size D (abs W)) (Fb * size + 0) size) := fun x hx => HI.out.2.2.2.2.2 x (List.mem_of_mem_drop (List.mem_of_mem_take hx))
      have HBx := hide hBx
      have HHX : Hid (hx size D (abs W) Fb = Fm.readH (intz (bytesAt (now size D (abs W)) (Fb * size + 0) size))) := rfl
      clear gA bA hwA hnX hrg hBx
      go_wp2_with fail
      rw [HWA.out]
      generalize bytesAt (now size D (abs W)) (Fb * size + 0) size = XS at *
      generalize hX6 : wr.heap.size = X at *
      go_region_held3 (fun w6 => w6.cell? ⟨X, 0, none⟩ = some (.pointer (some ⟨rb, 0, none⟩))) (first | assumption | exact (grown_drew wA none).cell cA (by simp)) ((first | (go_at_call 45; refine HSz.out.mono ?_; rintro e3 w6 ⟨rfl, hw6⟩; obtain rfl := hw6.symm; have hk3 := (grown_drew wA none).cell cA (by simp)) | (go_at_call 50; refine (HRd.out _ (grown_drew wA none)).mono ?_; rintro e4 w4 ⟨v4, c4, rfl, p4⟩; have hk4 := cell_kept ((Kept.new (grown_drew wA none) _).trans p4.kept (fun i _ e => e)) cA HA.out.2; have HK4 := hide ((Kept.new (grown_drew wA none) (fun i => k.own i ∨ i = b)).trans p4.kept (fun i _ e => e)); have P4 := hide (ReadP.pre (grown_trans HA.out.1 (grown_drew wA none)) p4); clear p4)))
      clear HSz HRd hk3 cA HWA
      by_cases hc : c4 = 0
      · subst hc
        obtain ⟨g4, hv4, hg4, hb4, hl4⟩ := P4.out.ok rfl
        subst hv4
        have hat4 : Fm.At w4 (some ⟨g4, 0, none⟩) (intz XS) := Fm.at_row (by rw [bv_intz]; exact hb4)
        have hrd := Fm.read_any (intz XS) (intz_byt HBx.out) (some ⟨g4, 0, none⟩) size size w4 (by rw [intz_length]; exact hl4) hat4 (fun e => by cases e) (Nat.le_refl _) (by omega) (HI.out.2.2.2.2.1.grown P4.out.dev.disk.grown)
        rw [← HHX.out] at hrd
        clear hb4 hat4 hg4 hl4
        unfold Fm.hdV at hrd
        obtain ⟨hh, hhe⟩ : ∃ hh, hh = hx size D (abs W) Fb := ⟨_, rfl⟩
        rw [← hhe] at hrd
        have HHE := hide hhe
        clear hhe HHX
        go_wp2_with fail
        refine hrd.mono ?_
        clear hrd
        rintro e w5 ⟨rfl, g5⟩
        have gB := World.grownBy_alloc w5 (.cells #[.int .u64 hh.1.g, .int .u64 hh.1.c, .int .i64 hh.1.n, .int .u32 hh.1.s] 25) none
        have bB : (w5.alloc (.cells #[.int .u64 hh.1.g, .int .u64 hh.1.c, .int .i64 hh.1.n, .int .u32 hh.1.s] 25)).heap[w5.heap.size]? = some (.cells (Fm.hdC hh.1).toArray 25 (0, 0)) := heap_alloc_new w5 _
        generalize hwB : w5.alloc (.cells #[.int .u64 hh.1.g, .int .u64 hh.1.c, .int .i64 hh.1.n, .int .u32 hh.1.s] 25) = wB at *
        have HWB := hide hwB
        have g45 := grown_trans g5 gB
        have P5 := hide (P4.out.then g45)
        have cX := g45.cell hk4 (by simp)
        have HBB := hide (And.intro bB g45)
        obtain ⟨d0, d1, d2, d3⟩ := Fm.box4 bB
        have HRm : Hid (∀ w3 : World, wB.grownBy w3 none → Calls Tryz.prog 29 #[.agg #[.pointer (some ⟨rb, 0, none⟩)]] w3 fun e w' => e = .returned (.int .i64 (((C - 1) * size : Nat) : Int)) ∧ w3.grownBy w' none) := by
          intro w3 hg
          exact room_at (P5.out.dev.then hg) ((((HRG.out.keptD (I.out.dev.then HA.out.1) ((Kept.refl wA _).trans HK4.out (fun i _ e => e)))).grown g45).grown hg) hC hC2 hs
        clear bB hwB g5 gB g45 hk4
        go_wp2_with fail
        rw [HWB.out]
        generalize w5.heap.size = Y at *
        have I5 := hide (I.out.read P5.out)
        have hz1 : (rgo 1 (rgo 1 s).2).1 = 0 := P4.out.code.symm
        have HZ := hide hz1
        clear hz1 HBx hzA
        by_cases hcode : hh.2 = 0
        · rw [hcode]
          have HCode := hide hcode
          clear hcode
          generalize hRM : (((C - 1) * size : Nat) : Int) = RM at *
          have HRM := hide hRM
          clear hRM
          by_cases hle : hh.1.n ≤ RM
          · have hle2 : decide (hh.1.n ≤ RM) = true := decide_eq_true hle
            go_region_held3 (fun w6 => w6.cell? ⟨X, 0, none⟩ = some (.pointer (some ⟨rb, 0, none⟩)) ∧ w6.cell? ⟨Y, 2, none⟩ = some (.int .i64 hh.1.n)) (first | assumption | exact ⟨(grown_drew wB none).cell cX (by simp), (grown_drew wB none).cell d2 (by simp)⟩ | exact ⟨cX, d2⟩) ((go_at_call 29; refine (HRm.out _ (grown_drew wB none)).mono ?_; rintro e7 w7 ⟨rfl, g7⟩; have G7 := hide (grown_trans (grown_drew wB none) g7); have hk7 : w7.cell? ⟨X, 0, none⟩ = some (.pointer (some ⟨rb, 0, none⟩)) ∧ w7.cell? ⟨Y, 2, none⟩ = some (.int .i64 hh.1.n) := ⟨G7.out.cell cX (by simp), G7.out.cell d2 (by simp)⟩; clear g7))
            clear HRm hle2
            obtain ⟨e0, e1, e2, e3⟩ : w7.cell? ⟨Y, 0, none⟩ = some (.int .u64 hh.1.g) ∧ w7.cell? ⟨Y, 1, none⟩ = some (.int .u64 hh.1.c) ∧ w7.cell? ⟨Y, 2, none⟩ = some (.int .i64 hh.1.n) ∧ w7.cell? ⟨Y, 3, none⟩ = some (.int .u32 hh.1.s) := ⟨G7.out.cell d0 (by simp), G7.out.cell d1 (by simp), G7.out.cell d2 (by simp), G7.out.cell d3 (by simp)⟩
            have I7 := hide (I5.out.then G7.out)
            have HS7 := hide (Nat.le_trans I7.out.kept.size (Nat.le_refl _))
            obtain ⟨i0, hi0, hz0, hz1, hz2⟩ := info_parts infoCL
            have HI0 := hide (And.intro hi0 (And.intro hz0 (And.intro hz1 hz2)))
            clear hi0 hz0 hz1 hz2 d0 d1 d2 d3 cX hk7
            go_wp2_with (at_builtin; refine wpList_append_own _ rfl (.tmp 45) (.tmp 49) 83 rfl w.heap.size 87 i0 (.agg #[.int .u64 0, .int .u64 0, .int .i64 0, .int .u32 0, .int .i64 0]) 5 40 Tryz.underlying83 HI0.out.1 HI0.out.2.1 HI0.out.2.2.1 HI0.out.2.2.2 rfl (by decide) (.slice vo (acc size C D (abs W) Fa 0).length vcap) (acc size C D (abs W) Fa 0).length (cells5 (acc size C D (abs W) Fa 0)) rfl (I7.out.row.alloc _) ⟨w7.heap.size, 0, none⟩ 1 1 [.int .u64 hh.1.g, .int .u64 hh.1.c, .int .i64 hh.1.n, .int .u32 hh.1.s, .int .i64 1] rfl rfl (cell5_new _ _ _ _ _ _ _) (by simp [Value.oneCell']) (by unfold maxLen; omega) (by omega) (by have := HS7.out; simp; omega) ?_)
            intro v8 w8 ho8 hg8 hv8
            clear hv8
            have eacc : acc size C D (abs W) Fb 1 = [(hh.1, 1)] := by
              unfold acc
              rw [← HHE.out, if_pos ⟨HCode.out, by rw [HRM.out]; exact hle⟩]
            have N8 : Hid (ClS w0 w w8 n size b (rgo 1 (rgo 1 s).2).2 k D W v8 ((acc size C D (abs W) Fa 0) ++ acc size C D (abs W) Fb 1)) := by
              rw [eacc]
              have ho9 : w8.ownsRow w.heap.size 87 5 v8 (((acc size C D (abs W) Fa 0) : List (Fm.Hd × Int)).length + 1) (cells5 (acc size C D (abs W) Fa 0) ++ clC hh.1 1) := by first | exact ho8 | (rw [hX6]; exact ho8)
              exact I7.out.push HI.out.2.1.disk.grown.size ho9 hg8
            clear eacc
            obtain ⟨vo8, vc8, rfl, -⟩ := own_form ho8
            clear ho8 hg8 e0 e1 e2 e3
            go_wp2
            go_roundg 0
            case measure => omega
            case rel => exact .inr (.inr ⟨rfl, rfl, HZ1.out, HZ.out, N8⟩)
          · have hle2 : decide (hh.1.n ≤ RM) = false := decide_eq_false hle
            go_region_held3 (fun w6 => w6.cell? ⟨X, 0, none⟩ = some (.pointer (some ⟨rb, 0, none⟩)) ∧ w6.cell? ⟨Y, 2, none⟩ = some (.int .i64 hh.1.n)) (first | assumption | exact ⟨(grown_drew wB none).cell cX (by simp), (grown_drew wB none).cell d2 (by simp)⟩ | exact ⟨cX, d2⟩) ((go_at_call 29; refine (HRm.out _ (grown_drew wB none)).mono ?_; rintro e7 w7 ⟨rfl, g7⟩; have G7 := hide (grown_trans (grown_drew wB none) g7); have hk7 : w7.cell? ⟨X, 0, none⟩ = some (.pointer (some ⟨rb, 0, none⟩)) ∧ w7.cell? ⟨Y, 2, none⟩ = some (.int .i64 hh.1.n) := ⟨G7.out.cell cX (by simp), G7.out.cell d2 (by simp)⟩; clear g7))
            clear HRm hle2
            have eacc : acc size C D (abs W) Fb 1 = [] := by
              unfold acc
              rw [← HHE.out, if_neg (fun e => by have h9 := e.2; rw [HRM.out] at h9; omega)]
            have N8 : Hid (ClS w0 w w7 n size b (rgo 1 (rgo 1 s).2).2 k D W (.slice vo (acc size C D (abs W) Fa 0).length vcap) ((acc size C D (abs W) Fa 0) ++ acc size C D (abs W) Fb 1)) := by
              rw [eacc, List.append_nil]
              exact I5.out.then G7.out
            clear eacc d0 d1 d2 d3 cX hk7
            go_wp2
            go_roundg 0
            case measure => omega
            case rel => exact .inr (.inr ⟨rfl, rfl, HZ1.out, HZ.out, N8⟩)
        · have hcz : (hh.2 == 0) = false := by simpa using hcode
          have eacc : acc size C D (abs W) Fb 1 = [] := by
            unfold acc
            rw [← HHE.out, if_neg (fun e => hcode e.1)]
          go_quiet (fail)
          have N8 : Hid (ClS w0 w (wB.drewN nq) n size b (rgo 1 (rgo 1 s).2).2 k D W (.slice vo (acc size C D (abs W) Fa 0).length vcap) ((acc size C D (abs W) Fa 0) ++ acc size C D (abs W) Fb 1)) := by
            rw [eacc, List.append_nil]
            exact I5.out.then (grown_drewN wB nq none)
          clear eacc d0 d1 d2 d3 cX HRm
          generalize wB.drewN nq = w7 at *
          go_wp2
          go_roundg 0
          case measure => omega
          case rel => exact .inr (.inr ⟨rfl, rfl, HZ1.out, HZ.out, N8⟩)
      · have hne : (c4 != 0) = true := by simpa using hc
        have P5 := hide P4.out
        clear hk4
        go_wp2
        go_ret2
        exact .inr (.inl ⟨HZ1.out, fun e => hc (P5.out.code.trans e), by rw [← P5.out.code]; rfl, P5.out.dev, I.out.kept.trans P5.out.kept (fun _ _ e => e)⟩)
    · have HZ1 := hide hz1
      have HZ2 := hide hz2
      have hll : (acc size C D (abs W) Fa 0 ++ acc size C D (abs W) Fb 1).length ≤ 2 := by rw [List.length_append]; have := acc_length size C D (abs W) Fa 0; have := acc_length size C D (abs W) Fb 1; omega
      obtain ⟨vo, vcap, rfl⟩ := HQ.out.form
      have hso := HQ.out.sort HI.out.2.1.disk.grown.size hll
      clear hz1 hz2
      obtain ⟨LL, hLL⟩ : ∃ LL, LL = acc size C D (abs W) Fa 0 ++ acc size C D (abs W) Fb 1 := ⟨_, rfl⟩
      rw [← hLL] at hso ⊢
      have HLL := hide hLL
      clear hLL hll HQ
      go_wp2_with fail
      refine hso.mono ?_
      clear hso
      rintro e w8 ⟨rfl, p8⟩
      have P8 := hide p8
      clear p8
      go_wp2
      go_ret2
      refine .inr (.inr ⟨HZ1.out, HZ2.out, P8.out.dev, P8.out.kept, vo, vcap, ?_, ?_⟩)
      · rw [← HLL.out]; rfl
      · rw [← HLL.out]; exact P8.out.cs
end
end Go.Proofs.YtonokaelbpfjnabGreatDoor
/- Load and Save of no slots. -/
namespace Go.Proofs.YtonokaelbpfjnabGreatDoor
open Go.RowKit Ap
attribute [local go_sem ↓] Go.wp_at_zero Go.wp_at_succ
theorem results_cell_tmp3 {fn : Func} {p u x y : Tmp} {ty : TypeId} (h : fn.results = #[.cell p ty, .tmp u, .tmp x, .tmp y]) (tmps : Array Value) (P : Program) (w : World) :
    (results fn tmps).run P w =
      ((asAddr (tmps.getD p undef)).run P w).andThen fun a w₁ => ((loadVar ty a).run P w₁).andThen fun v w₂ => .ok (.tuple #[v, tmps.getD u undef, tmps.getD x undef, tmps.getD y undef]) w₂ := by
  simp only [results, h]
  simp [Sem.run_bind, Result.andThen]
set_option maxRecDepth 20000 in
set_option maxHeartbeats 2000000 in
theorem load_no {w : World} {p : Option Addr} (h : NoSlots w p) : Calls Tryz.prog 10 #[.pointer p] w fun e w' => e = .returned (.tuple #[.agg #[.int .u64 0, .int .u64 0, .int .i64 0, .int .u32 0], .slice none 0 0, .int .i64 0, .int .i64 1]) ∧ w.grownBy w' none := by
  have hn : NoSlots (w.alloc (.cells #[.int .u64 0, .int .u64 0, .int .i64 0, .int .u32 0] 25)) p := by
    rcases h with e | ⟨s, c1, e, h1⟩
    · exact .inl e
    · exact .inr ⟨s, c1, e, ((World.grownBy_alloc w (.cells #[.int .u64 0, .int .u64 0, .int .i64 0, .int .u32 0] 25) none).block _ (row_lt h1) (by simp)).trans h1⟩
  have H := hide (snone_no hn)
  have HG := hide (World.grownBy_alloc w (.cells #[.int .u64 0, .int .u64 0, .int .i64 0, .int .u32 0] 25) none)
  obtain ⟨e0, e1, e2, e3⟩ := Fm.box4 (heap_alloc_new w (.cells [Value.int .u64 0, .int .u64 0, .int .i64 0, .int .u32 0].toArray 25))
  clear h hn
  go_enter Tryz.func10, Tryz.ntmps10
  go_wp2_with fail
  refine H.out.mono ?_
  rintro e wx ⟨rfl, hwx⟩
  obtain rfl := hwx.symm
  have hbx := heap_alloc_new w (.cells [Value.int .u64 0, .int .u64 0, .int .i64 0, .int .u32 0].toArray 25)
  have f0 := free_row hbx 0
  have f1 := free_row hbx 1
  have f2 := free_row hbx 2
  have f3 := free_row hbx 3
  have HBX := hide hbx
  clear hbx
  generalize (w.alloc (.cells #[.int .u64 0, .int .u64 0, .int .i64 0, .int .u32 0] 25)) = w1 at *
  go_wp2
  obtain ⟨eb, eg⟩ := Fm.set4 HBX.out (.int .u64 0) (.int .u64 0) (.int .i64 0) (.int .u32 0)
  clear e0 e1 e2 e3 f0 f1 f2 f3
  obtain ⟨e0, e1, e2, e3⟩ := Fm.box4 eb
  have EG := hide (grown_then HG.out eg (fun j e => by cases e; exact Or.inl (Nat.le_refl _)))
  clear eb eg HG
  generalize (((w1.setCell ⟨w.heap.size, 0, none⟩ (.int .u64 0)).setCell ⟨w.heap.size, 1, none⟩ (.int .u64 0)).setCell ⟨w.heap.size, 2, none⟩ (.int .i64 0)).setCell ⟨w.heap.size, 3, none⟩ (.int .u32 0) = w2 at *
  refine bodyPost_ret (v := .tuple #[.agg #[.int .u64 0, .int .u64 0, .int .i64 0, .int .u32 0], .slice none 0 0, .int .i64 0, .int .i64 1]) ?_ rfl ?_
  · rw [results_cell_tmp3 rfl]; go_simp
  exact ⟨rfl, EG.out⟩
set_option maxRecDepth 20000 in
set_option maxHeartbeats 2000000 in
theorem save_no {w : World} {p : Option Addr} (h : NoSlots w p) (v : Value) (c : Int) : Calls Tryz.prog 6 #[.pointer p, v, .int .u64 c] w fun e w' => e = .returned (.tuple #[.agg #[.int .u64 0, .int .u64 0, .int .i64 0, .int .u32 0], .int .i64 1]) ∧ w.grownBy w' none := by
  have hn : NoSlots (w.alloc (.cells #[.int .u64 0, .int .u64 0, .int .i64 0, .int .u32 0] 25)) p := by
    rcases h with e | ⟨s, c1, e, h1⟩
    · exact .inl e
    · exact .inr ⟨s, c1, e, ((World.grownBy_alloc w (.cells #[.int .u64 0, .int .u64 0, .int .i64 0, .int .u32 0] 25) none).block _ (row_lt h1) (by simp)).trans h1⟩
  have H := hide (snone_no hn)
  have HG := hide (World.grownBy_alloc w (.cells #[.int .u64 0, .int .u64 0, .int .i64 0, .int .u32 0] 25) none)
  obtain ⟨e0, e1, e2, e3⟩ := Fm.box4 (heap_alloc_new w (.cells [Value.int .u64 0, .int .u64 0, .int .i64 0, .int .u32 0].toArray 25))
  clear h hn
  go_enter Tryz.func6, Tryz.ntmps6
  go_wp2_with fail
  refine H.out.mono ?_
  rintro e wx ⟨rfl, hwx⟩
  obtain rfl := hwx.symm
  have hbx := heap_alloc_new w (.cells [Value.int .u64 0, .int .u64 0, .int .i64 0, .int .u32 0].toArray 25)
  have f0 := free_row hbx 0
  have f1 := free_row hbx 1
  have f2 := free_row hbx 2
  have f3 := free_row hbx 3
  have HBX := hide hbx
  clear hbx
  generalize (w.alloc (.cells #[.int .u64 0, .int .u64 0, .int .i64 0, .int .u32 0] 25)) = w1 at *
  go_wp2
  obtain ⟨eb, eg⟩ := Fm.set4 HBX.out (.int .u64 0) (.int .u64 0) (.int .i64 0) (.int .u32 0)
  clear e0 e1 e2 e3 f0 f1 f2 f3
  obtain ⟨e0, e1, e2, e3⟩ := Fm.box4 eb
  have EG := hide (grown_then HG.out eg (fun j e => by cases e; exact Or.inl (Nat.le_refl _)))
  clear eb eg HG
  generalize (((w1.setCell ⟨w.heap.size, 0, none⟩ (.int .u64 0)).setCell ⟨w.heap.size, 1, none⟩ (.int .u64 0)).setCell ⟨w.heap.size, 2, none⟩ (.int .i64 0)).setCell ⟨w.heap.size, 3, none⟩ (.int .u32 0) = w2 at *
  refine bodyPost_ret (v := .tuple #[.agg #[.int .u64 0, .int .u64 0, .int .i64 0, .int .u32 0], .int .i64 1]) ?_ rfl ?_
  · rw [Fm.results_cell_tmp1 rfl]; go_simp
  exact ⟨rfl, EG.out⟩
end Go.Proofs.YtonokaelbpfjnabGreatDoor
/- What Load tells: numbers alone. -/
namespace Go.Proofs.YtonokaelbpfjnabGreatDoor
open Go.RowKit Ap

theorem rgo_cntL (m : Nat) (s : Dv) : (rgo m s).2.cnt ≤ s.cnt + m := by
  induction m generalizing s with
  | zero => simp [rgo]
  | succ m ih =>
    have h1 := s.next_le
    have h2 := ih s.next
    unfold rgo
    split
    · omega
    · simp only; omega
/-- No header. -/
def hd0 : Fm.Hd := ⟨0, 0, 0, 0⟩
/-- What Load tells. -/
structure Ld where
  h : Fm.Hd
  xs : Option (List Nat)
  at_ : Int
  code : Int
  s : Dv
/-- Where a claim's slot lies. -/
def fOf (Fa Fb : Nat) (a : Int) : Nat := if a = 0 then Fa else Fb
def bodyOf (size Fa Fb : Nat) (D : List Nat) (A : List Pr) (p : Fm.Hd × Int) : List Nat := bytesAt (now size D A) (fOf Fa Fb p.2 * size + size) p.1.n.toNat
/-- Claim by claim. -/
def lgo (size Fa Fb : Nat) (D : List Nat) (A : List Pr) : List (Fm.Hd × Int) → Dv → Ld
  | [], s => ⟨hd0, none, -1, 0, s⟩
  | p :: r, s =>
    if (rgo (pcn size size p.1.n.toNat) s).1 ≠ 0 then ⟨hd0, none, 0, (rgo (pcn size size p.1.n.toNat) s).1, (rgo (pcn size size p.1.n.toNat) s).2⟩
    else if sumN (bodyOf size Fa Fb D A p) = p.1.s then ⟨p.1, some (bodyOf size Fa Fb D A p), p.2, 0, (rgo (pcn size size p.1.n.toNat) s).2⟩
    else lgo size Fa Fb D A r (rgo (pcn size size p.1.n.toNat) s).2
/-- What both headers claim, the newest first. -/
def clm (size C Fa Fb : Nat) (D : List Nat) (A : List Pr) : List (Fm.Hd × Int) := srt (acc size C D A Fa 0 ++ acc size C D A Fb 1)
def ldA (size C Fa Fb : Nat) (s : Dv) (D : List Nat) (A : List Pr) : Ld :=
  if (rgo 1 s).1 ≠ 0 then ⟨hd0, none, 0, (rgo 1 s).1, (rgo 1 s).2⟩
  else if (rgo 1 (rgo 1 s).2).1 ≠ 0 then ⟨hd0, none, 0, (rgo 1 (rgo 1 s).2).1, (rgo 1 (rgo 1 s).2).2⟩
  else lgo size Fa Fb D A (clm size C Fa Fb D A) (rgo 1 (rgo 1 s).2).2
theorem readH_may {xs : List Int} (h : (Fm.readH xs).2 = 0) : (Fm.readH xs).1.May := by
  unfold Fm.readH at h ⊢
  split at h
  · simp at h
  · rename_i h1
    rw [if_neg h1]
    split at h
    · rename_i h2
      rw [if_pos h2]
      split at h
      · rename_i h3; rw [if_pos h3]; exact h3
      · simp at h
    · simp at h
/-- What is known of a claim. -/
structure ClOk (size C : Nat) (p : Fm.Hd × Int) : Prop where
  at_ : p.2 = 0 ∨ p.2 = 1
  n0 : 0 ≤ p.1.n
  n1 : p.1.n ≤ 67108864
  fit : p.1.n ≤ (((C - 1) * size : Nat) : Int)
  g : 1 ≤ p.1.g
theorem acc_ok {size C : Nat} {D : List Nat} {A : List Pr} {F : Nat} {a : Int} (ha : a = 0 ∨ a = 1) : ∀ p ∈ acc size C D A F a, ClOk size C p := by
  intro p hp
  unfold acc at hp
  split at hp
  · rename_i h
    simp at hp
    subst hp
    have hm := readH_may (xs := intz (bytesAt (now size D A) (F * size + 0) size)) h.1
    exact ⟨ha, hm.2.1, hm.2.2, h.2, hm.1⟩
  · simp at hp
theorem srt_mem {L : List (Fm.Hd × Int)} {p : Fm.Hd × Int} (h : p ∈ srt L) : p ∈ L := by
  unfold srt at h
  split at h
  · split at h <;> simp_all
    rcases h with h | h <;> simp [h]
  · exact h
theorem srt_length (L : List (Fm.Hd × Int)) : (srt L).length = L.length := by
  unfold srt
  split
  · split <;> rfl
  · rfl
theorem clm_ok {size C Fa Fb : Nat} {D : List Nat} {A : List Pr} : ∀ p ∈ clm size C Fa Fb D A, ClOk size C p := by
  intro p hp
  rcases List.mem_append.1 (srt_mem hp) with h | h
  · exact acc_ok (.inl rfl) p h
  · exact acc_ok (.inr rfl) p h
theorem clm_length (size C Fa Fb : Nat) (D : List Nat) (A : List Pr) : (clm size C Fa Fb D A).length = (acc size C D A Fa 0 ++ acc size C D A Fb 1).length := srt_length _
theorem clm_two (size C Fa Fb : Nat) (D : List Nat) (A : List Pr) : (clm size C Fa Fb D A).length ≤ 2 := by
  rw [clm_length, List.length_append]
  have h1 := acc_length size C D A Fa 0
  have h2 := acc_length size C D A Fb 1
  omega
theorem pcn_body {size C m : Nat} (hs : 1 ≤ size) (h : m ≤ (C - 1) * size) : pcn size size m ≤ C := by
  unfold pcn
  split
  · omega
  · rename_i hm
    have hC : 1 ≤ C := by
      rcases Nat.eq_zero_or_pos C with e | e
      · subst e; simp at h; omega
      · exact e
    obtain ⟨c, rfl⟩ : ∃ c, C = c + 1 := ⟨C - 1, by omega⟩
    have h2 : (size + m - 1) / size ≤ c := by
      have : size + m - 1 < (c + 1) * size := by
        rw [Nat.add_mul]; simp at h ⊢; omega
      have := Nat.div_lt_of_lt_mul (by rw [Nat.mul_comm]; exact this)
      exact Nat.le_of_lt_succ this
    generalize (size + m - 1) / size = q at *
    generalize size / size = r at *
    omega
end Go.Proofs.YtonokaelbpfjnabGreatDoor
