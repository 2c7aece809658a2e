/- Texts joined: None, Surv0, RefA, RefB. -/
import Derived.Test.YtonokaelbpfjnaaGreatDoorJhAe
import Derived.Deep.CutRange
import Derived.Deep.DeepCutAuto
/- The document's disk that is none; a call of no disk. -/
namespace Go.Proofs.YtonokaelbpfjnaaGreatDoor
open Go.RowKit Ap
attribute [local go_sem ↓] Go.wp_at_zero Go.wp_at_succ

/-- The document's disk without sectors. -/
def Empty (w : World) (rb : Nat) : Prop := w.heap[rb]? = some (.cells #[.slice none 0 0, .slice none 0 0] 144 (0, 0))
theorem Empty.grown {w w' : World} {rb : Nat} (h : Empty w rb) (hg : w.grownBy w' none) : Empty w' rb := (hg.block _ (row_lt h) (by simp)).trans h
theorem Empty.c0 {w : World} {rb : Nat} (h : Empty w rb) : w.cell? ⟨rb, 0, none⟩ = some (.slice none 0 0) := by unfold Empty at h; simp [World.cell?, h]
theorem Empty.c1 {w : World} {rb : Nat} (h : Empty w rb) : w.cell? ⟨rb, 1, none⟩ = some (.slice none 0 0) := by unfold Empty at h; simp [World.cell?, h]

section
variable {w : World} {rb : Nat}
theorem rsize0 (h : Empty w rb) : Calls Tryz.prog 122 #[.pointer (some ⟨rb, 0, none⟩)] w fun e w' => e = .returned (.int .i64 0) ∧ w' = w := by
  have c0 := h.c0
  clear h
  go_enter Tryz.func122, Tryz.ntmps122
  go_wp2
  go_ret
  exact ⟨rfl, rfl⟩
theorem rwaiting0 (h : Empty w rb) : Calls Tryz.prog 102 #[.pointer (some ⟨rb, 0, none⟩)] w fun e w' => e = .returned (.int .i64 0) ∧ w' = w := by
  have c1 := h.c1
  clear h
  go_enter Tryz.func102, Tryz.ntmps102
  go_wp2
  go_ret
  exact ⟨rfl, rfl⟩
theorem rsectors0 (h : Empty w rb) : Calls Tryz.prog 126 #[.pointer (some ⟨rb, 0, none⟩)] w fun e w' => e = .returned (.int .i64 0) ∧ w' = w := by
  have c0 := h.c0
  clear h
  go_enter Tryz.func126, Tryz.ntmps126
  go_wp2
  go_ret
  exact ⟨rfl, rfl⟩
theorem rwrong0 (h : Empty w rb) (a : Int) : Calls Tryz.prog 132 #[.pointer (some ⟨rb, 0, none⟩), .int .i64 a] w fun e w' => e = .returned (.int .i64 1) ∧ w' = w := by
  have c0 := h.c0
  clear h
  go_enter Tryz.func132, Tryz.ntmps132
  go_wp2
  go_ret
  exact ⟨rfl, rfl⟩
set_option maxHeartbeats 400000 in
theorem rwrite0 (h : Empty w rb) (a : Int) (v : Value) : Calls Tryz.prog 99 #[.pointer (some ⟨rb, 0, none⟩), .int .i64 a, v] w fun e w' => e = .returned (.int .i64 1) ∧ w' = w := by
  have H := hide (rwrong0 h a)
  clear h
  go_enter Tryz.func99, Tryz.ntmps99
  go_wp2_with fail
  refine H.out.mono ?_
  rintro e w' ⟨rfl, rfl⟩
  go_wp2
  go_ret
  exact ⟨rfl, rfl⟩
set_option maxHeartbeats 400000 in
theorem rread0 (h : Empty w rb) (a : Int) : Calls Tryz.prog 101 #[.pointer (some ⟨rb, 0, none⟩), .int .i64 a] w fun e w' => e = .returned (.tuple #[.slice none 0 0, .int .i64 1]) ∧ w' = w := by
  have H := hide (rwrong0 h a)
  clear h
  go_enter Tryz.func101, Tryz.ntmps101
  go_wp2_with fail
  refine H.out.mono ?_
  rintro e w' ⟨rfl, rfl⟩
  go_wp2
  go_ret2
  exact ⟨rfl, rfl⟩
set_option maxHeartbeats 400000 in
theorem rcrash0 (h : Empty w rb) (v : Value) : Calls Tryz.prog 72 #[.pointer (some ⟨rb, 0, none⟩), v] w fun e w' => e = .returned (.int .i64 1) ∧ w' = w := by
  have c0 := h.c0
  clear h
  go_enter Tryz.func72, Tryz.ntmps72
  go_wp2
  go_ret
  exact ⟨rfl, rfl⟩
set_option maxHeartbeats 400000 in
theorem rsync0 (h : Empty w rb) : Calls Tryz.prog 145 #[.pointer (some ⟨rb, 0, none⟩)] w fun e w' => e = .returned (.int .i64 1) ∧ w' = w := by
  have c1 := h.c1
  have H := hide (fun v => rcrash0 h v)
  clear h
  go_enter Tryz.func145, Tryz.ntmps145
  go_wp2
  go_loopg [4] 0 (fun q i wr => i = .int .i64 0 ∧ wr = w)
  case atStart => exact ⟨rfl, rfl⟩
  case round =>
    obtain ⟨rfl, rfl⟩ := hrel
    go_wp2_with fail
    refine (H.out _).mono ?_
    rintro e w' ⟨rfl, rfl⟩
    go_wp2
    go_ret
    exact ⟨rfl, rfl⟩
set_option maxHeartbeats 400000 in
theorem rimage0 (h : Empty w rb) : Calls Tryz.prog 104 #[.pointer (some ⟨rb, 0, none⟩)] w fun e w' => e = .returned (.slice none 0 0) ∧ w' = w := by
  have c0 := h.c0
  clear h
  go_enter Tryz.func104, Tryz.ntmps104
  go_wp2
  go_loopg [3, 4] 0 (fun q s i wr => s = .slice none 0 0 ∧ i = .int .i64 0 ∧ wr = w)
  case atStart => exact ⟨rfl, rfl, rfl⟩
  case round =>
    obtain ⟨rfl, rfl, rfl⟩ := hrel
    go_wp2
    go_ret
    exact ⟨rfl, rfl⟩
end

/-- How many bytes an operation writes. -/
def opLen (less : Int) (size : Nat) : Nat := if less % 16 = 15 then (less % 200).toNat else size
theorem opLen_le (less : Int) (size : Nat) : opLen less size ≤ size + 200 := by unfold opLen; split <;> omega
end Go.Proofs.YtonokaelbpfjnaaGreatDoor
/- What a crash leaves; what was written, kept beside the disk. -/
namespace Go.Proofs.YtonokaelbpfjnaaGreatDoor
open Go.RowKit Ap

theorem splice_nil (D : List Nat) (o : Nat) : splice D o [] = D := by simp [splice]
/-- Without fates nothing becomes durable. -/
theorem stl_lost (size : Nat) (D : List Nat) (W : List Wt) (j : Nat) : stl size (fun i => lasts (fateK [] i) (fateA [] i) size) D W j = D := by
  induction j with
  | zero => rfl
  | succ j ih =>
    rw [stl]
    split
    · have : lasts (fateK [] j) (fateA [] j) size = 0 := by simp [fateK, lasts]
      rw [this, List.take_zero, splice_nil, ih]
    · exact ih
/-- With all kept a sector is what was found. -/
theorem stlS_kept {n size : Nat} (W : List Wt) (hW : Fits n size W) (L : Nat → Nat) (hL : ∀ i, i < W.length → L i = size) (s : Nat) (old : List Nat) (ho : old.length = size) (j : Nat) (hj : j ≤ W.length) :
    stlS L W s old j = match lastOf (W.take j) s with
      | some x => x.xs
      | none => old := by
  induction j with
  | zero => rfl
  | succ j ih =>
    have hx := List.getElem?_eq_getElem (show j < W.length by omega)
    rw [take_snoc W j _ hx, lastOf_snoc, stlS, hx]
    show (if W[j].sec = s then over (W[j].xs.take (L j)) (stlS L W s old j) else stlS L W s old j) = _
    by_cases hs : W[j].sec = s
    · rw [if_pos hs, if_pos hs.symm]
      have h2 := (hW W[j] (List.getElem_mem _)).2
      rw [hL j (by omega), List.take_of_length_le (by omega), over]
      have h3 : (stlS L W s old j).length ≤ W[j].xs.length := by
        rw [ih (by omega), h2]
        cases hl : lastOf (W.take j) s with
        | none => simp [ho]
        | some x => exact Nat.le_of_eq (hW x (List.mem_of_mem_take (lastOf_mem hl).1)).2
      rw [List.drop_eq_nil_of_le h3, List.append_nil]
    · rw [if_neg hs, if_neg (fun e => hs e.symm)]
      exact ih (by omega)
theorem found_kept {n size : Nat} {D : List Nat} {W : List Wt} (hD : D.length = n * size) (hW : Fits n size W) (L : Nat → Nat) (hL : ∀ i, i < W.length → L i = size) (s : Nat) (hs : s < n) :
    secOf size (stl size L D W W.length) s = found size D W s := by
  rw [secOf_stl hD hW, stlS_kept W hW L hL s _ (secOf_length hD hs) W.length (Nat.le_refl _), List.take_length]
  rfl
/-- Each byte is as it was, or as one of the writes has it. -/
theorem stlS_byte (W : List Wt) (L : Nat → Nat) (s : Nat) (old : List Nat) (i : Nat) : ∀ j, (stlS L W s old j)[i]? = old[i]? ∨ ∃ (q : Nat) (x : Wt), W[q]? = some x ∧ x.sec = s ∧ (stlS L W s old j)[i]? = x.xs[i]?
  | 0 => Or.inl rfl
  | j + 1 => by
    have ih := stlS_byte W L s old i j
    rw [stlS]
    cases hx : W[j]? with
    | none => exact ih
    | some x =>
      show (if x.sec = s then over (x.xs.take (L j)) (stlS L W s old j) else stlS L W s old j)[i]? = _ ∨ ∃ (q : Nat) (y : Wt), _ ∧ _ ∧ (if x.sec = s then over (x.xs.take (L j)) (stlS L W s old j) else stlS L W s old j)[i]? = _
      by_cases hs : x.sec = s
      · rw [if_pos hs, over_get]
        by_cases hi : i < (x.xs.take (L j)).length
        · rw [if_pos hi]
          right
          refine ⟨j, x, hx, hs, ?_⟩
          rw [List.getElem?_take, if_pos (by simp at hi; omega)]
        · rw [if_neg hi]; exact ih
      · rw [if_neg hs]; exact ih
theorem fits_abs {n size : Nat} {W W' : List Wt} (h : abs W = abs W') (hW : Fits n size W) : Fits n size W' := by
  intro x hx
  have : (x.sec, x.xs) ∈ abs W := by rw [h]; exact List.mem_map.2 ⟨x, hx, rfl⟩
  obtain ⟨y, hy, e⟩ := List.mem_map.1 this
  simp only [Prod.mk.injEq] at e
  rw [← e.1, ← e.2]
  exact hW y hy

theorem own_block {w : World} {B : Nat} {e : TypeId} {s : Nat} {v : Value} {n : Nat} {xs : List Value} (h : w.ownsRow B e s v n xs) : ∀ g, v.ownBlock = some g → B ≤ g ∧ ∃ cur, w.heap[g]? = some (.cells cur e (0, 0)) := by
  intro g hg
  rcases h.2 with ⟨rfl, _⟩ | ⟨g', cap, cur, rfl, h1, h2, _⟩
  · cases hg
  · cases hg; exact ⟨h1, cur, h2⟩
theorem own_form {w : World} {B : Nat} {e : TypeId} {s : Nat} {v : Value} {n : Nat} {xs : List Value} (h : w.ownsRow B e s v n xs) : ∃ ao cap, v = .slice ao n cap ∧ (0 < n → ∃ g, ao = some ⟨g, 0, none⟩) ∧ n ≤ cap ∧ (ao = none → n = 0 ∧ cap = 0) := by
  rcases h.2 with ⟨rfl, rfl⟩ | ⟨g', cap, cur, rfl, h1, h2, h3, _⟩
  · exact ⟨none, 0, rfl, fun h => absurd h (Nat.lt_irrefl _), Nat.le_refl _, fun _ => ⟨rfl, rfl⟩⟩
  · exact ⟨_, cap, rfl, fun _ => ⟨g', rfl⟩, h3, fun e => by cases e⟩
section
variable {w0 w w' : World} {k : Dk} {n size : Nat} {D : List Nat} {W : List Wt}
/-- An append to a row of another type. -/
theorem DkS.after (h : DkS w0 w k n size D W) {v : Value} (hg : w.grownBy w' v.ownBlock) (hv : ∀ b, v.ownBlock = some b → w0.heap.size ≤ b ∧ ∃ c t, w.heap[b]? = some (.cells c t (0, 0)) ∧ t ≠ 141 ∧ t ≠ 5 ∧ t ≠ 176) : DkS w0 w' k n size D W := by
  refine ⟨h.disk.same fun i hi => hg.block i (h.disk.lt i hi) ?_, h.own, grown_then h.grown hg (fun j e => Or.inl (hv j e).1)⟩
  intro e
  obtain ⟨_, c, t, h1, h2, h3, h4⟩ := hv i e.symm
  rcases hi with hi | ⟨x, hx, rfl⟩
  · exact h.disk.other_off h1 h2 h3 h4 hi
  · rw [(h.disk.waits x hx).2.2.2] at h1; simp at h1; exact h3 h1.2.symm
end
/-- Two copies of one disk. -/
theorem sep_copies {w0 w : World} {k k1 k2 : Dk} {n size : Nat} {D : List Nat} {W : List Wt} (h1 : DkS w0 w k1 n size D W) (s1 : Sep k W k1 W) (h2 : ∀ i, k2.own i → w.heap.size ≤ i) : Sep k1 W k2 W := by
  refine ⟨?_, ?_⟩
  · rintro i hi (hf | ⟨x, hx, rfl⟩)
    · have := h2 i hf; have := h1.disk.lt i (.inl hi); omega
    · exact s1.r _ hi (.inr ⟨x, hx, rfl⟩)
  · intro i hi hf
    have := h2 i hi; have := h1.disk.lt i hf; omega
/-- What was written, and where. -/
structure Log (w : World) (B : Nat) (v u : Value) (W : List Wt) (gs : List Nat) : Prop where
  wro : w.ownsRow B 36 1 v W.length (slv 64 gs)
  whe : w.ownsRow B 3 1 u W.length (W.map fun x => .int .i64 (x.sec : Int))
  len : gs.length = W.length
  rows : ∀ (i g : Nat) (x : Wt), gs[i]? = some g → W[i]? = some x → w.heap[g]? = some (.cells (bv x.xs).toArray 5 (0, 0)) ∧ B ≤ g
theorem Log.same {w w' : World} {B : Nat} {v u : Value} {W : List Wt} {gs : List Nat} (h : Log w B v u W gs) (hb : ∀ i, B ≤ i → (∃ c t, (t = 36 ∨ t = 3 ∨ t = 5) ∧ w.heap[i]? = some (.cells c t (0, 0))) → w'.heap[i]? = w.heap[i]?) : Log w' B v u W gs := by
  refine ⟨?_, ?_, h.len, ?_⟩
  · refine ⟨h.wro.1, ?_⟩
    rcases h.wro.2 with e | ⟨g, cap, cur, rfl, h1, h2, h3⟩
    · exact Or.inl e
    · exact Or.inr ⟨g, cap, cur, rfl, h1, (hb g h1 ⟨cur, 36, .inl rfl, h2⟩).trans h2, h3⟩
  · refine ⟨h.whe.1, ?_⟩
    rcases h.whe.2 with e | ⟨g, cap, cur, rfl, h1, h2, h3⟩
    · exact Or.inl e
    · exact Or.inr ⟨g, cap, cur, rfl, h1, (hb g h1 ⟨cur, 3, .inr (.inl rfl), h2⟩).trans h2, h3⟩
  · intro i g x h1 h2
    obtain ⟨r1, r2⟩ := h.rows i g x h1 h2
    exact ⟨(hb g r2 ⟨_, 5, .inr (.inr rfl), r1⟩).trans r1, r2⟩
theorem Log.grown {w w' : World} {B : Nat} {v u : Value} {W : List Wt} {gs : List Nat} (h : Log w B v u W gs) (hg : w.grownBy w' none) : Log w' B v u W gs :=
  h.same fun i _ ⟨_, _, _, hi⟩ => hg.block i (row_lt hi) (by simp)
theorem Log.moved {w w' : World} {B : Nat} {v u : Value} {W : List Wt} {gs : List Nat} {k k' : Dk} {n size : Nat} {D : List Nat} {V V' : List Wt} (h : Log w B v u W gs) (hk : DiskAt w k n size D V) (hm : Moved w w' k k' V V') (hB : k.db < B) : Log w' B v u W gs :=
  h.same fun i hi ⟨c, t, ht, hc⟩ => hm.kept.block i (row_lt hc) (by
    rcases ht with rfl | rfl | rfl
    · exact hk.other_off hc (by decide) (by decide) (by decide)
    · exact hk.other_off hc (by decide) (by decide) (by decide)
    · exact hk.bytes_off hc (by omega))
/-- Its blocks. -/
def lblk (v u : Value) (gs : List Nat) (i : Nat) : Prop := v.ownBlock = some i ∨ u.ownBlock = some i ∨ i ∈ gs
theorem Log.off {w w' : World} {B : Nat} {v u : Value} {W : List Wt} {gs : List Nat} {S : Nat → Prop} (h : Log w B v u W gs) (hk : Kept w w' S) (hS : ∀ i, lblk v u gs i → ¬ S i) : Log w' B v u W gs := by
  refine ⟨?_, ?_, h.len, ?_⟩
  · refine ⟨h.wro.1, ?_⟩
    rcases h.wro.2 with e | ⟨g, cap, cur, rfl, h1, h2, h3⟩
    · exact Or.inl e
    · exact Or.inr ⟨g, cap, cur, rfl, h1, hk.at h2 (hS g (.inl rfl)), h3⟩
  · refine ⟨h.whe.1, ?_⟩
    rcases h.whe.2 with e | ⟨g, cap, cur, rfl, h1, h2, h3⟩
    · exact Or.inl e
    · exact Or.inr ⟨g, cap, cur, rfl, h1, hk.at h2 (hS g (.inr (.inl rfl))), h3⟩
  · intro i g x h1 h2
    obtain ⟨r1, r2⟩ := h.rows i g x h1 h2
    exact ⟨hk.at r1 (hS g (.inr (.inr (List.mem_of_getElem? h1)))), r2⟩
theorem Log.lt {w : World} {B : Nat} {v u : Value} {W : List Wt} {gs : List Nat} (h : Log w B v u W gs) : ∀ i, lblk v u gs i → i < w.heap.size := by
  rintro i (e | e | e)
  · obtain ⟨_, c, q⟩ := own_block h.wro i e; exact row_lt q
  · obtain ⟨_, c, q⟩ := own_block h.whe i e; exact row_lt q
  · obtain ⟨j, hj⟩ := List.getElem?_of_mem e
    have hl : j < W.length := by rw [← h.len]; exact (List.getElem?_eq_some_iff.1 hj).1
    exact row_lt (h.rows j i W[j] hj (List.getElem?_eq_getElem hl)).1
/-- Rows that were found. -/
structure FAt (w : World) (B gf cap : Nat) (fs : List Nat) (R : List (List Nat)) : Prop where
  row : w.ownsRow B 36 1 (.slice (some ⟨gf, 0, none⟩) R.length cap) R.length (slv 64 fs)
  len : fs.length = R.length
  rows : ∀ (i g : Nat) (xs : List Nat), fs[i]? = some g → R[i]? = some xs → w.heap[g]? = some (.cells (bv xs).toArray 5 (0, 0)) ∧ B ≤ g ∧ xs.length = 64
theorem FAt.off {w w' : World} {B gf cap : Nat} {fs : List Nat} {R : List (List Nat)} {S : Nat → Prop} (h : FAt w B gf cap fs R) (hk : Kept w w' S) (hS : ∀ i, B ≤ i → ¬ S i) : FAt w' B gf cap fs R := by
  refine ⟨?_, h.len, ?_⟩
  · refine ⟨h.row.1, ?_⟩
    rcases h.row.2 with e | ⟨g, cap, cur, e, h1, h2, h3⟩
    · exact Or.inl e
    · exact Or.inr ⟨g, cap, cur, e, h1, hk.at h2 (hS g h1), h3⟩
  · intro i g xs h1 h2
    obtain ⟨r1, r2, r3⟩ := h.rows i g xs h1 h2
    exact ⟨hk.at r1 (hS g r2), r2, r3⟩
theorem FAt.grown {w w' : World} {B gf cap : Nat} {fs : List Nat} {R : List (List Nat)} (h : FAt w B gf cap fs R) (hg : w.grownBy w' none) : FAt w' B gf cap fs R := h.off (Kept.new hg (fun _ => False)) (fun _ _ e => e)
/-- What is found in each sector. -/
def foundR (D : List Nat) (W : List Wt) : List (List Nat) := (List.range 4).map (found 64 D W)
theorem foundR_get (D : List Nat) (W : List Wt) (i : Nat) (h : i < 4) : (foundR D W)[i]? = some (found 64 D W i) := by simp [foundR, h]
theorem found_length {n size : Nat} {D : List Nat} {W : List Wt} (hD : D.length = n * size) (hW : Fits n size W) (s : Nat) (hs : s < n) : (found size D W s).length = size := by
  unfold found
  cases hl : lastOf W s with
  | none => exact secOf_length hD hs
  | some x => exact (hW x (lastOf_mem hl).1).2
theorem secs_kept {D : List Nat} {W : List Wt} (hD : D.length = 4 * 64) (hW : Fits 4 64 W) (L : Nat → Nat) (hL : ∀ i, i < W.length → L i = 64) : secs 4 64 (stl 64 L D W W.length) = foundR D W := by
  unfold secs foundR
  apply List.map_congr_left
  intro s hs
  exact found_kept hD hW L hL s (by simpa using hs)
theorem FAt.rowsAt {w : World} {B gf cap : Nat} {fs : List Nat} {R : List (List Nat)} (h : FAt w B gf cap fs R) : RowsAt w (some ⟨gf, 0, none⟩) R := by
  intro j xs hj
  have hlt : j < fs.length := by rw [h.len]; exact (List.getElem?_eq_some_iff.1 hj).1
  obtain ⟨r1, _, r3⟩ := h.rows j fs[j] xs (List.getElem?_eq_getElem hlt) hj
  refine ⟨gf, 0, some ⟨fs[j], 0, none⟩, 64, rfl, ?_, at_row r1, by omega⟩
  have := h.row.cells rfl j (bsl fs[j] 64) (by rw [slv, List.getElem?_map, List.getElem?_eq_getElem hlt]; rfl)
  rw [Addr.add_lit] at this
  rw [this, r3]
  rfl
theorem FatesAt.off {w w' : World} {fo : Option Addr} {F : List (Int × Int)} {S : Nat → Prop} {B : Nat} (h : FatesAt w fo F) (hk : Kept w w' S) (hB : ∀ a, fo = some a → 0 < F.length → B ≤ a.block) (hS : ∀ i, B ≤ i → ¬ S i) : FatesAt w' fo F := by
  intro j p hj
  obtain ⟨b, o, e, h1, h2⟩ := h j p hj
  have hl : 0 < F.length := Nat.lt_of_le_of_lt (Nat.zero_le _) (List.getElem?_eq_some_iff.1 hj).1
  have hb := hB ⟨b, o, none⟩ e hl
  have key : ∀ (q : Nat) (x : Value), w.cell? ⟨b, q, none⟩ = some x → w'.cell? ⟨b, q, none⟩ = some x := fun q x hx => (World.cell?_of_block (hk.block b (cell_lt hx) (hS b hb))).trans hx
  exact ⟨b, o, e, key _ _ h1, key _ _ h2⟩
theorem calm_own {k : Dk} {i : Nat} (h : k.calm.own i) : k.own i := by
  rcases h with e | e | e | e
  · exact .inl e
  · exact .inr (.inl e)
  · simp [Dk.calm, Value.ownBlock] at e
  · exact .inr (.inr (.inr e))
theorem log_abs {w : World} {B : Nat} {v u : Value} {W W' : List Wt} {gs : List Nat} (h : Log w B v u W gs) (e : abs W = abs W') : Log w B v u W' gs := by
  have hl : W'.length = W.length := by rw [← abs_length, ← e, abs_length]
  have hm : (W'.map fun x => Value.int .i64 (x.sec : Int)) = W.map fun x => Value.int .i64 (x.sec : Int) := by
    have h1 : ∀ V : List Wt, (V.map fun x => Value.int .i64 (x.sec : Int)) = (abs V).map fun p => Value.int .i64 (p.1 : Int) := fun V => by simp [abs]
    rw [h1, h1, e]
  refine ⟨by rw [hl]; exact h.wro, by rw [hl, hm]; exact h.whe, by rw [hl]; exact h.len, ?_⟩
  intro i g x h1 h2
  have hi : i < W.length := by rw [← hl]; exact (List.getElem?_eq_some_iff.1 h2).1
  have h3 : (abs W)[i]? = (abs W')[i]? := by rw [e]
  simp only [abs, List.getElem?_map, List.getElem?_eq_getElem hi, h2, Option.map_some, Option.some.injEq, Prod.mk.injEq] at h3
  rw [← h3.2]
  exact h.rows i g W[i] h1 (List.getElem?_eq_getElem hi)
end Go.Proofs.YtonokaelbpfjnaaGreatDoor
/- The document's disk: its rows, its sectors, what waits. -/
namespace Go.Proofs.YtonokaelbpfjnaaGreatDoor
open Go.RowKit Ap

/-- Bytes in a block of their own. -/
structure Bx where
  g : Nat
  c : Nat
  xs : List Nat
def Bx.v (b : Bx) : Value := .slice (some ⟨b.g, 0, none⟩) b.xs.length b.c
def BxAt (w : World) (lo : Nat) (b : Bx) : Prop := w.ownsRow lo 5 1 b.v b.xs.length (bv b.xs)
/-- A row of such bytes, no two in one block. -/
structure RowAt (w : World) (lo : Nat) (v : Value) (S : List Bx) : Prop where
  row : w.ownsRow lo 36 1 v S.length (S.map Bx.v)
  at_ : ∀ b ∈ S, BxAt w lo b
  nd : S.Pairwise (fun a b => a.g ≠ b.g)

theorem owns_off {w w' : World} {lo : Nat} {e : TypeId} {s n : Nat} {u : Value} {xs : List Value} {T : Nat → Prop} (ho : w.ownsRow lo e s u n xs) (hk : Kept w w' T) (hT : ∀ g, u.ownBlock = some g → ¬ T g) : w'.ownsRow lo e s u n xs := by
  refine ⟨ho.1, ?_⟩
  rcases ho.2 with e1 | ⟨g, cap, cur, rfl, h1, h2, h3⟩
  · exact Or.inl e1
  · exact Or.inr ⟨g, cap, cur, rfl, h1, hk.at h2 (hT g rfl), h3⟩
theorem owns_mono {w : World} {lo lo' : Nat} {e : TypeId} {s n : Nat} {u : Value} {xs : List Value} (h : w.ownsRow lo e s u n xs) (hl : lo' ≤ lo) : w.ownsRow lo' e s u n xs := by
  refine ⟨h.1, ?_⟩
  rcases h.2 with e1 | ⟨g, cap, cur, rfl, h1, h2⟩
  · exact Or.inl e1
  · exact Or.inr ⟨g, cap, cur, rfl, Nat.le_trans hl h1, h2⟩
theorem BxAt.off {w w' : World} {lo : Nat} {b : Bx} {T : Nat → Prop} (h : BxAt w lo b) (hk : Kept w w' T) (hT : ¬ T b.g) : BxAt w' lo b := owns_off h hk (fun g e => by cases e; exact hT)
theorem BxAt.grown {w w' : World} {lo : Nat} {b : Bx} (h : BxAt w lo b) (hg : w.grownBy w' none) : BxAt w' lo b := h.off (Kept.new hg (fun _ => False)) id
theorem BxAt.blk {w : World} {lo : Nat} {b : Bx} (h : BxAt w lo b) : lo ≤ b.g ∧ ∃ cur, w.heap[b.g]? = some (.cells cur 5 (0, 0)) := own_block h b.g rfl
theorem BxAt.lt {w : World} {lo : Nat} {b : Bx} (h : BxAt w lo b) : b.g < w.heap.size := row_lt h.blk.2.choose_spec
theorem BxAt.mono {w : World} {lo lo' : Nat} {b : Bx} (h : BxAt w lo b) (hl : lo' ≤ lo) : BxAt w lo' b := owns_mono h hl
theorem BxAt.at_ {w : World} {lo : Nat} {b : Bx} (h : BxAt w lo b) : At w (some ⟨b.g, 0, none⟩) b.xs := by
  intro j u hu
  exact ⟨_, rfl, World.ownsRow.cells h rfl j _ (bv_get b.xs j u hu)⟩
theorem RowAt.off {w w' : World} {lo : Nat} {v : Value} {S : List Bx} {T : Nat → Prop} (h : RowAt w lo v S) (hk : Kept w w' T) (hv : ∀ g, v.ownBlock = some g → ¬ T g) (hT : ∀ b ∈ S, ¬ T b.g) : RowAt w' lo v S :=
  ⟨owns_off h.row hk hv, fun b hb => (h.at_ b hb).off hk (hT b hb), h.nd⟩
theorem RowAt.grown {w w' : World} {lo : Nat} {v : Value} {S : List Bx} (h : RowAt w lo v S) (hg : w.grownBy w' none) : RowAt w' lo v S := h.off (Kept.new hg (fun _ => False)) (fun _ _ => id) (fun _ _ => id)
theorem RowAt.mono {w : World} {lo lo' : Nat} {v : Value} {S : List Bx} (h : RowAt w lo v S) (hl : lo' ≤ lo) : RowAt w lo' v S := ⟨owns_mono h.row hl, fun b hb => (h.at_ b hb).mono hl, h.nd⟩
theorem RowAt.nil (w : World) (lo : Nat) : RowAt w lo (.slice none 0 0) [] := ⟨World.ownsRow_nil _ _ _ _, by simp, List.Pairwise.nil⟩
/-- A row's own block holds no bytes. -/
theorem RowAt.ne {w : World} {lo : Nat} {v : Value} {S : List Bx} (h : RowAt w lo v S) {b : Bx} (hb : b ∈ S) : v.ownBlock ≠ some b.g := by
  intro e
  obtain ⟨_, c1, q1⟩ := own_block h.row b.g e
  obtain ⟨_, c2, q2⟩ := (h.at_ b hb).blk
  rw [q1] at q2
  simp at q2
/-- One row more. -/
theorem RowAt.snoc {w w1 w2 : World} {lo : Nat} {v v' : Value} {S : List Bx} {b : Bx} (h : RowAt w lo v S) (g1 : w.grownBy w1 none) (hb : BxAt w1 w.heap.size b) (hlo : lo ≤ w.heap.size)
    (g2 : w1.grownBy w2 v.ownBlock) (o : w2.ownsRow lo 36 1 v' (S.length + 1) (S.map Bx.v ++ [b.v])) : RowAt w2 lo v' (S ++ [b]) := by
  have hk : Kept w1 w2 (fun i => v.ownBlock = some i) := Kept.of g2 (fun j e _ => e)
  have h1 := h.grown g1
  have hbb := hb.blk
  refine ⟨by simpa using o, ?_, ?_⟩
  · intro x hx
    rcases List.mem_append.1 hx with hx | hx
    · exact (h1.at_ x hx).off hk (h1.ne hx)
    · simp at hx
      subst hx
      refine (hb.mono hlo).off hk ?_
      intro e
      have := (own_block h.row _ e).2.choose_spec
      have := row_lt this
      have := hbb.1
      omega
  · refine List.pairwise_append.2 ⟨h.nd, List.pairwise_singleton _ _, ?_⟩
    intro x hx y hy
    simp at hy
    subst hy
    have := (h.at_ x hx).lt
    have := hbb.1
    omega
theorem RowAt.rowsAt {w : World} {lo n : Nat} {v : Value} {S : List Bx} (h : RowAt w lo v S) (hn : S.length = n) (hs : ∀ b ∈ S, b.xs.length ≤ 4611686018427387904) : ∃ ao cap, v = .slice ao n cap ∧ RowsAt w ao (S.map Bx.xs) := by
  subst hn
  obtain ⟨ao, cap, rfl, hao, -, -⟩ := own_form h.row
  refine ⟨ao, cap, rfl, ?_⟩
  intro j xs hj
  rw [List.getElem?_map] at hj
  obtain ⟨b, hb, rfl⟩ := Option.map_eq_some_iff.1 hj
  obtain ⟨g, rfl⟩ := hao (Nat.lt_of_le_of_lt (Nat.zero_le _) (List.getElem?_eq_some_iff.1 hb).1)
  have hc := h.row.cells rfl j b.v (by rw [List.getElem?_map, hb]; rfl)
  rw [Addr.add_lit] at hc
  have hm := List.mem_of_getElem? hb
  exact ⟨g, 0, some ⟨b.g, 0, none⟩, b.c, rfl, hc, (h.at_ b hm).at_, hs b hm⟩

/-- The document's disk: its block, its two rows, the sectors, what waits. -/
structure Rk where
  r : Nat
  v : Value
  vw : Value
  S : List Bx
  V : List (Nat × Bx)
def vcells (V : List (Nat × Bx)) : List Value := V.flatMap fun x => [.int .i64 (x.1 : Int), x.2.v]
theorem vcells_length (V : List (Nat × Bx)) : (vcells V).length = V.length * 2 := by
  induction V with
  | nil => rfl
  | cons x V ih => simp [vcells] at ih ⊢; omega
theorem vcells_get (V : List (Nat × Bx)) (i : Nat) (x : Nat × Bx) (h : V[i]? = some x) : (vcells V)[2 * i]? = some (.int .i64 (x.1 : Int)) ∧ (vcells V)[2 * i + 1]? = some x.2.v := by
  induction V generalizing i with
  | nil => simp at h
  | cons y V ih =>
    cases i with
    | zero => simp at h; subst h; exact ⟨rfl, rfl⟩
    | succ i =>
      have e : 2 * (i + 1) = 2 * i + 1 + 1 := by omega
      rw [e]
      exact ih i (by simpa using h)
theorem vcells_snoc (V : List (Nat × Bx)) (x : Nat × Bx) : vcells (V ++ [x]) = vcells V ++ [.int .i64 (x.1 : Int), x.2.v] := by simp [vcells]
def rfoot (q : Rk) (i : Nat) : Prop := i = q.r ∨ q.v.ownBlock = some i ∨ q.vw.ownBlock = some i ∨ (∃ b ∈ q.S, b.g = i) ∨ ∃ x ∈ q.V, x.2.g = i
structure RefAt (w : World) (lo n size : Nat) (q : Rk) : Prop where
  head : w.heap[q.r]? = some (.cells #[q.v, q.vw] 144 (0, 0))
  low : lo ≤ q.r
  rows : RowAt w lo q.v q.S
  wrow : w.ownsRow lo 169 2 q.vw q.V.length (vcells q.V)
  wat : ∀ x ∈ q.V, BxAt w lo x.2
  nv : ∀ x ∈ q.V, ∀ b ∈ q.S, x.2.g ≠ b.g
  shape : Shape n size
  len : q.S.length = n
  sz : ∀ b ∈ q.S, b.xs.length = size
  wsz : ∀ x ∈ q.V, x.1 < n ∧ x.2.xs.length = size
section
variable {w w' : World} {lo n size : Nat} {q : Rk}
theorem RefAt.lt (h : RefAt w lo n size q) : ∀ i, rfoot q i → lo ≤ i ∧ i < w.heap.size := by
  rintro i (rfl | e | e | ⟨b, hb, rfl⟩ | ⟨x, hx, rfl⟩)
  · exact ⟨h.low, row_lt h.head⟩
  · obtain ⟨h1, c, h2⟩ := own_block h.rows.row i e; exact ⟨h1, row_lt h2⟩
  · obtain ⟨h1, c, h2⟩ := own_block h.wrow i e; exact ⟨h1, row_lt h2⟩
  · exact ⟨(h.rows.at_ b hb).blk.1, (h.rows.at_ b hb).lt⟩
  · exact ⟨(h.wat x hx).blk.1, (h.wat x hx).lt⟩
theorem RefAt.kept {T : Nat → Prop} (h : RefAt w lo n size q) (hk : Kept w w' T) (hT : ∀ i, rfoot q i → ¬ T i) : RefAt w' lo n size q :=
  ⟨hk.at h.head (hT _ (.inl rfl)), h.low, h.rows.off hk (fun g e => hT g (.inr (.inl e))) (fun b hb => hT _ (.inr (.inr (.inr (.inl ⟨b, hb, rfl⟩))))), owns_off h.wrow hk (fun g e => hT g (.inr (.inr (.inl e)))), fun x hx => (h.wat x hx).off hk (hT _ (.inr (.inr (.inr (.inr ⟨x, hx, rfl⟩))))), h.nv, h.shape, h.len, h.sz, h.wsz⟩
theorem RefAt.grown (h : RefAt w lo n size q) (hg : w.grownBy w' none) : RefAt w' lo n size q := h.kept (Kept.new hg (fun _ => False)) (fun _ _ => id)
theorem RefAt.c0 (h : RefAt w lo n size q) : w.cell? ⟨q.r, 0, none⟩ = some q.v := cell_row (l := [q.v, q.vw]) h.head 0
theorem RefAt.c1 (h : RefAt w lo n size q) : w.cell? ⟨q.r, 1, none⟩ = some q.vw := cell_row (l := [q.v, q.vw]) h.head 1
theorem RefAt.free (h : RefAt w lo n size q) (j : Nat) : w.frozen? ⟨q.r, j, none⟩ = false := free_row h.head j
/-- Its row of sectors, as a value. -/
theorem RefAt.vform (h : RefAt w lo n size q) : ∃ g cap, q.v = .slice (some ⟨g, 0, none⟩) n cap := by
  obtain ⟨ao, cap, hv, hao, -, -⟩ := own_form h.rows.row
  rw [h.len] at hv hao
  obtain ⟨g, rfl⟩ := hao (by have := h.shape.n0; omega)
  exact ⟨g, cap, hv⟩
theorem RefAt.sec (h : RefAt w lo n size q) {g cap s : Nat} (hv : q.v = .slice (some ⟨g, 0, none⟩) n cap) {b : Bx} (hs : q.S[s]? = some b) : w.cell? ⟨g, s, none⟩ = some (.slice (some ⟨b.g, 0, none⟩) size b.c) := by
  have hc := h.rows.row.cells (g := g) (by rw [hv]; rfl) s b.v (by rw [List.getElem?_map, hs]; rfl)
  rw [Addr.add_lit, Nat.zero_add, Bx.v, h.sz b (List.mem_of_getElem? hs)] at hc
  exact hc
theorem RefAt.get (h : RefAt w lo n size q) {s : Nat} (hs : s < n) : ∃ b, q.S[s]? = some b := ⟨q.S[s]'(by rw [h.len]; exact hs), List.getElem?_eq_getElem _⟩
theorem RefAt.wform (h : RefAt w lo n size q) : ∃ ao cap, q.vw = .slice ao q.V.length cap ∧ (0 < q.V.length → ∃ g, ao = some ⟨g, 0, none⟩) := by
  obtain ⟨ao, cap, hv, hao, -, -⟩ := own_form h.wrow
  exact ⟨ao, cap, hv, hao⟩
end
end Go.Proofs.YtonokaelbpfjnaaGreatDoor
/- The document's twin, May and Image. -/
namespace Go.Proofs.YtonokaelbpfjnaaGreatDoor
open Go.RowKit Ap
attribute [local go_sem ↓] Go.wp_at_zero Go.wp_at_succ

theorem cell_1 {w : World} {u : Value} {t : TypeId} : ∀ j x, [u][j]? = some x → (w.alloc (.cells #[u] t)).cell? ((⟨w.heap.size, 0, none⟩ : Addr).add j) = some x := by
  intro j x h
  rw [Addr.add_lit, Nat.zero_add, cell_of_row _ _ j #[u] t (0, 0) (heap_alloc_new w _)]
  simpa using h
set_option maxHeartbeats 1000000 in
theorem twin_any (ao : Option Addr) (m cap : Nat) (xs : List Nat) (w : World) (hat : At w ao xs) (hl : xs.length = m) (hm0 : 0 < m) (hnil : ao = none → m = 0 ∧ cap = 0) (hm : m ≤ 140737488355328) :
    Calls Tryz.prog 133 #[.slice ao m cap] w fun e w' => ∃ g c, e = .returned (.slice (some ⟨g, 0, none⟩) m c) ∧ BxAt w' w.heap.size ⟨g, c, xs⟩ ∧ w.grownBy w' none := by
  have HH := hide (And.intro hat (And.intro hl hnil))
  clear hat hl hnil
  go_enter Tryz.func133, Tryz.ntmps133
  go_wp2_with (at_builtin; refine wpList_append_at rfl (.tmp 3) (.tmp 4) rfl w.heap.size (.slice (some ⟨w.heap.size, 0, none⟩) 0 0) 0 [] rfl (World.ownsRow_made w #[] 0 (Nat.le_refl _) (Nat.zero_le _) rfl) ao m cap xs rfl HH.out.2.1 (HH.out.1.grown (World.grownBy_alloc w _ none)) HH.out.2.2 (by omega) (World.grownBy_alloc w _ none).size ?_)
  intro v' w' hown hg
  have hgr : w.grownBy w' none := grown_then (World.grownBy_alloc w _ none) hg (fun k e => by cases e; exact Or.inl (Nat.le_refl _))
  rcases hown.2 with ⟨rfl, h0⟩ | ⟨g, cap', cur, rfl, h1, h2, h3, h4, h5, h6⟩
  · omega
  · have HX := hide (And.intro hown hgr)
    clear hown hgr h1 h2 h3 h4 h5 h6 hg
    go_wp2
    go_ret
    refine ⟨g, cap', rfl, ?_, HX.out.2⟩
    have := HX.out.1
    rw [BxAt, Bx.v]
    simp only []
    rw [HH.out.2.1]
    simpa using this

/-- The document's May. -/
theorem mayR_any (n size : Int) (w : World) : Calls Tryz.prog 89 #[.int .i64 n, .int .i64 size] w fun e w' => e = .returned (.bool (mayB n size)) ∧ w' = w := by
  by_cases h : 64 ≤ size ∧ size ≤ 4096
  · obtain ⟨h3, h4⟩ := h
    by_cases hb : p2 size = true
    · have hb2 : bits .and .i64 size (size - 1) = 0 := by
        unfold p2 at hb
        have := of_decide_eq_true hb
        rwa [show IntKind.i64.wrap (size - 1) = size - 1 by rw [IntKind.wrap_i64]; omega] at this
      by_cases h1 : 1 ≤ n
      · by_cases h2 : n ≤ 65536
        · have hlo : 0 ≤ n * size := Int.mul_nonneg (by omega) (by omega)
          have hhi : n * size ≤ 65536 * 4096 := Int.mul_le_mul h2 h4 (by omega) (by omega)
          have hw : wrap64 (n * size) = n * size := by unfold wrap64; omega
          have e : mayB n size = decide (n * size ≤ 67108864) := by simp [mayB, h1, h2, h3, h4, hb]
          rw [e]
          clear e hb
          go_enter Tryz.func89, Tryz.ntmps89
          go_wp2
          go_ret
          exact ⟨by simp, rfl⟩
        · have e : mayB n size = false := by simp [mayB, h2]
          rw [e]
          clear e hb
          go_enter Tryz.func89, Tryz.ntmps89
          go_wp2
          go_ret
          exact ⟨rfl, rfl⟩
      · have e : mayB n size = false := by simp [mayB, h1]
        rw [e]
        clear e hb
        go_enter Tryz.func89, Tryz.ntmps89
        go_wp2
        go_ret
        exact ⟨rfl, rfl⟩
    · have hb0 : p2 size = false := by simpa using hb
      have hb2 : ¬ bits .and .i64 size (size - 1) = 0 := by
        intro e
        apply hb
        unfold p2
        rw [show IntKind.i64.wrap (size - 1) = size - 1 by rw [IntKind.wrap_i64]; omega]
        exact decide_eq_true e
      have e : mayB n size = false := by simp [mayB, hb0]
      rw [e]
      have g2 : (bits .and .i64 size (size - 1) == 0) = false := by simpa using hb2
      have g3 : decide (bits .and .i64 size (size - 1) = 0) = false := by simpa using hb2
      clear e hb hb0
      go_enter Tryz.func89, Tryz.ntmps89
      go_wp2
      go_ret
      exact ⟨rfl, rfl⟩
  · have e : mayB n size = false := by
      simp only [mayB]
      by_cases a3 : 64 ≤ size
      · by_cases a4 : size ≤ 4096
        · exact absurd ⟨a3, a4⟩ h
        · simp [a4]
      · simp [a3]
    rw [e]
    by_cases a3 : 64 ≤ size
    · by_cases a4 : size ≤ 4096
      · exact absurd ⟨a3, a4⟩ h
      · clear h e
        go_enter Tryz.func89, Tryz.ntmps89
        go_wp2
        go_ret
        exact ⟨rfl, rfl⟩
    · clear h e
      go_enter Tryz.func89, Tryz.ntmps89
      go_wp2
      go_ret
      exact ⟨rfl, rfl⟩

set_option maxRecDepth 20000 in
set_option maxHeartbeats 4000000 in
theorem rimage_row {w : World} {lo rb n : Nat} {v : Value} {S : List Bx} (h : RowAt w lo v S) (hn : n = S.length) (hc0 : w.cell? ⟨rb, 0, none⟩ = some v) (hR : n ≤ 65536) (hl : ∀ b ∈ S, 0 < b.xs.length ∧ b.xs.length ≤ 4096) : Calls Tryz.prog 104 #[.pointer (some ⟨rb, 0, none⟩)] w fun e w' => ∃ ao cap S', e = .returned (.slice ao n cap) ∧ RowAt w' w.heap.size (.slice ao n cap) S' ∧ S'.map Bx.xs = S.map Bx.xs ∧ w.grownBy w' none := by
  obtain ⟨vo, vcap, rfl, hvo, -, -⟩ := own_form h.row
  have hc : w.cell? ⟨rb, 0, none⟩ = some (.slice vo n vcap) := by rw [hn]; exact hc0
  have HH := hide (And.intro h (And.intro hl (And.intro hn hvo)))
  obtain ⟨i46, hi, hz0, hz1, hz2⟩ := info_parts Tryz.info36
  have HI := hide (And.intro hi (And.intro hz0 (And.intro hz1 hz2)))
  clear hi hz0 hz1 hz2 h hl hn hvo hc0
  go_enter Tryz.func104, Tryz.ntmps104
  go_wp2
  go_loopg [3, 4] n (fun q s i wr => ∃ j : Nat, q + j = n ∧ i = .int .i64 j ∧ Hid (∃ S', S'.length = j ∧ RowAt wr w.heap.size s S' ∧ S'.map Bx.xs = (S.map Bx.xs).take j ∧ w.grownBy wr none))
  case atStart => exact ⟨0, by omega, rfl, hide ⟨[], rfl, RowAt.nil _ _, by simp, grown_refl _ _⟩⟩
  case round =>
    obtain ⟨j, hkj, rfl, HR⟩ := hrel
    obtain ⟨S', u1, u2, u3, u4⟩ := HR.out
    have hcr := u4.cell hc (by simp)
    by_cases hk : 0 < gk
    · have hj : j < n := by omega
      have hjS : j < S.length := by have := HH.out.2.2.1; omega
      obtain ⟨g0, rfl⟩ := HH.out.2.2.2 (by omega)
      have hx := List.getElem?_eq_getElem hjS
      generalize S[j] = b at *
      have hbm := List.mem_of_getElem? hx
      have hcj : wr.cell? ⟨g0, j, none⟩ = some (.slice (some ⟨b.g, 0, none⟩) b.xs.length b.c) := by
        have := (HH.out.1.grown u4).row.cells rfl j b.v (by rw [List.getElem?_map, hx]; rfl)
        rwa [Addr.add_lit, Nat.zero_add] at this
      have hyl := HH.out.2.1 b hbm
      have HT := hide (twin_any (some ⟨b.g, 0, none⟩) b.xs.length b.c b.xs wr ((HH.out.1.grown u4).at_ b hbm).at_ rfl hyl.1 (fun e => by cases e) (by omega))
      have HX := hide (And.intro u1 (And.intro u2 (And.intro u3 (And.intro u4 hx))))
      obtain ⟨ln, hln⟩ : ∃ ln, ln = b.xs.length := ⟨_, rfl⟩
      rw [← hln] at hcj HT
      have HLN := hide hln
      have h1 : (0 : Int) ≤ (j : Int) := by omega
      have h2 : (j : Int) < (n : Int) := by omega
      clear u1 u2 u3 u4 hx hbm hyl hln HR
      go_wp2_with fail
      refine HT.out.mono ?_
      rintro e w1 ⟨gt, ct, rfl, o1, g1⟩
      have A1 := hide (And.intro o1 g1)
      clear o1 g1
      have HO : Hid (w1.ownsRow w.heap.size 36 1 u3 j (S'.map Bx.v)) := by have := HX.out.2.1.row.kept A1.out.2 (Classical.em _); rw [HX.out.1] at this; exact this
      go_wp2_with (at_builtin; refine wpList_append_own _ rfl (.tmp 14) (.tmp 23) 91 rfl w.heap.size 36 i46 (.slice none 0 0) 1 24 Tryz.underlying91 HI.out.1 HI.out.2.1 HI.out.2.2.1 HI.out.2.2.2 rfl (by decide) u3 j (S'.map Bx.v) rfl (HO.out.alloc _) ⟨w1.heap.size, 0, none⟩ 1 1 [.slice (some ⟨gt, 0, none⟩) ln ct] rfl rfl cell_1 (fun u hu => by simp at hu; subst hu; rfl) (by unfold maxLen; omega) (by omega) ?_ ?_)
      · exact Nat.le_trans HX.out.2.2.2.1.size (Nat.le_trans A1.out.2.size (World.grownBy_alloc w1 _ none).size)
      intro v' w2 o2 g2 _
      have A2 := hide (And.intro o2 g2)
      clear o2 g2
      go_wp2
      go_roundg (gk - 1)
      case measure => omega
      case rel =>
        obtain ⟨f1, f2, f3, f4, fx⟩ := HX.out
        have gz : w1.grownBy (w1.alloc (.cells #[.slice (some ⟨gt, 0, none⟩) ln ct] 36)) none := World.grownBy_alloc w1 _ none
        have hb1 : BxAt w1 wr.heap.size ⟨gt, ct, b.xs⟩ := A1.out.1
        refine ⟨j + 1, by omega, by go_num, hide ⟨S' ++ [⟨gt, ct, b.xs⟩], by simp [f1], ?_, ?_, ?_⟩⟩
        · refine f2.snoc (grown_trans A1.out.2 gz) (hb1.grown gz) f4.size A2.out.2 ?_
          rw [f1]
          have := A2.out.1
          rw [HLN.out] at this
          exact this
        · rw [List.map_append, f3, take_snoc _ j b.xs (by rw [List.getElem?_map, fx]; rfl)]
          rfl
        · exact grown_then (grown_trans (grown_trans f4 A1.out.2) gz) A2.out.2 (fun b e => Or.inl (own_block HO.out b e).1)
    · have hj : j = n := by omega
      subst hj
      obtain ⟨ro, rcap, rfl, -, -, -⟩ := own_form u2.row
      have HX := hide (And.intro u1 (And.intro u2 (And.intro u3 u4)))
      clear u1 u2 u3 u4 HR hkj hk
      go_wp2
      go_ret
      obtain ⟨f1, f2, f3, f4⟩ := HX.out
      rw [f1] at f2 ⊢
      refine ⟨ro, rcap, S', rfl, f2, ?_, f4⟩
      rw [f3, List.take_of_length_le (by rw [List.length_map]; have := HH.out.2.2.1; omega)]
end Go.Proofs.YtonokaelbpfjnaaGreatDoor
