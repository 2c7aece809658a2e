/- Texts joined: Does, Image, Copy, Sep. -/
import Derived.Test.YtaopcidkgcekdaaGreatJsAd
import Derived.Deep.CutRange
import Derived.Deep.DeepCutAuto
import Derived.Shelf.SlMaps.Clone
/- The contract of does. -/
namespace Go.Proofs.YtaopcidkgcekdaaGreat
open Go.RowKit Ap
attribute [local go_sem ↓] Go.wp_at_zero Go.wp_at_succ

theorem FatesAt.kept2 {w w' : World} {fo : Option Addr} {F : List (Int × Int)} {row : Option Nat} (h : FatesAt w fo F) (hg : w.grownBy w' row) (hr : ∀ a, fo = some a → 0 < F.length → some a.block ≠ row) : FatesAt w' fo F := by
  intro j p hj
  obtain ⟨b, o, e, h1, h2⟩ := h j p hj
  have hl : 0 < F.length := Nat.lt_of_le_of_lt (Nat.zero_le _) (List.getElem?_eq_some_iff.1 hj).1
  have hb : some b ≠ row := hr ⟨b, o, none⟩ e hl
  exact ⟨b, o, e, hg.cell h1 hb, hg.cell h2 hb⟩
theorem FIn.grown {w w' : World} {fo : Option Addr} {cap : Nat} {F : List (Int × Int)} (h : FIn w fo cap F) (hg : w.grownBy w' none) : FIn w' fo cap F :=
  ⟨h.at_.grown hg, h.nil, h.size, fun a e hl => Nat.lt_of_lt_of_le (h.lt a e hl) hg.size⟩
theorem OpAt.grown {w w' : World} {b off : Nat} {o : OpD} {fo : Option Addr} {cap : Nat} (h : OpAt w b off o fo cap) (hg : w.grownBy w' none) : OpAt w' b off o fo cap :=
  ⟨hg.cell h.c0 (by simp), hg.cell h.c1 (by simp), hg.cell h.c2 (by simp), hg.cell h.c3 (by simp), hg.cell h.c4 (by simp), hg.cell h.c5 (by simp), h.fin.grown hg⟩
theorem OpsAt.grown {w w' : World} {ao : Option Addr} {os : List OpD} (h : OpsAt w ao os) (hg : w.grownBy w' none) : OpsAt w' ao os := by
  intro j o hj
  obtain ⟨b, off, fo, cap, e, ho⟩ := h j o hj
  exact ⟨b, off, fo, cap, e, ho.grown hg⟩

section
variable {w0 w : World} {k : Dk} {n size : Nat} {D : List Nat} {W : List Wt}
set_option maxHeartbeats 400000 in
theorem crash2 {d : Nat} (hd : k.d = d) (h : DkS w0 w k n size D W) (fo : Option Addr) (m cap : Nat) (F : List (Int × Int)) (hm : F.length = m) (hF : FatesAt w fo F) (hfo : ∀ a, fo = some a → 0 < F.length → a.block ≠ k.db) : Calls Tryz.prog 79 #[.pointer (some ⟨d, 0, none⟩), .slice fo m cap] w fun e w' => e = .returned (.int .i64 0) ∧
    DkS w0 w' k.calm n size (stl size (fun i => lasts (fateK F i) (fateA F i) size) D W W.length) [] ∧ Kept w w' (fun i => i = k.d ∨ i = k.db ∨ i = k.mb) := by
  subst hd
  have g0 := World.grownBy_alloc w (.cells #[.slice fo m cap] 33) none
  have hdb := h.disk.lt k.db (.inl (.inr (.inl rfl)))
  have H := hide (settle59 ⟨w.heap.size, 0, none⟩ (fateK F) (fateA F) (h.disk.grown g0) (fun i _ w' hg => fate_any i m cap fo F w.heap.size w' hm ((hF.grown g0).kept2 hg (fun a e hl e' => hfo a e hl (Option.some.inj e')))
    (hg.cell (cell_new w _ 33) (fun e => by have : w.heap.size = k.db := Option.some.inj e; omega))))
  have HK : Hid (∀ w' : World, Kept (w.alloc (.cells #[.slice fo m cap] 33)) w' (fun i => i = k.d ∨ i = k.db ∨ i = k.mb) → Kept w w' (fun i => i = k.d ∨ i = k.db ∨ i = k.mb)) := fun w' hk => (Kept.new g0 _).trans hk (fun _ _ e => e)
  have hmf : ∀ (fn : Fn) (first cap : Array Value) (w : World), (Instr.makeFunc fn first cap).run Tryz.prog w = .ok (.func fn first cap) w := fun _ _ _ _ => rfl
  have HD := hide h
  clear h g0 hF hfo hm hdb
  go_enter Tryz.func79, Tryz.ntmps79
  go_wp2_with fail
  refine H.out.mono ?_
  rintro e w' ⟨rfl, h1, h2⟩
  have HH := hide (And.intro (HD.out.calm h1 (HK.out _ h2)) (HK.out _ h2))
  clear h1 h2
  go_wp2
  go_ret
  exact ⟨rfl, HH.out⟩
end

/-- What waits, without where. -/
abbrev Pr := Nat × List Nat
def abs (W : List Wt) : List Pr := W.map fun x => (x.sec, x.xs)
def stlP (size : Nat) (L : Nat → Nat) (D : List Nat) (P : List Pr) : Nat → List Nat
  | 0 => D
  | j + 1 => match P[j]? with
    | some x => splice (stlP size L D P j) (x.1 * size) (x.2.take (L j))
    | none => stlP size L D P j
theorem stl_abs (size : Nat) (L : Nat → Nat) (D : List Nat) (W : List Wt) (j : Nat) : stl size L D W j = stlP size L D (abs W) j := by
  induction j with
  | zero => rfl
  | succ j ih =>
    rw [stl, stlP, abs, List.getElem?_map]
    cases hx : W[j]? with
    | none => simpa [abs] using ih
    | some x => simp only [Option.map_some]; rw [ih]; rfl
theorem abs_length (W : List Wt) : (abs W).length = W.length := by simp [abs]
/-- A step of a script, on what lies there. -/
def absStep (st : List Nat × List Pr) (o : OpD) : List Nat × List Pr :=
  if o.d0 % 4 = 2 then (stlP 64 (fun _ => 64) st.1 st.2 st.2.length, [])
  else if o.d0 % 4 = 3 then (stlP 64 (fun i => lasts (fateK o.F i) (fateA o.F i) 64) st.1 st.2 st.2.length, [])
  else (st.1, st.2 ++ [((o.d2 % 4).toNat, fills o.d3 64)])
theorem absStep_len (st : List Nat × List Pr) (o : OpD) : (absStep st o).2.length ≤ st.2.length + 1 := by
  unfold absStep; split
  · simp
  · split <;> simp

/-- One disk, before and after. -/
structure Moved (w w' : World) (k k' : Dk) (W W' : List Wt) : Prop where
  d : k'.d = k.d
  db : k'.db = k.db
  own : ∀ i, k'.own i → k.own i ∨ w.heap.size ≤ i
  blk : ∀ x ∈ W', (∃ y ∈ W, y.blk = x.blk) ∨ w.heap.size ≤ x.blk
  kept : Kept w w' k.own
theorem Moved.refl (w : World) (k : Dk) (W : List Wt) : Moved w w k k W W := ⟨rfl, rfl, fun _ h => Or.inl h, fun x hx => Or.inl ⟨x, hx, rfl⟩, Kept.refl _ _⟩
theorem Moved.trans {a b c : World} {k k' k'' : Dk} {W W' W'' : List Wt} (h : Moved a b k k' W W') (g : Moved b c k' k'' W' W'') : Moved a c k k'' W W'' := by
  refine ⟨g.d.trans h.d, g.db.trans h.db, ?_, ?_, h.kept.trans g.kept ?_⟩
  · intro i hi
    rcases g.own i hi with h1 | h1
    · exact h.own i h1
    · exact Or.inr (Nat.le_trans h.kept.size h1)
  · intro x hx
    rcases g.blk x hx with ⟨y, hy, e⟩ | h1
    · rw [← e]
      exact h.blk y hy
    · exact Or.inr (Nat.le_trans h.kept.size h1)
  · intro i hi h1
    rcases h.own i h1 with h2 | h2
    · exact h2
    · omega
theorem Moved.new {a b c : World} {k k' : Dk} {W W' : List Wt} (h : Moved a b k k' W W') (g : b.grownBy c none) : Moved a c k k' W W' := ⟨h.d, h.db, h.own, h.blk, h.kept.trans (Kept.new g _) (fun _ _ e => e)⟩
theorem Moved.pre {a b c : World} {k k' : Dk} {W W' : List Wt} (g : a.grownBy b none) (h : Moved b c k k' W W') : Moved a c k k' W W' :=
  ⟨h.d, h.db, fun i hi => (h.own i hi).imp id (fun e => Nat.le_trans g.size e), fun x hx => (h.blk x hx).imp id (fun e => Nat.le_trans g.size e), (Kept.new g _).trans h.kept (fun _ _ e => e)⟩
section
variable {w0 w : World} {k : Dk} {n size : Nat} {D : List Nat} {W : List Wt}
theorem Wrote.moved {w' : World} {k' : Dk} {s : Nat} {xs : List Nat} (hw : Wrote w w' k k' n size D W s xs) : Moved w w' k k' W (W ++ [⟨s, w.heap.size, xs⟩]) := by
  refine ⟨hw.d, hw.db, ?_, ?_, hw.kept.mono ?_⟩
  · rintro i (e | e | e | e)
    · rw [hw.d] at e; exact Or.inl (.inl e)
    · rw [hw.db] at e; exact Or.inl (.inr (.inl e))
    · exact (hw.vw i e).imp (fun e => .inr (.inr (.inl e))) id
    · rw [hw.mb] at e; exact Or.inl (.inr (.inr (.inr e)))
  · intro x hx
    rcases List.mem_append.1 hx with hx | hx
    · exact Or.inl ⟨x, hx, rfl⟩
    · simp at hx; subst hx; exact Or.inr (Nat.le_refl _)
  · rintro i _ (e | e | e)
    · exact .inl e
    · exact .inr (.inr (.inl e))
    · exact .inr (.inr (.inr e))
theorem calm_moved {w' : World} (hk : Kept w w' (fun i => i = k.d ∨ i = k.db ∨ i = k.mb)) : Moved w w' k k.calm W [] := by
  refine ⟨rfl, rfl, ?_, by simp, hk.mono ?_⟩
  · rintro i (e | e | e | e)
    · exact Or.inl (.inl e)
    · exact Or.inl (.inr (.inl e))
    · simp [Dk.calm, Value.ownBlock] at e
    · exact Or.inl (.inr (.inr (.inr e)))
  · rintro i _ (e | e | e)
    · exact .inl e
    · exact .inr (.inl e)
    · exact .inr (.inr (.inr e))
end

theorem do4 (x : Int) : x % 4 = 2 ∨ x % 4 = 3 ∨ (x % 4 = 0 ∨ x % 4 = 1) := by omega
theorem take_snoc {α : Type} (l : List α) (j : Nat) (x : α) (h : l[j]? = some x) : l.take (j + 1) = l.take j ++ [x] := by
  rw [List.take_add_one, h]; rfl
end Go.Proofs.YtaopcidkgcekdaaGreat
/- The contract of Image. -/
namespace Go.Proofs.YtaopcidkgcekdaaGreat
open Go.RowKit Ap
attribute [local go_sem ↓] Go.wp_at_zero Go.wp_at_succ

theorem Tryz.info32 : (Tryz.prog.info? 32).map (fun i => (i.zero, i.size, i.bytes)) = some (some (.slice none 0 0), 1, 24) := by kernel_rfl
/-- Slices of one size, each from the beginning of its block. -/
def slv (size : Nat) (hs : List Nat) : List Value := hs.map fun h => bsl h size
def nils (n : Nat) : List Value := List.replicate n (.slice none 0 0)
theorem made_nils (n : Nat) : madeCells #[.slice none 0 0] n = (nils n).toArray := by
  apply Array.ext'
  rw [toList_madeCells_one]; rfl
theorem make_rows (n : Nat) (h : n ≤ 65536) (w : World) : (Instr.makeSlice 41 (.int .i64 (n : Int)) (.int .i64 (n : Int))).run Tryz.prog w = .ok (.slice (some ⟨w.heap.size, 0, none⟩) n n) (w.alloc (.cells (nils n).toArray 32)) := by
  obtain ⟨i0, hi, hz0, hz1, hz2⟩ := info_parts Tryz.info32
  rw [run_make (P := Tryz.prog) (w := w) 41 32 i0 (.slice none 0 0) Tryz.underlying41 hi hz0 .i64 .i64 (n : Int) (n : Int) (by omega) (by omega) (by rw [hz2]; omega) (by omega), hz1]
  rw [Int.toNat_natCast, Nat.mul_one]
  show Result.ok _ (w.alloc (.cells (madeCells #[.slice none 0 0] n) 32)) = _
  rw [made_nils]
/-- Rows in blocks of their own lie behind the slices of block g. -/
structure ImgAt (w : World) (lo g size : Nat) (R : List (List Nat)) (hs : List Nat) : Prop where
  row : w.heap[g]? = some (.cells (slv size hs).toArray 32 (0, 0))
  len : hs.length = R.length
  rows : ∀ (j h : Nat) (xs : List Nat), hs[j]? = some h → R[j]? = some xs → w.heap[h]? = some (.cells (bv xs).toArray 5 (0, 0)) ∧ xs.length = size ∧ lo ≤ h
  up : ∀ (i j a b : Nat), hs[i]? = some a → hs[j]? = some b → i < j → a < b
theorem ImgAt.grown {w w' : World} {lo g size : Nat} {R : List (List Nat)} {hs : List Nat} (h : ImgAt w lo g size R hs) (hg : w.grownBy w' none) : ImgAt w' lo g size R hs :=
  ⟨(hg.block _ (row_lt h.row) (by simp)).trans h.row, h.len, fun j a xs h1 h2 => by obtain ⟨r1, r2, r3⟩ := h.rows j a xs h1 h2; exact ⟨(hg.block _ (row_lt r1) (by simp)).trans r1, r2, r3⟩, h.up⟩
theorem ImgAt.off {w w' : World} {lo g size : Nat} {R : List (List Nat)} {hs : List Nat} {S : Nat → Prop} (h : ImgAt w lo g size R hs) (hk : Kept w w' S) (hg : ¬ S g) (hr : ∀ a ∈ hs, ¬ S a) : ImgAt w' lo g size R hs :=
  ⟨hk.at h.row hg, h.len, fun j a xs h1 h2 => by obtain ⟨r1, r2, r3⟩ := h.rows j a xs h1 h2; exact ⟨hk.at r1 (hr a (List.mem_of_getElem? h1)), r2, r3⟩, h.up⟩
theorem ImgAt.rowsAt {w : World} {lo g size : Nat} {R : List (List Nat)} {hs : List Nat} (h : ImgAt w lo g size R hs) (hsz : size ≤ 4096) : RowsAt w (some ⟨g, 0, none⟩) R := by
  intro j xs hj
  have hlt : j < hs.length := by rw [h.len]; exact (List.getElem?_eq_some_iff.1 hj).1
  obtain ⟨r1, r2, _⟩ := h.rows j hs[j] xs (List.getElem?_eq_getElem hlt) hj
  refine ⟨g, 0, some ⟨hs[j], 0, none⟩, size, rfl, ?_, at_row r1, by omega⟩
  rw [Nat.zero_add, cell_row h.row, slv, List.getElem?_map, List.getElem?_eq_getElem hlt, r2]
  rfl
theorem rowI_set (size n j : Nat) (hs : List Nat) (a : Nat) (hl : hs.length = j) (hj : j < n) : (slv size hs ++ nils (n - j)).set j (bsl a size) = slv size (hs ++ [a]) ++ nils (n - (j + 1)) := by
  have e : n - j = (n - (j + 1)) + 1 := by omega
  have hl' : (slv size hs).length = j := by simp [slv, hl]
  rw [List.set_append, hl', if_neg (by omega), Nat.sub_self, e, nils, List.replicate_succ, List.set_cons_zero, slv, slv, List.map_append, List.append_assoc]
  rfl
theorem rowI_get (size n j : Nat) (hs : List Nat) (hl : hs.length = j) (hj : j < n) : (slv size hs ++ nils (n - j))[j]? = some (.slice none 0 0) := by
  have hl' : (slv size hs).length = j := by simp [slv, hl]
  rw [List.getElem?_append_right (by omega), hl', Nat.sub_self, nils, List.getElem?_replicate, if_pos (by omega)]

set_option maxRecDepth 20000 in
set_option maxHeartbeats 400000 in
theorem image_none (p : Option Addr) (w : World) (h : NoDisk w p) : Calls Tryz.prog 58 #[.pointer p] w fun e w' => e = .returned (.slice (some ⟨w.heap.size, 0, none⟩) 0 0) ∧ w.grownBy w' none := by
  have H := hide (sectors_none p w h)
  have hmk : (Instr.makeSlice 41 (.int .i64 0) (.int .i64 0)).run Tryz.prog w = .ok (.slice (some ⟨w.heap.size, 0, none⟩) 0 0) (w.alloc (.cells #[] 32)) := make_rows 0 (by omega) w
  clear h
  go_enter Tryz.func58, Tryz.ntmps58
  go_wp2_with fail
  refine H.out.mono ?_
  rintro e w' ⟨rfl, rfl⟩
  go_wp2
  go_loopg [10] 0 (fun q i wr => i = .int .i64 0 ∧ Hid (w'.grownBy wr none))
  case atStart => exact ⟨rfl, World.grownBy_alloc w' _ none⟩
  case round =>
    obtain ⟨rfl, HG⟩ := hrel
    go_wp2
    go_ret
    exact ⟨rfl, HG.out⟩

section
variable {w : World} {k : Dk} {n size : Nat} {D : List Nat} {W : List Wt}
set_option maxRecDepth 20000 in
set_option maxHeartbeats 4000000 in
theorem image_any (h : DiskAt w k n size D W) : Calls Tryz.prog 58 #[.pointer (some ⟨k.d, 0, none⟩)] w fun e w' => ∃ hs, e = .returned (.slice (some ⟨w.heap.size, 0, none⟩) n n) ∧ ImgAt w' w.heap.size w.heap.size size (secs n size D) hs ∧ w.grownBy w' none := by
  have H := hide (sectors_any h)
  have HM := hide (fun q => make_rows n h.shape.n1 (w.drewN q))
  have HD := hide h
  have hn1 := h.shape.n1
  clear h
  go_enter Tryz.func58, Tryz.ntmps58
  go_wp2_with fail
  refine H.out.mono ?_
  rintro e w' ⟨rfl, q, rfl⟩
  have hmk := HM.out q
  have HW : Hid (w.grownBy (w.drewN q) none ∧ (w.drewN q).heap.size = w.heap.size) := ⟨grown_drewN _ _ _, rfl⟩
  clear HM H
  generalize w.drewN q = wq at *
  rw [HW.out.2] at hmk
  go_wp2
  go_loopg [10] n (fun q i wr => ∃ j : Nat, q + j = n ∧ i = .int .i64 j ∧ Hid (∃ hs, hs.length = j ∧ wr.heap[w.heap.size]? = some (.cells (slv size hs ++ nils (n - j)).toArray 32 (0, 0)) ∧
      (∀ (i a : Nat), hs[i]? = some a → wr.heap[a]? = some (.cells (bv (secOf size D i)).toArray 5 (0, 0)) ∧ w.heap.size < a) ∧ (∀ (i j a b : Nat), hs[i]? = some a → hs[j]? = some b → i < j → a < b) ∧ w.grownBy wr none))
  case atStart => exact ⟨0, by omega, rfl, hide ⟨[], rfl, by rw [← HW.out.2]; exact heap_alloc_new wq _, by simp, by simp, grown_trans HW.out.1 (World.grownBy_alloc wq _ none)⟩⟩
  case round =>
    obtain ⟨j, hkj, rfl, HR⟩ := hrel
    by_cases hk : 0 < gk
    · have hj : j < n := by omega
      have HR' := hide HR.out
      obtain ⟨hs, hl, r1, r2, r3, r4⟩ := HR.out
      have D1 := HD.out.grown r4
      have HS := hide (sector_any D1 j hj)
      have HC := hide (fun q => copied_any (some ⟨k.db, j * size, none⟩) size (n * size - j * size) (secOf size D j) (wr.drewN q) (at_sector (D1.grown (grown_drewN _ q _)) j) (secOf_length HD.out.len hj) (by have := HD.out.shape.s1; omega))
      have HX := hide (And.intro hl (And.intro r1 (And.intro r2 (And.intro r3 r4))))
      have h1 : (0 : Int) ≤ (j : Int) := by omega
      have h2 : (j : Int) < (n : Int) := by omega
      generalize n * size - j * size = cc at *
      generalize j * size = off at *
      clear hl r1 r2 r3 r4 D1 HR HR' hmk
      go_wp2_with fail
      refine HS.out.mono ?_
      rintro e w2 ⟨rfl, q2, rfl⟩
      go_wp2_with fail
      refine (HC.out q2).mono ?_
      rintro e w3 ⟨rfl, a3, g3⟩
      have e3 : w3.heap[w.heap.size]? = some (.cells (slv size hs ++ nils (n - j)).toArray 32 (0, 0)) := (g3.block _ (row_lt (show (wr.drewN q2).heap[w.heap.size]? = _ from HX.out.2.1)) (by simp)).trans HX.out.2.1
      have c3 : w3.cell? ⟨w.heap.size, j, none⟩ = some (.slice none 0 0) := by rw [cell_row e3]; exact rowI_get size n j hs HX.out.1 hj
      have f3 : w3.frozen? ⟨w.heap.size, j, none⟩ = false := free_row e3 _
      have H3 := hide (And.intro a3 (And.intro g3 e3))
      clear a3 g3 e3
      go_wp2
      go_roundg (gk - 1)
      case measure => omega
      case rel =>
        obtain ⟨a3, g3, e3⟩ := H3.out
        obtain ⟨hl, r1, r2, r3, r4⟩ := HX.out
        have g3' : wr.grownBy w3 none := grown_trans (grown_drewN _ _ _) g3
        have hsz : w.heap.size < wr.heap.size := row_lt r1
        refine ⟨j + 1, by omega, by go_num, hide ⟨hs ++ [wr.heap.size], by simp [hl], ?_, ?_, ?_, ?_⟩⟩
        · rw [row_setCell e3]
          exact congrArg (fun l => some (Obj.cells (List.toArray l) 32 (0, 0))) (rowI_set size n j hs wr.heap.size hl hj)
        · intro i a hi
          by_cases hij : i < hs.length
          · rw [List.getElem?_append_left hij] at hi
            obtain ⟨s1, s2⟩ := r2 i a hi
            exact ⟨(Below.heap_setCell _ _ _ _ (show a ≠ w.heap.size by omega)).trans ((g3'.block _ (row_lt s1) (by simp)).trans s1), s2⟩
          · have hlt := (List.getElem?_eq_some_iff.1 hi).1
            have hij2 : i = j := by simp at hlt; omega
            subst hij2
            rw [List.getElem?_append_right (by omega), hl, Nat.sub_self] at hi
            simp at hi
            subst hi
            exact ⟨(Below.heap_setCell _ _ _ _ (show wr.heap.size ≠ w.heap.size by omega)).trans a3, hsz⟩
        · intro i i' a b hi hi' hlt
          have hlen : i' < (hs ++ [wr.heap.size]).length := (List.getElem?_eq_some_iff.1 hi').1
          simp at hlen
          rw [List.getElem?_append_left (by omega)] at hi
          by_cases hij : i' < hs.length
          · rw [List.getElem?_append_left hij] at hi'; exact r3 i i' a b hi hi' hlt
          · rw [List.getElem?_append_right (by omega), show i' - hs.length = 0 by omega] at hi'
            simp at hi'
            subst hi'
            exact row_lt (r2 i a hi).1
        · exact grown_then (grown_trans r4 g3') (grown_setCell w3 w.heap.size j _) (fun i e => by cases e; exact Or.inl (Nat.le_refl _))
    · have hj : j = n := by omega
      subst hj
      go_wp2
      go_ret
      obtain ⟨hs, hl, r1, r2, r3, r4⟩ := HR.out
      refine ⟨hs, rfl, ⟨?_, by rw [secs_length, hl], ?_, r3⟩, r4⟩
      · simpa [nils] using r1
      · intro i a xs hi hx
        have hlt : i < j := by have := (List.getElem?_eq_some_iff.1 hi).1; omega
        rw [secs_get _ _ _ _ hlt] at hx
        obtain rfl := Option.some.inj hx
        exact ⟨(r2 i a hi).1, secOf_length HD.out.len hlt, Nat.le_of_lt (r2 i a hi).2⟩
end
end Go.Proofs.YtaopcidkgcekdaaGreat
/- The contract of Copy. -/
namespace Go.Proofs.YtaopcidkgcekdaaGreat
open Go.RowKit Ap
attribute [local go_sem ↓] Go.wp_at_zero Go.wp_at_succ

theorem row_zero {w : World} {base : Nat} {e : TypeId} {size : Nat} {v : Value} {n : Nat} {xs : List Value} (h : w.ownsRow base e size v n xs) : w.ownsRow 0 e size v n xs :=
  ⟨h.1, h.2.imp id (fun ⟨g, cap, cur, e1, _, e3⟩ => ⟨g, cap, cur, e1, Nat.zero_le _, e3⟩)⟩
set_option maxRecDepth 20000 in
set_option maxHeartbeats 1000000 in
theorem mapsClone_any (b : Nat) (es : Array MapEntry) (clock : Nat) (w : World) (hb : w.heap[b]? = some (.map es clock)) :
    Calls Tryz.prog 68 #[.map (some b)] w fun e w' => e = .returned (.map (some w.heap.size)) ∧ w' = w.alloc (.map es clock) := by
  have hq := fun w => run_eql_map_nil_sl (P := Tryz.prog) w 79 3 32 (some b) Tryz.underlying79
  go_enter Tryz.func68, Tryz.ntmps68
  go_wp2
  rw [run_callFunc_extern Tryz.func90 (by kernel_rfl) (by kernel_rfl) (by kernel_rfl) (e := Extern.MapsClone.clone) (by kernel_rfl), run_maps_clone_sl w 79 hb]
  simp only [Result.andThen]
  rw [Oper.upon_value]
  go_wp2
  rw [run_typeAssert_map_sl _ 79 20 3 32 _ Tryz.underlying79]
  simp only [Result.andThen]
  rw [Oper.upon_value]
  go_wp2
  go_ret
  exact ⟨rfl, rfl⟩

set_option maxHeartbeats 1000000 in
theorem slicesClone_any (size : Nat) (W : List Wt) (v : Value) (w : World) (hW : W.length ≤ 1000000) (hrow : w.ownsRow 0 88 2 v W.length (wcells size W)) :
    Calls Tryz.prog 67 #[v] w fun e w' => ∃ ao cap', e = .returned (.slice ao W.length cap') ∧ w'.ownsRow 0 88 2 (.slice ao W.length cap') W.length (wcells size W) ∧ w.grownBy w' none ∧ ∀ i, (Value.slice ao W.length cap').ownBlock = some i → w.heap.size ≤ i := by
  rcases hrow.2 with ⟨rfl, h0⟩ | ⟨g, cap, cur, rfl, h2, h3, h4, h5, h6, h7⟩
  · have hq := fun w' => Lib.run_eql_slice_nil (P := Tryz.prog) w' 80 88 none 0 0 0 0 Tryz.underlying80
    have HR := hide (And.intro hrow h0)
    clear hrow h0
    go_enter Tryz.func67, Tryz.ntmps67
    go_wp2
    go_ret
    refine ⟨none, 0, ?_, ?_, grown_refl _ _, fun i e => ?_⟩
    · rw [HR.out.2]; rfl
    · have h1 := HR.out.1; rw [HR.out.2] at h1 ⊢; exact h1
    · rw [HR.out.2] at e; cases e
  · have hq := fun w' => Lib.run_eql_slice_nil (P := Tryz.prog) w' 80 88 (some ⟨g, 0, none⟩) W.length cap 0 0 Tryz.underlying80
    obtain ⟨i0, hi, hz0, hz1, hz2⟩ := info_parts Tryz.info88
    have hone : ∀ u ∈ wcells size W, u.oneCell' = true := by
      intro u hu
      simp [wcells] at hu
      obtain ⟨x, _, rfl | rfl⟩ := hu <;> rfl
    have hcell : ∀ j u, (wcells size W)[j]? = some u → (w.alloc (.cells #[] 88)).cell? ((⟨g, 0, none⟩ : Addr).add j) = some u := fun j u hu => (World.grownBy_alloc w _ none).cell (hrow.cells rfl j u hu) (by simp)
    have HH := hide (And.intro hi (And.intro hz0 (And.intro hz1 (And.intro hz2 (And.intro hone hcell)))))
    clear hi hz0 hz1 hz2 hone hcell hrow h2 h3 h4 h5 h6 h7
    go_enter Tryz.func67, Tryz.ntmps67
    go_wp2_with (at_builtin; refine wpList_append_own_at _ rfl (.tmp 5) (.tmp 6) 80 rfl w.heap.size 88 i0 (.agg #[.int .i64 0, .slice none 0 0]) 2 32 Tryz.underlying80 HH.out.1 HH.out.2.1 HH.out.2.2.1 HH.out.2.2.2.1 rfl (by decide) (.slice (some ⟨w.heap.size, 0, none⟩) 0 0) 0 [] rfl (World.ownsRow_made w #[] 0 (Nat.le_refl _) (Nat.zero_le _) rfl) ⟨g, 0, none⟩ W.length cap (wcells size W) rfl (wcells_length _ _) HH.out.2.2.2.2.2 HH.out.2.2.2.2.1 (by unfold maxLen; omega) (by omega) (World.grownBy_alloc w _ none).size ?_)
    intro v' w' hown hg hnil hloc
    have hgr : w.grownBy w' none := grown_then (World.grownBy_alloc w _ none) hg (fun k e => by cases e; exact Or.inl (Nat.le_refl _))
    have hlo : ∀ i, v'.ownBlock = some i → w.heap.size ≤ i := fun i e => (hown.lt i e).1
    rcases hown.2 with ⟨rfl, h0⟩ | ⟨g', cap', cur', rfl, k1, k2, k3, k4, k5, k6⟩
    · exact (hnil rfl).elim
    · have HX := hide (And.intro hown (And.intro hgr hlo))
      clear hown hgr hlo k1 k2 k3 k4 k5 k6 hg hnil hloc hq
      go_wp2
      go_ret
      refine ⟨_, _, rfl, ?_, HX.out.2.1, HX.out.2.2⟩
      exact row_zero HX.out.1

set_option maxHeartbeats 400000 in
theorem copy_none (p : Option Addr) (w : World) (h : NoDisk w p) : Calls Tryz.prog 26 #[.pointer p] w fun e w' => e = .returned (.pointer none) ∧ w' = w := by
  have H := hide h.is
  clear h
  go_enter Tryz.func26, Tryz.ntmps26
  go_wp2_with fail
  refine H.out.mono ?_
  rintro e w' ⟨rfl, rfl⟩
  go_wp2
  go_ret
  exact ⟨rfl, rfl⟩
section
variable {w : World} {k : Dk} {n size : Nat} {D : List Nat} {W : List Wt}
set_option maxRecDepth 20000 in
set_option maxHeartbeats 4000000 in
theorem copy_any (h : DiskAt w k n size D W) : Calls Tryz.prog 26 #[.pointer (some ⟨k.d, 0, none⟩)] w fun e w' => ∃ k' : Dk, e = .returned (.pointer (some ⟨k'.d, 0, none⟩)) ∧ DiskAt w' k' n size D W ∧ (∀ i, k'.own i → w.heap.size ≤ i) ∧ w.grownBy w' none := by
  have H := hide h.is
  have HD := hide h
  have hS := And.intro h.c1 (And.intro h.c2 (And.intro h.c3 h.c4))
  have HF : Hid (∀ w2, w.grownBy w2 none → (w2.cell? ⟨k.d, 1, none⟩ = some (.int .i64 (size : Int)) ∧ w2.cell? ⟨k.d, 2, none⟩ = some (.slice (some ⟨k.db, 0, none⟩) (n * size) (n * size)) ∧ w2.cell? ⟨k.d, 3, none⟩ = some k.vw ∧ w2.cell? ⟨k.d, 4, none⟩ = some (.map (some k.mb)))) := fun w2 hg => by
    have h := HD.out.grown hg; exact ⟨h.c1, h.c2, h.c3, h.c4⟩
  have HC : Hid (∀ w2, w.grownBy w2 none → Calls Tryz.prog 66 #[.slice (some ⟨k.db, 0, none⟩) (n * size) (n * size)] w2 fun e w' => e = .returned (.slice (some ⟨w2.heap.size, 0, none⟩) (n * size) (n * size)) ∧ w'.heap[w2.heap.size]? = some (.cells (bv D).toArray 5 (0, 0)) ∧ w2.grownBy w' none) := fun w2 hg =>
    copied_any (some ⟨k.db, 0, none⟩) (n * size) (n * size) D w2 (at_row (HD.out.grown hg).dur) HD.out.len (by have := HD.out.shape.all; omega)
  have HS : Hid (∀ w2, w.grownBy w2 none → Calls Tryz.prog 67 #[k.vw] w2 fun e w' => ∃ ao cap', e = .returned (.slice ao W.length cap') ∧ w'.ownsRow 0 88 2 (.slice ao W.length cap') W.length (wcells size W) ∧ w2.grownBy w' none ∧ ∀ i, (Value.slice ao W.length cap').ownBlock = some i → w2.heap.size ≤ i) := fun w2 hg =>
    slicesClone_any size W k.vw w2 HD.out.few (HD.out.grown hg).row
  obtain ⟨es, clock, hm⟩ := h.map.block
  have HM : Hid (∀ w2, w.grownBy w2 none → Calls Tryz.prog 68 #[.map (some k.mb)] w2 fun e w' => e = .returned (.map (some w2.heap.size)) ∧ w' = w2.alloc (.map es clock)) := fun w2 hg =>
    mapsClone_any k.mb es clock w2 ((hg.block _ (row_lt hm) (by simp)).trans hm)
  have HB := hide hm
  clear h hm
  obtain ⟨m, hm⟩ : ∃ m, m = n * size := ⟨_, rfl⟩
  rw [← hm] at hS HF HC
  have HMm := hide hm.symm
  clear hm
  go_enter Tryz.func26, Tryz.ntmps26
  go_wp2_with fail
  refine H.out.mono ?_
  rintro e w' ⟨rfl, rfl⟩
  go_wp2_with fail
  go_region_held3 (fun w2 => w2.cell? ⟨k.d, 1, none⟩ = some (.int .i64 (size : Int)) ∧ w2.cell? ⟨k.d, 2, none⟩ = some (.slice (some ⟨k.db, 0, none⟩) m m) ∧ w2.cell? ⟨k.d, 3, none⟩ = some k.vw ∧ w2.cell? ⟨k.d, 4, none⟩ = some (.map (some k.mb))) (first | assumption | go_keep) (first
    | (go_at_call 66; refine (HC.out _ (grown_drew _ _)).mono ?_; rintro e w2 ⟨rfl, a2, g2'⟩; have g2 := grown_trans (grown_drew w' none) g2'; clear g2'; have hS2 := HF.out w2 g2; have A2 := hide a2; clear a2)
    | (go_at_call 67; refine (HS.out _ g2).mono ?_; rintro e w3 ⟨ao, cap', rfl, a3, g3', l3⟩; have g3 := grown_trans g2 g3'; have hS3 := HF.out w3 g3; have A3 := hide (And.intro a3 (And.intro g3' l3)); clear a3 g3' l3)
    | (go_at_call 68; refine (HM.out _ g3).mono ?_; rintro e w4 ⟨rfl, e4⟩; have g4 : w'.grownBy w4 none := e4 ▸ grown_trans g3 (World.grownBy_alloc _ _ none); have hS4 := HF.out w4 g4; have A4 := hide e4; clear e4))
  go_wp2
  go_ret
  have e4 := A4.out
  have g34 : w3.grownBy w4 none := e4 ▸ World.grownBy_alloc w3 _ none
  have g45 := World.grownBy_alloc w4 (.cells #[.bool true, .int .i64 (size : Int), .slice (some ⟨w'.heap.size, 0, none⟩) m m, .slice ao W.length cap', .map (some w3.heap.size)] 82) none
  have hm4 : w4.heap[w3.heap.size]? = some (.map es clock) := by rw [e4]; exact heap_alloc_new w3 _
  have hd2 := A2.out
  have g23 := A3.out.2.1
  have hlt2 : w'.heap.size < w2.heap.size := row_lt hd2
  have s23 := g23.size
  have s34 := g34.size
  have hD2 := HD.out
  refine ⟨⟨w4.heap.size, w'.heap.size, .slice ao W.length cap', w3.heap.size⟩, rfl, ⟨HD.out.shape, ?_, ?_, HD.out.len, ?_, ?_, ?_, HD.out.few⟩, ?_, grown_trans g4 g45⟩
  · rw [HMm.out]; exact heap_alloc_new w4 _
  · show _ = _
    exact (g45.block w'.heap.size (by omega) (by simp)).trans ((g34.block w'.heap.size (by omega) (by simp)).trans ((g23.block _ hlt2 (by simp)).trans hd2))
  · exact row_same A3.out.1 (fun g hg => ((grown_trans g34 g45).block g (A3.out.1.lt g hg).2 (by simp)))
  · exact HD.out.map.moved ((g45.block _ (row_lt hm4) (by simp)).trans (hm4.trans HB.out.symm))
  · intro x hx
    obtain ⟨a1, a2, a3, a4⟩ := HD.out.waits x hx
    exact ⟨a1, a2, Nat.ne_of_lt (row_lt a4), ((grown_trans g4 g45).block _ (row_lt a4) (by simp)).trans a4⟩
  · rintro i (e | e | e | e)
    · have e : i = w4.heap.size := e
      omega
    · have e : i = w'.heap.size := e
      omega
    · have := A3.out.2.2 i e
      omega
    · have e : i = w3.heap.size := e
      omega
end
end Go.Proofs.YtaopcidkgcekdaaGreat
/- Two disks that know nothing of one another. -/
namespace Go.Proofs.YtaopcidkgcekdaaGreat
open Go.RowKit Ap

/-- No block that the one may write is looked at by the other. -/
structure Sep (k : Dk) (W : List Wt) (k2 : Dk) (W2 : List Wt) : Prop where
  l : ∀ i, k.own i → ¬ foot k2 W2 i
  r : ∀ i, k2.own i → ¬ foot k W i
theorem Sep.symm {k k2 : Dk} {W W2 : List Wt} (h : Sep k W k2 W2) : Sep k2 W2 k W := ⟨h.r, h.l⟩
section
variable {w0 w w' : World} {k k2 k2' : Dk} {n size n2 size2 : Nat} {D D2 : List Nat} {W W2 W2' : List Wt}
theorem Sep.moved (h : Sep k W k2 W2) (hk : DiskAt w k n size D W) (hm : Moved w w' k2 k2' W2 W2') : Sep k W k2' W2' := by
  refine ⟨?_, ?_⟩
  · rintro i hi (hf | ⟨x, hx, rfl⟩)
    · rcases hm.own i hf with h1 | h1
      · exact h.l i hi (.inl h1)
      · have := hk.lt i (.inl hi); omega
    · rcases hm.blk x hx with ⟨y, hy, e⟩ | h1
      · exact h.l _ hi (.inr ⟨y, hy, e⟩)
      · have := hk.lt _ (.inl hi); omega
  · intro i hi hf
    rcases hm.own i hi with h1 | h1
    · exact h.r i h1 hf
    · have := hk.lt i hf; omega
theorem DkS.other (h : DkS w0 w k n size D W) (hs : Sep k W k2 W2) (hm : Moved w w' k2 k2' W2 W2') (hg : w0.grownBy w' none) : DkS w0 w' k n size D W :=
  ⟨h.disk.kept hm.kept (fun i hi ho => hs.r i ho hi), h.own, hg⟩
theorem ImgAt.moved {lo g sz : Nat} {R : List (List Nat)} {hs : List Nat} {k' : Dk} {W' : List Wt} (h : ImgAt w lo g sz R hs) (hk : DiskAt w k n size D W) (hm : Moved w w' k k' W W') (hlo : k.db < lo) : ImgAt w' lo g sz R hs := by
  refine h.off hm.kept (hk.other_off h.row (by decide) (by decide) (by decide)) ?_
  intro a ha
  obtain ⟨j, hj⟩ := List.getElem?_of_mem ha
  have hjl : j < R.length := by rw [← h.len]; exact (List.getElem?_eq_some_iff.1 hj).1
  obtain ⟨r1, _, r3⟩ := h.rows j a R[j] hj (List.getElem?_eq_getElem hjl)
  exact hk.bytes_off r1 (by omega)
theorem bytes_moved {A : Nat} {c : Array Value} {k' : Dk} {W' : List Wt} (hA : w.heap[A]? = some (.cells c 5 (0, 0))) (hk : DiskAt w k n size D W) (hm : Moved w w' k k' W W') (hne : A ≠ k.db) : w'.heap[A]? = some (.cells c 5 (0, 0)) := hm.kept.at hA (hk.bytes_off hA hne)
/-- Copy, of a disk that the call has made. -/
theorem copyS {d : Nat} (hd : k.d = d) (h : DkS w0 w k n size D W) : Calls Tryz.prog 26 #[.pointer (some ⟨d, 0, none⟩)] w fun e w' => ∃ k' : Dk, e = .returned (.pointer (some ⟨k'.d, 0, none⟩)) ∧ DkS w0 w' k' n size D W ∧ Sep k W k' W ∧ w.grownBy w' none := by
  subst hd
  refine (copy_any h.disk).mono ?_
  rintro e w' ⟨k', rfl, h1, h2, h3⟩
  refine ⟨k', rfl, ⟨h1, fun i hi => Nat.le_trans h.grown.size (h2 i hi), grown_trans h.grown h3⟩, ⟨?_, ?_⟩, h3⟩
  · rintro i hi (hf | ⟨x, hx, rfl⟩)
    · have := h2 i hf; have := h.disk.lt i (.inl hi); omega
    · exact h.disk.blk_ne hx hi
  · intro i hi hf
    have := h2 i hi; have := h.disk.lt i hf; omega
theorem imageS {d : Nat} (hd : k.d = d) (h : DkS w0 w k n size D W) : Calls Tryz.prog 58 #[.pointer (some ⟨d, 0, none⟩)] w fun e w' => ∃ hs, e = .returned (.slice (some ⟨w.heap.size, 0, none⟩) n n) ∧ ImgAt w' w.heap.size w.heap.size size (secs n size D) hs ∧ w.grownBy w' none := by
  subst hd
  exact image_any h.disk
end
/-- What is found hangs on what waits, not where. -/
theorem found_abs {size : Nat} {D : List Nat} {W W' : List Wt} {s : Nat} (h : abs W = abs W') : found size D W s = found size D W' s := by
  have key : ∀ V : List Wt, found size D V s = ((abs V).foldl (fun r x => if s = x.1 then some x.2 else r) none).getD (secOf size D s) := by
    intro V
    have e : (abs V).foldl (fun r x => if s = x.1 then some x.2 else r) none = (lastOf V s).map (fun x => x.xs) := by
      induction V using snoc_ind with
      | h0 => rfl
      | h1 l x ih =>
        rw [lastOf_snoc, abs, List.map_append, List.foldl_append]
        simp only [List.map_cons, List.map_nil, List.foldl_cons, List.foldl_nil]
        by_cases hx : s = x.sec
        · rw [if_pos hx, if_pos hx]; rfl
        · rw [if_neg hx, if_neg hx]; exact ih
    rw [e, found]
    cases lastOf V s <;> rfl
  rw [key, key, h]
end Go.Proofs.YtaopcidkgcekdaaGreat
