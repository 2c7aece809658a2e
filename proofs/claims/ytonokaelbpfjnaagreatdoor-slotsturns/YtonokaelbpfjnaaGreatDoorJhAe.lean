/- Texts joined: Does, Image, Copy, Sep, Lent, LentF, LentF2. -/
import Derived.Test.YtonokaelbpfjnaaGreatDoorJhAd
import Derived.Deep.CutRange
import Derived.Deep.DeepCutAuto
import Derived.Shelf.SlMaps.Clone
import Derived.Laws.StructEq
/- The contract of does. -/
namespace Go.Proofs.YtonokaelbpfjnaaGreatDoor
open Go.RowKit Ap
attribute [local go_sem ↓] Go.wp_at_zero Go.wp_at_succ

theorem FatesAt.kept2 {w w' : World} {fo : Option Addr} {F : List (Int × Int)} {row : Option Nat} (h : FatesAt w fo F) (hg : w.grownBy w' row) (hr : ∀ a, fo = some a → 0 < F.length → some a.block ≠ row) : FatesAt w' fo F := by
  intro j p hj
  obtain ⟨b, o, e, h1, h2⟩ := h j p hj
  have hl : 0 < F.length := Nat.lt_of_le_of_lt (Nat.zero_le _) (List.getElem?_eq_some_iff.1 hj).1
  have hb : some b ≠ row := hr ⟨b, o, none⟩ e hl
  exact ⟨b, o, e, hg.cell h1 hb, hg.cell h2 hb⟩
theorem FIn.grown {w w' : World} {fo : Option Addr} {cap : Nat} {F : List (Int × Int)} (h : FIn w fo cap F) (hg : w.grownBy w' none) : FIn w' fo cap F :=
  ⟨h.at_.grown hg, h.nil, h.size, fun a e hl => Nat.lt_of_lt_of_le (h.lt a e hl) hg.size⟩
theorem OpAt.grown {w w' : World} {b off : Nat} {o : OpD} {fo : Option Addr} {cap : Nat} (h : OpAt w b off o fo cap) (hg : w.grownBy w' none) : OpAt w' b off o fo cap :=
  ⟨hg.cell h.c0 (by simp), hg.cell h.c1 (by simp), hg.cell h.c2 (by simp), hg.cell h.c3 (by simp), hg.cell h.c4 (by simp), hg.cell h.c5 (by simp), h.fin.grown hg⟩
theorem OpsAt.grown {w w' : World} {ao : Option Addr} {os : List OpD} (h : OpsAt w ao os) (hg : w.grownBy w' none) : OpsAt w' ao os := by
  intro j o hj
  obtain ⟨b, off, fo, cap, e, ho⟩ := h j o hj
  exact ⟨b, off, fo, cap, e, ho.grown hg⟩

section
variable {w0 w : World} {k : Dk} {n size : Nat} {D : List Nat} {W : List Wt}
set_option maxHeartbeats 400000 in
theorem crash2 {d : Nat} (hd : k.d = d) (h : DkS w0 w k n size D W) (fo : Option Addr) (m cap : Nat) (F : List (Int × Int)) (hm : F.length = m) (hF : FatesAt w fo F) (hfo : ∀ a, fo = some a → 0 < F.length → a.block ≠ k.db) : Calls Tryz.prog 71 #[.pointer (some ⟨d, 0, none⟩), .slice fo m cap] w fun e w' => e = .returned (.int .i64 0) ∧
    DkS w0 w' k.calm n size (stl size (fun i => lasts (fateK F i) (fateA F i) size) D W W.length) [] ∧ Kept w w' (fun i => i = k.d ∨ i = k.db ∨ i = k.mb) := by
  subst hd
  have g0 := World.grownBy_alloc w (.cells #[.slice fo m cap] 29) none
  have hdb := h.disk.lt k.db (.inl (.inr (.inl rfl)))
  have H := hide (settle59 ⟨w.heap.size, 0, none⟩ (fateK F) (fateA F) (h.disk.grown g0) (fun i _ w' hg => fate_any i m cap fo F w.heap.size w' hm ((hF.grown g0).kept2 hg (fun a e hl e' => hfo a e hl (Option.some.inj e')))
    (hg.cell (cell_new w _ 29) (fun e => by have : w.heap.size = k.db := Option.some.inj e; omega))))
  have HK : Hid (∀ w' : World, Kept (w.alloc (.cells #[.slice fo m cap] 29)) w' (fun i => i = k.d ∨ i = k.db ∨ i = k.mb) → Kept w w' (fun i => i = k.d ∨ i = k.db ∨ i = k.mb)) := fun w' hk => (Kept.new g0 _).trans hk (fun _ _ e => e)
  have hmf : ∀ (fn : Fn) (first cap : Array Value) (w : World), (Instr.makeFunc fn first cap).run Tryz.prog w = .ok (.func fn first cap) w := fun _ _ _ _ => rfl
  have HD := hide h
  clear h g0 hF hfo hm hdb
  go_enter Tryz.func71, Tryz.ntmps71
  go_wp2_with fail
  refine H.out.mono ?_
  rintro e w' ⟨rfl, h1, h2⟩
  have HH := hide (And.intro (HD.out.calm h1 (HK.out _ h2)) (HK.out _ h2))
  clear h1 h2
  go_wp2
  go_ret
  exact ⟨rfl, HH.out⟩
end

/-- What waits, without where. -/
abbrev Pr := Nat × List Nat
def abs (W : List Wt) : List Pr := W.map fun x => (x.sec, x.xs)
def stlP (size : Nat) (L : Nat → Nat) (D : List Nat) (P : List Pr) : Nat → List Nat
  | 0 => D
  | j + 1 => match P[j]? with
    | some x => splice (stlP size L D P j) (x.1 * size) (x.2.take (L j))
    | none => stlP size L D P j
theorem stl_abs (size : Nat) (L : Nat → Nat) (D : List Nat) (W : List Wt) (j : Nat) : stl size L D W j = stlP size L D (abs W) j := by
  induction j with
  | zero => rfl
  | succ j ih =>
    rw [stl, stlP, abs, List.getElem?_map]
    cases hx : W[j]? with
    | none => simpa [abs] using ih
    | some x => simp only [Option.map_some]; rw [ih]; rfl
theorem abs_length (W : List Wt) : (abs W).length = W.length := by simp [abs]
/-- A step of a script, on what lies there. -/
def absStep (st : List Nat × List Pr) (o : OpD) : List Nat × List Pr :=
  if o.d0 % 4 = 2 then (stlP 64 (fun _ => 64) st.1 st.2 st.2.length, [])
  else if o.d0 % 4 = 3 then (stlP 64 (fun i => lasts (fateK o.F i) (fateA o.F i) 64) st.1 st.2 st.2.length, [])
  else (st.1, st.2 ++ [((o.d2 % 4).toNat, fills o.d3 64)])
theorem absStep_len (st : List Nat × List Pr) (o : OpD) : (absStep st o).2.length ≤ st.2.length + 1 := by
  unfold absStep; split
  · simp
  · split <;> simp

/-- One disk, before and after. -/
structure Moved (w w' : World) (k k' : Dk) (W W' : List Wt) : Prop where
  d : k'.d = k.d
  db : k'.db = k.db
  own : ∀ i, k'.own i → k.own i ∨ w.heap.size ≤ i
  blk : ∀ x ∈ W', (∃ y ∈ W, y.blk = x.blk) ∨ w.heap.size ≤ x.blk
  kept : Kept w w' k.own
theorem Moved.refl (w : World) (k : Dk) (W : List Wt) : Moved w w k k W W := ⟨rfl, rfl, fun _ h => Or.inl h, fun x hx => Or.inl ⟨x, hx, rfl⟩, Kept.refl _ _⟩
theorem Moved.trans {a b c : World} {k k' k'' : Dk} {W W' W'' : List Wt} (h : Moved a b k k' W W') (g : Moved b c k' k'' W' W'') : Moved a c k k'' W W'' := by
  refine ⟨g.d.trans h.d, g.db.trans h.db, ?_, ?_, h.kept.trans g.kept ?_⟩
  · intro i hi
    rcases g.own i hi with h1 | h1
    · exact h.own i h1
    · exact Or.inr (Nat.le_trans h.kept.size h1)
  · intro x hx
    rcases g.blk x hx with ⟨y, hy, e⟩ | h1
    · rw [← e]
      exact h.blk y hy
    · exact Or.inr (Nat.le_trans h.kept.size h1)
  · intro i hi h1
    rcases h.own i h1 with h2 | h2
    · exact h2
    · omega
theorem Moved.new {a b c : World} {k k' : Dk} {W W' : List Wt} (h : Moved a b k k' W W') (g : b.grownBy c none) : Moved a c k k' W W' := ⟨h.d, h.db, h.own, h.blk, h.kept.trans (Kept.new g _) (fun _ _ e => e)⟩
theorem Moved.pre {a b c : World} {k k' : Dk} {W W' : List Wt} (g : a.grownBy b none) (h : Moved b c k k' W W') : Moved a c k k' W W' :=
  ⟨h.d, h.db, fun i hi => (h.own i hi).imp id (fun e => Nat.le_trans g.size e), fun x hx => (h.blk x hx).imp id (fun e => Nat.le_trans g.size e), (Kept.new g _).trans h.kept (fun _ _ e => e)⟩
section
variable {w0 w : World} {k : Dk} {n size : Nat} {D : List Nat} {W : List Wt}
theorem Wrote.moved {w' : World} {k' : Dk} {s : Nat} {xs : List Nat} (hw : Wrote w w' k k' n size D W s xs) : Moved w w' k k' W (W ++ [⟨s, w.heap.size, xs⟩]) := by
  refine ⟨hw.d, hw.db, ?_, ?_, hw.kept.mono ?_⟩
  · rintro i (e | e | e | e)
    · rw [hw.d] at e; exact Or.inl (.inl e)
    · rw [hw.db] at e; exact Or.inl (.inr (.inl e))
    · exact (hw.vw i e).imp (fun e => .inr (.inr (.inl e))) id
    · rw [hw.mb] at e; exact Or.inl (.inr (.inr (.inr e)))
  · intro x hx
    rcases List.mem_append.1 hx with hx | hx
    · exact Or.inl ⟨x, hx, rfl⟩
    · simp at hx; subst hx; exact Or.inr (Nat.le_refl _)
  · rintro i _ (e | e | e)
    · exact .inl e
    · exact .inr (.inr (.inl e))
    · exact .inr (.inr (.inr e))
theorem calm_moved {w' : World} (hk : Kept w w' (fun i => i = k.d ∨ i = k.db ∨ i = k.mb)) : Moved w w' k k.calm W [] := by
  refine ⟨rfl, rfl, ?_, by simp, hk.mono ?_⟩
  · rintro i (e | e | e | e)
    · exact Or.inl (.inl e)
    · exact Or.inl (.inr (.inl e))
    · simp [Dk.calm, Value.ownBlock] at e
    · exact Or.inl (.inr (.inr (.inr e)))
  · rintro i _ (e | e | e)
    · exact .inl e
    · exact .inr (.inl e)
    · exact .inr (.inr (.inr e))
end

theorem do4 (x : Int) : x % 4 = 2 ∨ x % 4 = 3 ∨ (x % 4 = 0 ∨ x % 4 = 1) := by omega
theorem take_snoc {α : Type} (l : List α) (j : Nat) (x : α) (h : l[j]? = some x) : l.take (j + 1) = l.take j ++ [x] := by
  rw [List.take_add_one, h]; rfl
end Go.Proofs.YtonokaelbpfjnaaGreatDoor
/- The contract of Image. -/
namespace Go.Proofs.YtonokaelbpfjnaaGreatDoor
open Go.RowKit Ap
attribute [local go_sem ↓] Go.wp_at_zero Go.wp_at_succ

theorem Tryz.info36 : (Tryz.prog.info? 36).map (fun i => (i.zero, i.size, i.bytes)) = some (some (.slice none 0 0), 1, 24) := by kernel_rfl
/-- Slices of one size, each from the beginning of its block. -/
def slv (size : Nat) (hs : List Nat) : List Value := hs.map fun h => bsl h size
def nils (n : Nat) : List Value := List.replicate n (.slice none 0 0)
theorem made_nils (n : Nat) : madeCells #[.slice none 0 0] n = (nils n).toArray := by
  apply Array.ext'
  rw [toList_madeCells_one]; rfl
theorem make_rows (n : Nat) (h : n ≤ 65536) (w : World) : (Instr.makeSlice 91 (.int .i64 (n : Int)) (.int .i64 (n : Int))).run Tryz.prog w = .ok (.slice (some ⟨w.heap.size, 0, none⟩) n n) (w.alloc (.cells (nils n).toArray 36)) := by
  obtain ⟨i0, hi, hz0, hz1, hz2⟩ := info_parts Tryz.info36
  rw [run_make (P := Tryz.prog) (w := w) 91 36 i0 (.slice none 0 0) Tryz.underlying91 hi hz0 .i64 .i64 (n : Int) (n : Int) (by omega) (by omega) (by rw [hz2]; omega) (by omega), hz1]
  rw [Int.toNat_natCast, Nat.mul_one]
  show Result.ok _ (w.alloc (.cells (madeCells #[.slice none 0 0] n) 36)) = _
  rw [made_nils]
/-- Rows in blocks of their own lie behind the slices of block g. -/
structure ImgAt (w : World) (lo g size : Nat) (R : List (List Nat)) (hs : List Nat) : Prop where
  row : w.heap[g]? = some (.cells (slv size hs).toArray 36 (0, 0))
  len : hs.length = R.length
  rows : ∀ (j h : Nat) (xs : List Nat), hs[j]? = some h → R[j]? = some xs → w.heap[h]? = some (.cells (bv xs).toArray 5 (0, 0)) ∧ xs.length = size ∧ lo ≤ h
  up : ∀ (i j a b : Nat), hs[i]? = some a → hs[j]? = some b → i < j → a < b
theorem ImgAt.grown {w w' : World} {lo g size : Nat} {R : List (List Nat)} {hs : List Nat} (h : ImgAt w lo g size R hs) (hg : w.grownBy w' none) : ImgAt w' lo g size R hs :=
  ⟨(hg.block _ (row_lt h.row) (by simp)).trans h.row, h.len, fun j a xs h1 h2 => by obtain ⟨r1, r2, r3⟩ := h.rows j a xs h1 h2; exact ⟨(hg.block _ (row_lt r1) (by simp)).trans r1, r2, r3⟩, h.up⟩
theorem ImgAt.off {w w' : World} {lo g size : Nat} {R : List (List Nat)} {hs : List Nat} {S : Nat → Prop} (h : ImgAt w lo g size R hs) (hk : Kept w w' S) (hg : ¬ S g) (hr : ∀ a ∈ hs, ¬ S a) : ImgAt w' lo g size R hs :=
  ⟨hk.at h.row hg, h.len, fun j a xs h1 h2 => by obtain ⟨r1, r2, r3⟩ := h.rows j a xs h1 h2; exact ⟨hk.at r1 (hr a (List.mem_of_getElem? h1)), r2, r3⟩, h.up⟩
theorem ImgAt.rowsAt {w : World} {lo g size : Nat} {R : List (List Nat)} {hs : List Nat} (h : ImgAt w lo g size R hs) (hsz : size ≤ 4096) : RowsAt w (some ⟨g, 0, none⟩) R := by
  intro j xs hj
  have hlt : j < hs.length := by rw [h.len]; exact (List.getElem?_eq_some_iff.1 hj).1
  obtain ⟨r1, r2, _⟩ := h.rows j hs[j] xs (List.getElem?_eq_getElem hlt) hj
  refine ⟨g, 0, some ⟨hs[j], 0, none⟩, size, rfl, ?_, at_row r1, by omega⟩
  rw [Nat.zero_add, cell_row h.row, slv, List.getElem?_map, List.getElem?_eq_getElem hlt, r2]
  rfl
theorem rowI_set (size n j : Nat) (hs : List Nat) (a : Nat) (hl : hs.length = j) (hj : j < n) : (slv size hs ++ nils (n - j)).set j (bsl a size) = slv size (hs ++ [a]) ++ nils (n - (j + 1)) := by
  have e : n - j = (n - (j + 1)) + 1 := by omega
  have hl' : (slv size hs).length = j := by simp [slv, hl]
  rw [List.set_append, hl', if_neg (by omega), Nat.sub_self, e, nils, List.replicate_succ, List.set_cons_zero, slv, slv, List.map_append, List.append_assoc]
  rfl
theorem rowI_get (size n j : Nat) (hs : List Nat) (hl : hs.length = j) (hj : j < n) : (slv size hs ++ nils (n - j))[j]? = some (.slice none 0 0) := by
  have hl' : (slv size hs).length = j := by simp [slv, hl]
  rw [List.getElem?_append_right (by omega), hl', Nat.sub_self, nils, List.getElem?_replicate, if_pos (by omega)]

set_option maxRecDepth 20000 in
set_option maxHeartbeats 400000 in
theorem image_none (p : Option Addr) (w : World) (h : NoDisk w p) : Calls Tryz.prog 103 #[.pointer p] w fun e w' => e = .returned (.slice (some ⟨w.heap.size, 0, none⟩) 0 0) ∧ w.grownBy w' none := by
  have H := hide (sectors_none p w h)
  have hmk : (Instr.makeSlice 91 (.int .i64 0) (.int .i64 0)).run Tryz.prog w = .ok (.slice (some ⟨w.heap.size, 0, none⟩) 0 0) (w.alloc (.cells #[] 36)) := make_rows 0 (by omega) w
  clear h
  go_enter Tryz.func103, Tryz.ntmps103
  go_wp2_with fail
  refine H.out.mono ?_
  rintro e w' ⟨rfl, rfl⟩
  go_wp2
  go_loopg [10] 0 (fun q i wr => i = .int .i64 0 ∧ Hid (w'.grownBy wr none))
  case atStart => exact ⟨rfl, World.grownBy_alloc w' _ none⟩
  case round =>
    obtain ⟨rfl, HG⟩ := hrel
    go_wp2
    go_ret
    exact ⟨rfl, HG.out⟩

section
variable {w : World} {k : Dk} {n size : Nat} {D : List Nat} {W : List Wt}
set_option maxRecDepth 20000 in
set_option maxHeartbeats 4000000 in
theorem image_any (h : DiskAt w k n size D W) : Calls Tryz.prog 103 #[.pointer (some ⟨k.d, 0, none⟩)] w fun e w' => ∃ hs, e = .returned (.slice (some ⟨w.heap.size, 0, none⟩) n n) ∧ ImgAt w' w.heap.size w.heap.size size (secs n size D) hs ∧ w.grownBy w' none := by
  have H := hide (sectors_any h)
  have HM := hide (fun q => make_rows n h.shape.n1 (w.drewN q))
  have HD := hide h
  have hn1 := h.shape.n1
  clear h
  go_enter Tryz.func103, Tryz.ntmps103
  go_wp2_with fail
  refine H.out.mono ?_
  rintro e w' ⟨rfl, q, rfl⟩
  have hmk := HM.out q
  have HW : Hid (w.grownBy (w.drewN q) none ∧ (w.drewN q).heap.size = w.heap.size) := ⟨grown_drewN _ _ _, rfl⟩
  clear HM H
  generalize w.drewN q = wq at *
  rw [HW.out.2] at hmk
  go_wp2
  go_loopg [10] n (fun q i wr => ∃ j : Nat, q + j = n ∧ i = .int .i64 j ∧ Hid (∃ hs, hs.length = j ∧ wr.heap[w.heap.size]? = some (.cells (slv size hs ++ nils (n - j)).toArray 36 (0, 0)) ∧
      (∀ (i a : Nat), hs[i]? = some a → wr.heap[a]? = some (.cells (bv (secOf size D i)).toArray 5 (0, 0)) ∧ w.heap.size < a) ∧ (∀ (i j a b : Nat), hs[i]? = some a → hs[j]? = some b → i < j → a < b) ∧ w.grownBy wr none))
  case atStart => exact ⟨0, by omega, rfl, hide ⟨[], rfl, by rw [← HW.out.2]; exact heap_alloc_new wq _, by simp, by simp, grown_trans HW.out.1 (World.grownBy_alloc wq _ none)⟩⟩
  case round =>
    obtain ⟨j, hkj, rfl, HR⟩ := hrel
    by_cases hk : 0 < gk
    · have hj : j < n := by omega
      have HR' := hide HR.out
      obtain ⟨hs, hl, r1, r2, r3, r4⟩ := HR.out
      have D1 := HD.out.grown r4
      have HS := hide (sector_any D1 j hj)
      have HC := hide (fun q => copied_any (some ⟨k.db, j * size, none⟩) size (n * size - j * size) (secOf size D j) (wr.drewN q) (at_sector (D1.grown (grown_drewN _ q _)) j) (secOf_length HD.out.len hj) (by have := HD.out.shape.s1; omega))
      have HX := hide (And.intro hl (And.intro r1 (And.intro r2 (And.intro r3 r4))))
      have h1 : (0 : Int) ≤ (j : Int) := by omega
      have h2 : (j : Int) < (n : Int) := by omega
      generalize n * size - j * size = cc at *
      generalize j * size = off at *
      clear hl r1 r2 r3 r4 D1 HR HR' hmk
      go_wp2_with fail
      refine HS.out.mono ?_
      rintro e w2 ⟨rfl, q2, rfl⟩
      go_wp2_with fail
      refine (HC.out q2).mono ?_
      rintro e w3 ⟨rfl, a3, g3⟩
      have e3 : w3.heap[w.heap.size]? = some (.cells (slv size hs ++ nils (n - j)).toArray 36 (0, 0)) := (g3.block _ (row_lt (show (wr.drewN q2).heap[w.heap.size]? = _ from HX.out.2.1)) (by simp)).trans HX.out.2.1
      have c3 : w3.cell? ⟨w.heap.size, j, none⟩ = some (.slice none 0 0) := by rw [cell_row e3]; exact rowI_get size n j hs HX.out.1 hj
      have f3 : w3.frozen? ⟨w.heap.size, j, none⟩ = false := free_row e3 _
      have H3 := hide (And.intro a3 (And.intro g3 e3))
      clear a3 g3 e3
      go_wp2
      go_roundg (gk - 1)
      case measure => omega
      case rel =>
        obtain ⟨a3, g3, e3⟩ := H3.out
        obtain ⟨hl, r1, r2, r3, r4⟩ := HX.out
        have g3' : wr.grownBy w3 none := grown_trans (grown_drewN _ _ _) g3
        have hsz : w.heap.size < wr.heap.size := row_lt r1
        refine ⟨j + 1, by omega, by go_num, hide ⟨hs ++ [wr.heap.size], by simp [hl], ?_, ?_, ?_, ?_⟩⟩
        · rw [row_setCell e3]
          exact congrArg (fun l => some (Obj.cells (List.toArray l) 36 (0, 0))) (rowI_set size n j hs wr.heap.size hl hj)
        · intro i a hi
          by_cases hij : i < hs.length
          · rw [List.getElem?_append_left hij] at hi
            obtain ⟨s1, s2⟩ := r2 i a hi
            exact ⟨(Below.heap_setCell _ _ _ _ (show a ≠ w.heap.size by omega)).trans ((g3'.block _ (row_lt s1) (by simp)).trans s1), s2⟩
          · have hlt := (List.getElem?_eq_some_iff.1 hi).1
            have hij2 : i = j := by simp at hlt; omega
            subst hij2
            rw [List.getElem?_append_right (by omega), hl, Nat.sub_self] at hi
            simp at hi
            subst hi
            exact ⟨(Below.heap_setCell _ _ _ _ (show wr.heap.size ≠ w.heap.size by omega)).trans a3, hsz⟩
        · intro i i' a b hi hi' hlt
          have hlen : i' < (hs ++ [wr.heap.size]).length := (List.getElem?_eq_some_iff.1 hi').1
          simp at hlen
          rw [List.getElem?_append_left (by omega)] at hi
          by_cases hij : i' < hs.length
          · rw [List.getElem?_append_left hij] at hi'; exact r3 i i' a b hi hi' hlt
          · rw [List.getElem?_append_right (by omega), show i' - hs.length = 0 by omega] at hi'
            simp at hi'
            subst hi'
            exact row_lt (r2 i a hi).1
        · exact grown_then (grown_trans r4 g3') (grown_setCell w3 w.heap.size j _) (fun i e => by cases e; exact Or.inl (Nat.le_refl _))
    · have hj : j = n := by omega
      subst hj
      go_wp2
      go_ret
      obtain ⟨hs, hl, r1, r2, r3, r4⟩ := HR.out
      refine ⟨hs, rfl, ⟨?_, by rw [secs_length, hl], ?_, r3⟩, r4⟩
      · simpa [nils] using r1
      · intro i a xs hi hx
        have hlt : i < j := by have := (List.getElem?_eq_some_iff.1 hi).1; omega
        rw [secs_get _ _ _ _ hlt] at hx
        obtain rfl := Option.some.inj hx
        exact ⟨(r2 i a hi).1, secOf_length HD.out.len hlt, Nat.le_of_lt (r2 i a hi).2⟩
end
end Go.Proofs.YtonokaelbpfjnaaGreatDoor
/- The contract of Copy. -/
namespace Go.Proofs.YtonokaelbpfjnaaGreatDoor
open Go.RowKit Ap
attribute [local go_sem ↓] Go.wp_at_zero Go.wp_at_succ

theorem row_zero {w : World} {base : Nat} {e : TypeId} {size : Nat} {v : Value} {n : Nat} {xs : List Value} (h : w.ownsRow base e size v n xs) : w.ownsRow 0 e size v n xs :=
  ⟨h.1, h.2.imp id (fun ⟨g, cap, cur, e1, _, e3⟩ => ⟨g, cap, cur, e1, Nat.zero_le _, e3⟩)⟩
section
variable {w : World} {k : Dk} {n size : Nat} {D : List Nat} {W : List Wt}
end
end Go.Proofs.YtonokaelbpfjnaaGreatDoor
/- Two disks that know nothing of one another. -/
namespace Go.Proofs.YtonokaelbpfjnaaGreatDoor
open Go.RowKit Ap

/-- No block that the one may write is looked at by the other. -/
structure Sep (k : Dk) (W : List Wt) (k2 : Dk) (W2 : List Wt) : Prop where
  l : ∀ i, k.own i → ¬ foot k2 W2 i
  r : ∀ i, k2.own i → ¬ foot k W i
theorem Sep.symm {k k2 : Dk} {W W2 : List Wt} (h : Sep k W k2 W2) : Sep k2 W2 k W := ⟨h.r, h.l⟩
section
variable {w0 w w' : World} {k k2 k2' : Dk} {n size n2 size2 : Nat} {D D2 : List Nat} {W W2 W2' : List Wt}
theorem Sep.moved (h : Sep k W k2 W2) (hk : DiskAt w k n size D W) (hm : Moved w w' k2 k2' W2 W2') : Sep k W k2' W2' := by
  refine ⟨?_, ?_⟩
  · rintro i hi (hf | ⟨x, hx, rfl⟩)
    · rcases hm.own i hf with h1 | h1
      · exact h.l i hi (.inl h1)
      · have := hk.lt i (.inl hi); omega
    · rcases hm.blk x hx with ⟨y, hy, e⟩ | h1
      · exact h.l _ hi (.inr ⟨y, hy, e⟩)
      · have := hk.lt _ (.inl hi); omega
  · intro i hi hf
    rcases hm.own i hi with h1 | h1
    · exact h.r i h1 hf
    · have := hk.lt i hf; omega
theorem DkS.other (h : DkS w0 w k n size D W) (hs : Sep k W k2 W2) (hm : Moved w w' k2 k2' W2 W2') (hg : w0.grownBy w' none) : DkS w0 w' k n size D W :=
  ⟨h.disk.kept hm.kept (fun i hi ho => hs.r i ho hi), h.own, hg⟩
theorem ImgAt.moved {lo g sz : Nat} {R : List (List Nat)} {hs : List Nat} {k' : Dk} {W' : List Wt} (h : ImgAt w lo g sz R hs) (hk : DiskAt w k n size D W) (hm : Moved w w' k k' W W') (hlo : k.db < lo) : ImgAt w' lo g sz R hs := by
  refine h.off hm.kept (hk.other_off h.row (by decide) (by decide) (by decide)) ?_
  intro a ha
  obtain ⟨j, hj⟩ := List.getElem?_of_mem ha
  have hjl : j < R.length := by rw [← h.len]; exact (List.getElem?_eq_some_iff.1 hj).1
  obtain ⟨r1, _, r3⟩ := h.rows j a R[j] hj (List.getElem?_eq_getElem hjl)
  exact hk.bytes_off r1 (by omega)
theorem bytes_moved {A : Nat} {c : Array Value} {k' : Dk} {W' : List Wt} (hA : w.heap[A]? = some (.cells c 5 (0, 0))) (hk : DiskAt w k n size D W) (hm : Moved w w' k k' W W') (hne : A ≠ k.db) : w'.heap[A]? = some (.cells c 5 (0, 0)) := hm.kept.at hA (hk.bytes_off hA hne)
theorem imageS {d : Nat} (hd : k.d = d) (h : DkS w0 w k n size D W) : Calls Tryz.prog 103 #[.pointer (some ⟨d, 0, none⟩)] w fun e w' => ∃ hs, e = .returned (.slice (some ⟨w.heap.size, 0, none⟩) n n) ∧ ImgAt w' w.heap.size w.heap.size size (secs n size D) hs ∧ w.grownBy w' none := by
  subst hd
  exact image_any h.disk
end
/-- What is found hangs on what waits, not where. -/
theorem found_abs {size : Nat} {D : List Nat} {W W' : List Wt} {s : Nat} (h : abs W = abs W') : found size D W s = found size D W' s := by
  have key : ∀ V : List Wt, found size D V s = ((abs V).foldl (fun r x => if s = x.1 then some x.2 else r) none).getD (secOf size D s) := by
    intro V
    have e : (abs V).foldl (fun r x => if s = x.1 then some x.2 else r) none = (lastOf V s).map (fun x => x.xs) := by
      induction V using snoc_ind with
      | h0 => rfl
      | h1 l x ih =>
        rw [lastOf_snoc, abs, List.map_append, List.foldl_append]
        simp only [List.map_cons, List.map_nil, List.foldl_cons, List.foldl_nil]
        by_cases hx : s = x.sec
        · rw [if_pos hx, if_pos hx]; rfl
        · rw [if_neg hx, if_neg hx]; exact ih
    rw [e, found]
    cases lastOf V s <;> rfl
  rw [key, key, h]
end Go.Proofs.YtonokaelbpfjnaaGreatDoor
/- The contracts of LentBytes, KeptBytes, OverBytes. -/
namespace Go.Proofs.YtonokaelbpfjnaaGreatDoor
open Go.RowKit Ap
attribute [local go_sem ↓] Go.wp_at_zero Go.wp_at_succ
/-- Bytes that were lent: they, and twelve marks behind their end. -/
def LentAt (w : World) (B : Nat) (v : Value) (xs : List Nat) : Prop :=
  ∃ g cap, v = .slice (some ⟨g, 0, none⟩) xs.length cap ∧ w.ownsRow B 5 1 (.slice (some ⟨g, 0, none⟩) (xs.length + 12) cap) (xs.length + 12) (bv (xs ++ marks 1 12))

set_option maxHeartbeats 1000000 in
theorem lent_any (ao : Option Addr) (n cap : Nat) (xs : List Nat) (w : World) (hn : xs.length = n) (hat : At w ao xs) (hnil : ao = none → n = 0 ∧ cap = 0) (hb : n ≤ 140737488355000) :
    Calls Tryz.prog 13 #[.slice ao n cap] w fun e w' => ∃ v, e = .returned v ∧ LentAt w' w.heap.size v xs ∧ w.grownBy w' none := by
  have Hn := hide hn
  have hmk := make_cap n (by omega)
  clear hn
  go_enter Tryz.func13, Tryz.ntmps13
  go_wp2_with (at_builtin; refine wpList_append_at rfl (.tmp 9) (.tmp 10) rfl w.heap.size (.slice (some ⟨w.heap.size, 0, none⟩) 0 (n + 12)) 0 [] rfl ?_ ao n cap xs rfl Hn.out ?_ hnil (by omega) (by simp) ?_)
  · exact World.ownsRow_made w _ (n + 12) (Nat.le_refl _) (by unfold maxLen; omega) (by simp [zrow])
  · exact hat.kept (World.grownBy_alloc w _ none) (by simp)
  · intro v1 w1 hown hg
    have G1 : Hid (w.grownBy w1 none) := grown_then (World.grownBy_alloc w _ none) hg (fun k e => by cases e; exact Or.inl (Nat.le_refl _))
    have HO := hide hown
    clear hown hg hmk
    go_wp2
    go_loopg [3, 4] 12 (fun k v i wr => ∃ j : Nat, k + j = 12 ∧ i = .int .i64 j ∧ wr.ownsRow w.heap.size 5 1 v (n + j) (bv (xs ++ marks 1 j)) ∧ w.grownBy wr none)
    case atStart => exact ⟨0, rfl, rfl, by simpa [marks] using HO.out, G1.out⟩
    case round =>
      obtain ⟨j, hkj, rfl, hown, hg⟩ := hrel
      by_cases hk : 0 < gk
      · have HO2 := hide (And.intro hown hg)
        clear hown hg
        go_wp2_with (first | (go_at_call 64; refine (markN_any 1 j _ (by omega) (by omega) (by omega)).mono ?_; rintro e w' ⟨rfl, rfl⟩) | (at_builtin; refine wpList_append_at rfl (.tmp 16) (.tmp 19) rfl w.heap.size _ (n + j) (xs ++ marks 1 j) rfl (HO2.out.1.alloc _) (some ⟨_, 0, none⟩) 1 1 [mkN 1 j] rfl rfl ?_ (fun e => by cases e) (by omega) ?_ ?_))
        · exact at_new _ [mkN 1 j] _ rfl 5
        · have := HO2.out.2.size; simp; omega
        · intro v' w' hown' hg'
          go_wp2
          go_roundg (gk - 1)
          case measure => omega
          case rel =>
            refine ⟨j + 1, by omega, by go_num, ?_, ?_⟩
            · rw [marks_succ]; simpa [Nat.add_assoc] using hown'
            · refine grown_then (grown_trans HO2.out.2 (World.grownBy_alloc _ _ none)) hg' (fun k e => Or.inl (HO2.out.1.lt k e).1)
      · have hj : j = 12 := by omega
        subst hj
        obtain ⟨ao', cap', rfl, hl, hnc, hcm, hat', hnil', h5⟩ := own_at hown
        obtain ⟨a', rfl⟩ : ∃ a', ao' = some a' := by
          cases ao' with
          | none => have := (hnil' rfl).1; omega
          | some a' => exact ⟨a', rfl⟩
        have hst := slice_to (some a') (n + 12) cap' n (by omega)
        have HO2 := hide (And.intro hown hg)
        clear hown hg hl hcm hat' hnil' h5
        go_wp2
        go_ret
        obtain ⟨hown, hg⟩ := HO2.out
        rcases hown.2 with ⟨hx, _⟩ | ⟨g, cap2, cur, hv, hr⟩
        · cases hx
        · cases hv
          refine ⟨_, rfl, ⟨g, cap', by rw [Hn.out]; rfl, ?_⟩, hg⟩
          rw [Hn.out]; exact hown
/-- What is lent, as bytes that lie somewhere: they and the marks. -/
theorem LentAt.all {w : World} {B : Nat} {v : Value} {xs : List Nat} (h : LentAt w B v xs) : ∃ g cap, v = .slice (some ⟨g, 0, none⟩) xs.length cap ∧ xs.length + 12 ≤ cap ∧ cap ≤ maxLen ∧ B ≤ g ∧ g < w.heap.size ∧
    At w (some ⟨g, 0, none⟩) (xs ++ marks 1 12) ∧ ∃ cur, w.heap[g]? = some (.cells cur 5 (0, 0)) ∧ cur.size = cap := by
  obtain ⟨g, cap, rfl, hown⟩ := h
  obtain ⟨ao', cap', hv, hl, hnc, hcm, hat', hnil', h5⟩ := own_at hown
  cases hv
  obtain ⟨_, hb, hlt⟩ := h5 _ rfl
  rcases hown.2 with ⟨hx, _⟩ | ⟨g2, cap2, cur, hv, _, hc, _, _, hs, _⟩
  · cases hx
  · cases hv
    exact ⟨g, cap, rfl, hnc, hcm, hb, hlt, hat', cur, hc, by simpa using hs⟩
theorem LentAt.at {w : World} {B : Nat} {v : Value} {xs : List Nat} (h : LentAt w B v xs) : ∃ g cap, v = .slice (some ⟨g, 0, none⟩) xs.length cap ∧ xs.length ≤ cap ∧ cap ≤ maxLen ∧ B ≤ g ∧ g < w.heap.size ∧ At w (some ⟨g, 0, none⟩) xs ∧ ∃ cur, w.heap[g]? = some (.cells cur 5 (0, 0)) := by
  obtain ⟨g, cap, hv, h1, h2, h3, h4, h5, cur, hc, _⟩ := h.all
  refine ⟨g, cap, hv, by omega, h2, h3, h4, ?_, cur, hc⟩
  intro j u hu
  exact h5 j u (by rw [List.getElem?_append_left (List.getElem?_eq_some_iff.1 hu).1, hu])

set_option maxHeartbeats 1000000 in
theorem kept_any (g cap : Nat) (bo : Option Addr) (n d : Nat) (xs : List Nat) (w : World) (hn : xs.length = n) (hc1 : n + 12 ≤ cap) (_hc2 : cap ≤ maxLen) (ha : At w (some ⟨g, 0, none⟩) (xs ++ marks 1 12)) (hb : At w bo xs) (hm : n ≤ 140737488355328) :
    Calls Tryz.prog 17 #[.slice (some ⟨g, 0, none⟩) n cap, .slice bo n d] w fun e w' => e = .returned (.bool true) ∧ w.grownBy w' none := by
  have HA := hide (And.intro hn (And.intro ha hb))
  unfold maxLen at _hc2
  have hst := slice_to (some ⟨g, 0, none⟩) n cap (n + 12) hc1
  have hst2 : ∀ w', (Instr.slice 36 (.slice (some ⟨g, 0, none⟩) n cap) none (some (.int .i64 ((n : Int) + 12))) none).run Tryz.prog w' = .ok (.slice (some ⟨g, 0, none⟩) (n + 12) cap) w' := hst
  clear hn ha hb hst
  go_enter Tryz.func17, Tryz.ntmps17
  go_wp2
  go_loopg [6] (n + 12) (fun k i wr => ∃ j : Nat, k + j = n + 12 ∧ i = .int .i64 j ∧ w.grownBy wr none)
  case atStart => exact ⟨0, by omega, rfl, grown_refl _ _⟩
  case round =>
    obtain ⟨j, hkj, rfl, hg⟩ := hrel
    by_cases hk : 0 < gk
    · obtain ⟨hn, ha, hb⟩ := HA.out
      have hj0 : (0 : Int) ≤ (j : Int) := by omega
      have hj1 : (j : Int) < ((n + 12 : Nat) : Int) := by omega
      by_cases hj : j < n
      · have hjx : j < xs.length := by omega
        obtain ⟨a, e1, hca⟩ := ha j xs[j] (by rw [List.getElem?_append_left hjx]; simp [hjx])
        cases e1
        obtain ⟨b, rfl, hcb⟩ := hb j xs[j] (by simp [hjx])
        have hca' := hg.cell hca (by simp)
        have hcb' := hg.cell hcb (by simp)
        rw [Addr.add_lit, Nat.zero_add] at hca'
        generalize xs[j] = x at *
        have hjn : (j : Int) < (n : Int) := by omega
        have hd1 : decide (n ≤ j) = false := by simp; omega
        clear hn ha hb hca hcb hst2 hjx
        go_wp2
        go_quiet (fail)
        go_wp2
        go_roundg (gk - 1)
        case measure => omega
        case rel => exact ⟨j + 1, by omega, by go_num, grown_trans hg (grown_drewN _ _ _)⟩
      · obtain ⟨i, hji⟩ : ∃ i, j = n + i := ⟨j - n, by omega⟩
        have hi : i < 12 := by omega
        obtain ⟨a, e1, hca⟩ := ha j (mkN 1 i) (by rw [hji, List.getElem?_append_right (by omega), hn, Nat.add_sub_cancel_left, marks_get 1 12 i hi])
        cases e1
        have hca' := hg.cell hca (by simp)
        rw [Addr.add_lit, Nat.zero_add] at hca'
        have hd1 : decide (j < n) = false := by simp; omega
        have hd3 : decide (n ≤ j) = true := by simp; omega
        have hmk : ∀ w, Calls Tryz.prog 64 #[.int .i64 1, .int .i64 (i : Int)] w fun e w' => e = .returned (.int .u8 ((mkN 1 i : Nat) : Int)) ∧ w' = w := fun w => markN_any 1 i w (by omega) (by omega) (by omega)
        have Hmk := hide hmk
        have hsub : (j : Int) - (n : Int) = (i : Int) := by omega
        have HJ := hide hji
        have hwi : IntKind.i64.wrap (i : Int) = (i : Int) := by rw [IntKind.wrap_i64]; omega
        generalize mkN 1 i = x at *
        clear hn ha hb hca hst2 hmk hji
        go_wp2
        go_quiet ((go_at_call 64; exact Calls.quiet_of_same (Hmk.out _)))
        go_wp2
        go_roundg (gk - 1)
        case measure => omega
        case rel => exact ⟨j + 1, by omega, by go_num, grown_trans hg (grown_drewN _ _ _)⟩
    · have hj : j = n + 12 := by omega
      subst hj
      go_wp2
      go_ret
      exact ⟨rfl, hg⟩
set_option maxHeartbeats 1000000 in
theorem over_any (g cap n : Nat) (w : World) (hb : ∃ cur, w.heap[g]? = some (.cells cur 5 (0, 0)) ∧ cur.size = cap) (hc1 : n + 12 ≤ cap) (_hc2 : cap ≤ maxLen) (hm : n ≤ 140737488355328) :
    Calls Tryz.prog 43 #[.slice (some ⟨g, 0, none⟩) n cap] w fun e w' => e = .returned (.tuple #[]) ∧ w.grownBy w' (some g) := by
  unfold maxLen at _hc2
  have hst2 : ∀ w', (Instr.slice 36 (.slice (some ⟨g, 0, none⟩) n cap) none (some (.int .i64 ((n : Int) + 12))) none).run Tryz.prog w' = .ok (.slice (some ⟨g, 0, none⟩) (n + 12) cap) w' := slice_to (some ⟨g, 0, none⟩) n cap (n + 12) hc1
  have HB := hide hb
  clear hb
  go_enter Tryz.func43, Tryz.ntmps43
  go_wp2
  go_loopg [3] (n + 12) (fun k i wr => ∃ j : Nat, k + j = n + 12 ∧ i = .int .i64 j ∧ (∃ cur, wr.heap[g]? = some (.cells cur 5 (0, 0)) ∧ cur.size = cap) ∧ w.grownBy wr (some g))
  case atStart => exact ⟨0, by omega, rfl, HB.out, grown_refl _ _⟩
  case round =>
    obtain ⟨j, hkj, rfl, ⟨cur, hb, hs⟩, hg⟩ := hrel
    by_cases hk : 0 < gk
    · have hj1 : (j : Int) < ((n + 12 : Nat) : Int) := by omega
      have hjs : j < cur.size := by omega
      have hc : wr.cell? ⟨g, j, none⟩ = some cur[j] := by rw [cell_of_row wr g j cur 5 (0, 0) hb]; simp [hjs]
      have hf : wr.frozen? ⟨g, j, none⟩ = false := free_row hb _
      have Hb := hide (And.intro hb hs)
      obtain ⟨y, hy⟩ : ∃ y, y = cur[j] := ⟨_, rfl⟩
      rw [← hy] at hc
      clear hb hs hy hst2
      go_wp2_with (first | (go_at_call 64; refine (markN_any 2 j _ (by omega) (by omega) (by omega)).mono ?_; rintro e w' ⟨rfl, rfl⟩) | go_in)
      go_roundg (gk - 1)
      case measure => omega
      case rel =>
        refine ⟨j + 1, by omega, by go_num, ⟨cur.setIfInBounds j (.int .u8 ((mkN 2 j : Nat) : Int)), ?_, by simp [Hb.out.2]⟩, grown_trans hg (grown_setCell _ g j _)⟩
        have h1 : _ = some (Obj.cells cur.toList.toArray 5 (0, 0)) := Hb.out.1
        have := row_setCell h1 j (.int .u8 ((mkN 2 j : Nat) : Int))
        rw [this]
        simp only [Option.some.injEq, Obj.cells.injEq, and_true]
        exact Array.ext' (by simp)
    · have hj : j = n + 12 := by omega
      subst hj
      clear hb hs
      go_wp2
      go_end0
      exact ⟨rfl, hg⟩


end Go.Proofs.YtonokaelbpfjnaaGreatDoor
/- The contracts of LentFates, KeptFates. -/
namespace Go.Proofs.YtonokaelbpfjnaaGreatDoor
open Go.RowKit Ap
attribute [local go_sem ↓] Go.wp_at_zero Go.wp_at_succ

theorem Tryz.info165 : (Tryz.prog.info? 165).map (fun i => (i.zero, i.size, i.bytes)) = some (some (.agg #[.int .i64 0, .int .i64 0]), 2, 16) := by kernel_rfl
theorem eq_fate (K A : Int) (w : World) : (binOp .eql 165 (.agg #[.int .i64 K, .int .i64 A]) (.agg #[.int .i64 K, .int .i64 A])).run Tryz.prog w = .ok (.bool true) w := by
  have u3 := Tryz.underlying3
  have a3 := Tryz.isAgg3
  have z3 := Tryz.sizeOf3
  have u67 := Tryz.underlying163
  have a67 := Tryz.isAgg67
  have z67 := Tryz.sizeOf67
  have hS : Tryz.prog.underlying 165 = some (.struct (Tryz.prog.fieldsOf 165)) := by kernel_rfl
  have hp : Tryz.prog.stoodInHeld 165 = false := by kernel_rfl
  rw [run_eql_struct, show (10000 : Nat) = 9999 + 1 from rfl, run_equalIn_struct w 9999 165 _ _ hS hp]
  simp only [Program.fieldsOf, Tryz.underlying165]
  go_simp

/-- The mark of a place in a list of fates. -/
def mkF (i : Nat) : Int × Int := (0, 8000024 + (i : Int))
def fmarks (j : Nat) : List (Int × Int) := (List.range j).map mkF
theorem fmarks_length (j : Nat) : (fmarks j).length = j := by simp [fmarks]
theorem fmarks_succ (j : Nat) : fmarks (j + 1) = fmarks j ++ [mkF j] := by simp [fmarks, List.range_succ]
theorem fmarks_get (j i : Nat) (h : i < j) : (fmarks j)[i]? = some (mkF i) := by simp [fmarks, h]
theorem fcells_length (F : List (Int × Int)) : (fcells F).length = F.length * 2 := by
  induction F with
  | nil => rfl
  | cons x r ih => simp [fcells] at ih ⊢; omega
theorem fcells_append (F G : List (Int × Int)) : fcells (F ++ G) = fcells F ++ fcells G := by simp [fcells]
theorem fcells_one (F : List (Int × Int)) : ∀ u ∈ fcells F, u.oneCell' = true := by
  intro u hu
  simp [fcells] at hu
  obtain ⟨a, b, _, rfl | rfl⟩ := hu <;> rfl
/-- Fates that lie somewhere, as cells one behind the other. -/
theorem fates_news {w : World} {ad : Addr} {F : List (Int × Int)} (h : FatesAt w (some ad) F) : ∀ j u, (fcells F)[j]? = some u → w.cell? (ad.add j) = some u := by
  intro j u hu
  have hlt := (List.getElem?_eq_some_iff.1 hu).1
  rw [fcells_length] at hlt
  obtain ⟨i, r, hr, rfl⟩ : ∃ i r, r < 2 ∧ j = i * 2 + r := ⟨j / 2, j % 2, by omega, by omega⟩
  have hi : i < F.length := by omega
  obtain ⟨b, o, e, c1, c2⟩ := h i F[i] (List.getElem?_eq_getElem hi)
  obtain ⟨a1, a2⟩ := fcells_get F i F[i] (List.getElem?_eq_getElem hi)
  cases e
  rw [Addr.add_lit]
  match r, hr with
  | 0, _ => rw [Nat.add_zero] at hu ⊢; rw [a1] at hu; cases hu; exact c1
  | 1, _ => rw [a2] at hu; cases hu; exact c2
theorem own_fates {w : World} {base n g cap : Nat} {F : List (Int × Int)} (h : w.ownsRow base 165 2 (.slice (some ⟨g, 0, none⟩) n cap) n (fcells F)) : FatesAt w (some ⟨g, 0, none⟩) F := by
  intro j p hj
  obtain ⟨a1, a2⟩ := fcells_get F j p hj
  refine ⟨g, 0, rfl, ?_, ?_⟩
  · have := h.cells rfl _ _ a1
    rwa [Addr.add_lit] at this
  · have := h.cells rfl _ _ a2
    rwa [Addr.add_lit] at this
/-- append(s, x...) of fates. -/
theorem wpList_append_fates {w : World} {ops : Array Oper} {rest : List Oper} {o : Oper} {a : Act} {Q : Exit → Act → World → Prop} (hgd : o.guard = none) (s x : Operand)
    (ho : o.op = .call { callee := .builtin .append, args := #[s, x], argTypes := #[29, 29] }) (base : Nat) (v : Value) (n : Nat) (F : List (Int × Int)) (hs : a.eval s = v) (hown : w.ownsRow base 165 2 v n (fcells F))
    (ao : Option Addr) (m c : Nat) (G : List (Int × Int)) (hx : a.eval x = .slice ao m c) (hm : G.length = m) (hat : FatesAt w ao G) (hnil : ao = none → m = 0 ∧ c = 0)
    (hbytes : (n + m) * 16 ≤ 140737488355328) (hbase : base ≤ w.heap.size)
    (h : ∀ v' w', w'.ownsRow base 165 2 v' (n + m) (fcells (F ++ G)) → w.grownBy w' v.ownBlock → wpList Tryz.prog ops Q rest (a.put o.dst v') w') : wpList Tryz.prog ops Q (o :: rest) a w := by
  obtain ⟨i0, hi, hz0, hz1, hz2⟩ := info_parts Tryz.info165
  cases ao with
  | none =>
    obtain ⟨rfl, rfl⟩ := hnil rfl
    refine wpList_append_own_none hgd s x 29 ho base 165 i0 2 Tryz.underlying29 hi v n (fcells F) hs hown hx (h v w ?_ (grown_refl w _))
    have : G = [] := List.eq_nil_of_length_eq_zero hm
    subst this
    simpa using hown
  | some ad =>
    exact wpList_append_own _ hgd s x 29 ho base 165 i0 (.agg #[.int .i64 0, .int .i64 0]) 2 16 Tryz.underlying29 hi hz0 hz1 hz2 rfl (by decide) v n (fcells F) hs hown ad m c (fcells G) hx (by rw [fcells_length, hm]) (fates_news hat) (fcells_one G) (by unfold maxLen; omega) (by omega) hbase (fun v' w' h1 h2 _ => h v' w' (by rw [fcells_append]; exact h1) h2)
/-- Fates that were lent: they, and twelve marks behind their end. -/
def LentF (w : World) (B : Nat) (v : Value) (F : List (Int × Int)) : Prop :=
  ∃ g cap, v = .slice (some ⟨g, 0, none⟩) F.length cap ∧ w.ownsRow B 165 2 (.slice (some ⟨g, 0, none⟩) (F.length + 12) cap) (F.length + 12) (fcells (F ++ fmarks 12))
theorem slice_toF (ao : Option Addr) (len cap n : Nat) (h : n ≤ cap) (w : World) : (Instr.slice 29 (.slice ao len cap) none (some (.int .i64 (n : Int))) none).run Tryz.prog w = .ok (.slice ao n cap) w := by
  simp [Instr.slice, run_underlying Tryz.underlying29, Instr.sliceBounds, Instr.sliceBound, asIntOf, h]
  intro _; cases ao <;> simp [Addr.add]
def curF (n : Nat) : Array Value := madeCells #[.int .i64 0, .int .i64 0] ((n + 12) * 2)
theorem curF_size (n : Nat) : (curF n).size = (n + 12) * 2 := size_madeCells _ _
theorem make_capF (n : Nat) (h : n * 16 ≤ 140737488355328) (w : World) : (Instr.makeSlice 29 (.int .i64 0) (.int .i64 ((n : Int) + 12))).run Tryz.prog w = .ok (.slice (some ⟨w.heap.size, 0, none⟩) 0 (n + 12)) (w.alloc (.cells (curF n) 165)) := by
  obtain ⟨i0, hi, hz0, hz1, hz2⟩ := info_parts Tryz.info165
  rw [run_make (P := Tryz.prog) (w := w) 29 165 i0 (.agg #[.int .i64 0, .int .i64 0]) Tryz.underlying29 hi hz0 .i64 .i64 0 ((n : Int) + 12) (by omega) (by omega) (by rw [hz2]; omega) (by omega), hz1]
  have e : ((n : Int) + 12).toNat = n + 12 := by omega
  rw [e]
  rfl
end Go.Proofs.YtonokaelbpfjnaaGreatDoor
/- The contract of KeptFates. -/
namespace Go.Proofs.YtonokaelbpfjnaaGreatDoor
open Go.RowKit Ap
attribute [local go_sem ↓] Go.wp_at_zero Go.wp_at_succ

end Go.Proofs.YtonokaelbpfjnaaGreatDoor
