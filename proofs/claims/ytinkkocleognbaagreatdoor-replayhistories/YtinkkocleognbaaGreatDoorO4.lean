/- The document's states of a history. -/
import Derived.Test.YtinkkocleognbaaGreatDoorO3
namespace Go.Proofs.YtinkkocleognbaaGreatDoor
open Go.RowKit Go.Shelf
attribute [local go_sem ↓] Go.wp_at_zero Go.wp_at_succ
attribute [local go_sem] Oper.semAt_some
theorem info61 : (Tryz.prog.info? 61).map (fun i => (i.zero, i.size, i.bytes)) = some (some (.pointer none), 1, 8) := by kernel_rfl
/-- Pointers to the document's books. -/
def dps (ds : List (Nat × Value)) : List Value := ds.map fun x => .pointer (some ⟨x.1, 0, none⟩)
/-- A row of the document's books, the k-th in the state f k. -/
structure Dl (w : World) (lo : Nat) (v : Value) (f : Nat → Sb) (n : Nat) (ds : List (Nat × Value)) : Prop where
  len : ds.length = n
  row : w.ownsRow lo 61 1 v n (dps ds)
  bk : ∀ (k : Nat) (x : Nat × Value), ds[k]? = some x → Db w lo x.1 x.2 (f k)
theorem own_keepN {w w' : World} {b n sz : Nat} {t : TypeId} {v : Value} {xs : List Value} (h : w.ownsRow b t sz v n xs) (hg : w.grownBy w' none) : w'.ownsRow b t sz v n xs := h.kept hg (by cases hv : v.ownBlock with | none => exact Or.inl rfl | some k => exact Or.inr (by simp))
theorem Dl.then {w w' : World} {lo n : Nat} {v : Value} {f : Nat → Sb} {ds : List (Nat × Value)} (h : Dl w lo v f n ds) (hg : w.grownBy w' none) : Dl w' lo v f n ds := ⟨h.len, own_keepN h.row hg, fun k x hk => (h.bk k x hk).then hg⟩
theorem Db.lower {w : World} {lo lo' d : Nat} {v : Value} {S : Sb} (h : Db w lo d v S) (hl : lo' ≤ lo) : Db w lo' d v S := ⟨h.head, own_base h.row hl, Nat.le_trans hl h.ge⟩
/-- A row of pointers is none of a book's. -/
theorem Db.rowfar {w : World} {lo lo2 d n : Nat} {v u : Value} {S : Sb} {xs : List Value} (h : Db w lo d v S) (hr : w.ownsRow lo2 61 1 u n xs) : ∀ i, dbo d v i → ¬ u.ownBlock = some i := by
  rintro i hi hu
  obtain ⟨-, cur, hc⟩ := Ix.own_block hr hu
  rcases hi with rfl | hi
  · rw [h.head] at hc; cases hc
  · obtain ⟨-, cur2, hc2⟩ := Ix.own_block h.row hi; rw [hc2] at hc; cases hc
theorem Dl.snoc {w w' : World} {lo n d : Nat} {v v' u : Value} {f : Nat → Sb} {ds : List (Nat × Value)} (h : Dl w lo v f n ds) (hb : Db w lo d u (f n)) (ho : w'.ownsRow lo 61 1 v' (n + 1) (dps ds ++ [.pointer (some ⟨d, 0, none⟩)])) (hg : w.grownBy w' v.ownBlock) : Dl w' lo v' f (n + 1) (ds ++ [(d, u)]) := by
  have hk : Kept w w' (fun i => v.ownBlock = some i) := Kept.of hg (fun j e _ => e)
  refine ⟨by rw [List.length_append, h.len]; rfl, by unfold dps at *; rw [List.map_append]; exact ho, fun k x hx => ?_⟩
  by_cases hkn : k < n
  · rw [List.getElem?_append_left (by rw [h.len]; exact hkn)] at hx
    exact (h.bk k x hx).far hk ((h.bk k x hx).rowfar h.row)
  · rw [List.getElem?_append_right (by rw [h.len]; omega), h.len] at hx
    have hkl := (List.getElem?_eq_some_iff.1 hx).1
    simp at hkl
    obtain rfl : k = n := by omega
    simp at hx
    subst hx
    exact hb.far hk (hb.rowfar h.row)
/-- What the document's States answers. -/
def DsP (w w' : World) (v : Value) (f : Nat → Sb) (n : Nat) : Prop := ∃ ds, Dl w' w.heap.size v f n ds ∧ w.grownBy w' none
set_option maxRecDepth 20000 in
set_option maxHeartbeats 16000000 in
theorem dstates_any {w : World} {a b c : Nat} (ho : Gx.OkS a b c) {ao : Option Addr} {len cap : Nat} {rs : List Rc} (hl : rs.length = len) (hlen : len ≤ 10000) (hR : RecsAt w ao rs) (hO : ∀ r ∈ rs, r.Ok) : Calls Tryz.prog 16 #[limV a b c, .slice ao len cap] w fun e w' => ∃ v, e = .returned (.tuple #[v, .int .i64 (rE (nS a b c) rs)]) ∧ DsP w w' v (fo (nS a b c) rs) (rn (nS a b c) rs + 1) := by
  have HRan := hide (ran_is (nS a b c) rs)
  have HN := dnew_any ho (w.alloc (.cells #[.int .i64 (a : Int), .int .i64 (b : Int), .int .i64 (c : Int)] 23))
  have g0 := grown_alloc w (.cells #[.int .i64 (a : Int), .int .i64 (b : Int), .int .i64 (c : Int)] 23)
  have HG0 := hide g0
  have HD := hide (And.intro hl (And.intro hR hO))
  have HW : Hid (∀ j, (fo (nS a b c) rs j).Ok) := fun j => fo_ok (nS_ok ho) rs j
  have HF : Hid (∀ j r, rs[j]? = some r → fo (nS a b c) rs (j + 1) = app (fo (nS a b c) rs j) r) := fun j r h => fo_succ h
  have H00 : Hid (fo (nS a b c) rs 0 = nS a b c) := rfl
  obtain ⟨f, hf⟩ : ∃ f : Nat → Sb, f = fo (nS a b c) rs := ⟨_, rfl⟩
  have HRs : Hid ((∀ j r, rs[j]? = some r → j ≤ rn (nS a b c) rs → appE (f j) r = 0 → j + 1 ≤ rn (nS a b c) rs) ∧ (∀ j r, rs[j]? = some r → j ≤ rn (nS a b c) rs → appE (f j) r ≠ 0 → rn (nS a b c) rs = j ∧ rE (nS a b c) rs = appE (f j) r) ∧ (∀ j, j ≤ rn (nS a b c) rs → j = rs.length → rn (nS a b c) rs = j ∧ rE (nS a b c) rs = 0)) := by
    rw [hf]
    exact ⟨fun j r h h1 h2 => HRan.out.step h1 h h2, fun j r h h1 h2 => HRan.out.stop h1 h h2, fun j h1 h2 => HRan.out.end_ h1 h2⟩
  rw [← hf] at HW HF H00 ⊢
  clear hf HRan hR hO hl ho
  have HNs := HN
  unfold limV at HNs
  unfold limV
  rw [← H00.out] at HNs
  clear HN
  generalize rn (nS a b c) rs = n at *
  generalize rE (nS a b c) rs = er at *
  clear H00
  obtain ⟨c0, c1, c2, -⟩ := box3 (heap_alloc_new w (.cells [Value.int .i64 (a : Int), .int .i64 (b : Int), .int .i64 (c : Int)].toArray 23))
  generalize (a : Int) = a at *
  generalize (b : Int) = b at *
  generalize (c : Int) = c at *
  clear g0
  go_enter Tryz.func16, Tryz.ntmps16
  go_wp2_with fail
  generalize w.alloc (.cells #[.int .i64 a, .int .i64 b, .int .i64 c] 23) = w0 at *
  refine HNs.mono ?_
  clear HNs c0 c1 c2
  rintro e w1 ⟨d, rfl, hdb, hg⟩
  have G1 := hide (grown_trans HG0.out hg)
  have g2 := grown_alloc w1 (.cells #[.pointer (some ⟨d, 0, none⟩)] 61)
  have hd1 := (hdb.lower HG0.out.size).then g2
  have hr2 : (w1.alloc (.cells #[.pointer (some ⟨d, 0, none⟩)] 61)).ownsRow w.heap.size 61 1 (.slice (some ⟨w1.heap.size, 0, none⟩) 1 1) 1 [.pointer (some ⟨d, 0, none⟩)] := ⟨rfl, Or.inr ⟨w1.heap.size, 1, #[.pointer (some ⟨d, 0, none⟩)], rfl, G1.out.size, heap_alloc_new w1 _, Nat.le_refl _, by unfold maxLen; omega, rfl, rfl⟩⟩
  have D1 : Hid (Dl (w1.alloc (.cells #[.pointer (some ⟨d, 0, none⟩)] 61)) w.heap.size (.slice (some ⟨w1.heap.size, 0, none⟩) 1 1) f 1 [(d, .slice none 0 0)] ∧ w.grownBy (w1.alloc (.cells #[.pointer (some ⟨d, 0, none⟩)] 61)) none) := ⟨⟨rfl, hr2, fun k x hx => by
    have hk := (List.getElem?_eq_some_iff.1 hx).1
    simp at hk
    subst hk
    simp at hx
    subst hx
    exact hd1⟩, grown_trans G1.out g2⟩
  clear hdb hg G1 g2 hd1 hr2 HG0
  obtain ⟨i0, hi0, hz0, hz1, hz2⟩ := info_parts info61
  have HI0 := hide (And.intro hi0 (And.intro hz0 (And.intro hz1 hz2)))
  clear hi0 hz0 hz1 hz2
  go_wp2
  generalize w1.alloc (.cells #[.pointer (some ⟨d, 0, none⟩)] 61) = w2 at *
  go_loopg [6, 8, 9] len (fun k pd v i wr => ∃ j : Nat, k + j = len ∧ i = .int .i64 j ∧ ∃ ds d u, pd = .pointer (some ⟨d, 0, none⟩) ∧ Hid (Dl wr w.heap.size v f (j + 1) ds ∧ w.grownBy wr none ∧ j ≤ n ∧ ds[j]? = some (d, u)))
  case atStart => exact ⟨0, by omega, rfl, _, d, _, rfl, D1.out.1, D1.out.2, Nat.zero_le _, rfl⟩
  case round =>
    clear D1
    obtain ⟨j, hkj, rfl, ds, dj, uj, rfl, HL⟩ := hrel
    by_cases hk : 0 < gk
    · have h1 : (0 : Int) ≤ (j : Int) := by omega
      have h2 : (j : Int) < (len : Int) := by omega
      obtain ⟨r, hr⟩ : ∃ r, rs[j]? = some r := ⟨rs[j]'(by have := HD.out.1; omega), List.getElem?_eq_getElem _⟩
      have hjl : Hid (j < 10000) := by unfold Hid; omega
      have HR := hide (And.intro hr (HD.out.2.2 r (List.mem_of_getElem? hr)))
      have hdbj := HL.out.1.bk j _ HL.out.2.2.2
      have hwk := (HW.out j).wk
      have hX : (f j).L.length ≤ 65536 := by have := hwk.few; have := hwk.b1; omega
      have qc := dcopy_any hdbj hX
      have HGK := hide hk
      clear hdbj hwk hX hk
      dsimp only at qc
      obtain ⟨vo, vcap, rfl, -⟩ := Ix.own_form HL.out.1.row
      go_wp2_with fail
      refine qc.mono ?_
      clear qc
      rintro e w3 ⟨d', v', rfl, hdb, hg3⟩
      have G3 := hide hg3
      obtain ⟨bk, off, rfl, x0, x1, x2, x3, x4⟩ := (HD.out.2.1.grown (grown_trans HL.out.2.1 hg3)) j r HR.out.1
      have qa := dapply_any hdb (HW.out j) r HR.out.2
      unfold Rk.rcV at qa
      have HDB := hide hdb
      have hcode := HRs.out.1 j r HR.out.1 HL.out.2.2.1
      have hstop := HRs.out.2.1 j r HR.out.1 HL.out.2.2.1
      have hnx := HF.out j r HR.out.1
      have HC := hide (And.intro hcode (And.intro hstop hnx))
      clear hdb hg3 hcode hstop hnx hr
      generalize appE (f j) r = code at *
      generalize app (f j) r = S' at *
      obtain ⟨rk, ri, rs', ru, rc⟩ := r
      dsimp only at *
      go_wp2_with fail
      refine qa.mono ?_
      clear qa x0 x1 x2 x3 x4
      rintro e w4 ⟨v4, rfl, hdb4, hst⟩
      have G4 : Hid (wr.grownBy w4 none) := Kept.grown ((Kept.new G3.out (dbo d' v')).trans hst.kept (fun _ _ e => e)) (fun i hi e => by have := HDB.out.lows i e; omega)
      have HD4 := hide hdb4
      clear hdb4 hst HDB G3
      by_cases hc : code = 0
      · subst hc
        have D4 := hide (HL.out.1.then G4.out)
        have HX2 := hide (And.intro (grown_trans HL.out.2.1 G4.out) (And.intro (HC.out.1 rfl) HC.out.2.2))
        have hb4 : Db w4 w.heap.size d' v4 (f (j + 1)) := by rw [HX2.out.2.2]; exact HD4.out.lower HL.out.2.1.size
        have HB4 := hide hb4
        clear hb4 HL HC HD4
        have ga := grown_alloc w4 (.cells #[.pointer (some ⟨d', 0, none⟩)] 61)
        have D5 := hide (D4.out.then ga)
        have B5 := hide (HB4.out.then ga)
        have G5 := hide (grown_trans HX2.out.1 ga)
        have HCl : Hid (∀ (x : Nat) (u : Value), [Value.pointer (some ⟨d', 0, none⟩)][x]? = some u → (w4.alloc (.cells #[.pointer (some ⟨d', 0, none⟩)] 61)).cell? (Addr.add ⟨w4.heap.size, 0, none⟩ x) = some u) := fun x u hx => by
          rw [Addr.add_lit, Nat.zero_add, cell_row (heap_alloc_new w4 (.cells [Value.pointer (some ⟨d', 0, none⟩)].toArray 61))]
          exact hx
        clear ga D4 HB4
        go_wp2_with (at_builtin; refine wpList_append_own _ rfl (.tmp 38) (.tmp 40) 56 rfl w.heap.size 61 i0 (.pointer none) 1 8 Tryz.underlying56 HI0.out.1 HI0.out.2.1 HI0.out.2.2.1 HI0.out.2.2.2 rfl (by decide) (.slice vo (j + 1) vcap) (j + 1) (dps ds) rfl D5.out.row ⟨w4.heap.size, 0, none⟩ 1 1 [.pointer (some ⟨d', 0, none⟩)] rfl rfl HCl.out (by simp [Value.oneCell']) (by unfold maxLen; have := hjl.out; omega) (by have := hjl.out; omega) G5.out.size ?_)
        intro v6 w6 ho6 hg6 hv6
        clear hv6
        have D6 : Hid (Dl w6 w.heap.size v6 f (j + 2) (ds ++ [(d', v4)]) ∧ w.grownBy w6 none ∧ j + 1 ≤ n ∧ (ds ++ [(d', v4)])[j + 1]? = some (d', v4)) := ⟨D5.out.snoc B5.out ho6 hg6, grown_then G5.out hg6 (fun k e => Or.inl (Ix.own_block D5.out.row e).1), HX2.out.2.1, by rw [List.getElem?_append_right (by rw [D5.out.len]; exact Nat.le_refl _), D5.out.len, Nat.sub_self]; rfl⟩
        clear ho6 hg6 D5 B5 G5
        go_wp2
        go_roundg (gk - 1)
        case measure => have := HGK.out; omega
        case rel => exact ⟨j + 1, by have := HGK.out; omega, by have := hjl.out; go_num, _, _, _, rfl, D6.out⟩
      · have hs := HC.out.2.1 hc
        have HZ : Hid (DsP w w4 (.slice vo (j + 1) vcap) f (n + 1) ∧ er = code) := ⟨⟨ds, by rw [hs.1]; exact HL.out.1.then G4.out, grown_trans HL.out.2.1 G4.out⟩, hs.2⟩
        have e1 : (code == 0) = false := by simpa using hc
        have e2 : (code != 0) = true := by simpa using hc
        have e3 : decide (code = 0) = false := by simpa using hc
        clear hs hc HC HL
        go_wp2
        go_ret2
        exact ⟨_, by rw [HZ.out.2]; rfl, HZ.out.1⟩
    · obtain rfl : j = len := by omega
      have hs := HRs.out.2.2 j HL.out.2.2.1 HD.out.1.symm
      obtain ⟨vo, vcap, rfl, -⟩ := Ix.own_form HL.out.1.row
      have HZ : Hid (DsP w wr (.slice vo (j + 1) vcap) f (n + 1) ∧ er = 0) := ⟨⟨ds, by rw [hs.1]; exact HL.out.1, HL.out.2.1⟩, hs.2⟩
      clear hs HL
      go_wp2
      go_ret2
      exact ⟨_, by rw [HZ.out.2]; rfl, HZ.out.1⟩
theorem dstates_no {w : World} {a b c : Int} (ho : ¬ Gx.OkS a b c) {ao : Option Addr} {len cap : Nat} : Calls Tryz.prog 16 #[.agg #[.int .i64 a, .int .i64 b, .int .i64 c], .slice ao len cap] w fun e w' => e = .returned (.tuple #[.slice none 0 0, .int .i64 90]) ∧ w.grownBy w' none := by
  have HN := dnew_no ho (w.alloc (.cells #[.int .i64 a, .int .i64 b, .int .i64 c] 23))
  have HG0 := hide (grown_alloc w (.cells #[.int .i64 a, .int .i64 b, .int .i64 c] 23))
  obtain ⟨c0, c1, c2, -⟩ := box3 (heap_alloc_new w (.cells [Value.int .i64 a, .int .i64 b, .int .i64 c].toArray 23))
  clear ho
  go_enter Tryz.func16, Tryz.ntmps16
  go_wp2_with fail
  generalize w.alloc (.cells #[.int .i64 a, .int .i64 b, .int .i64 c] 23) = w0 at *
  refine HN.mono ?_
  clear HN
  rintro e w1 ⟨d, rfl, hg⟩
  have G1 := hide (grown_trans HG0.out hg)
  clear hg
  go_wp2
  go_ret2
  exact ⟨rfl, G1.out⟩
end Go.Proofs.YtinkkocleognbaaGreatDoor
