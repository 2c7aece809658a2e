/- The document's Text. -/
import Derived.Test.YtnjcajcjdfhinaaDoorDa
import Derived.Laws.AppendOwnNone
import Derived.Laws.Concat
namespace Go.Proofs.YtnjcajcjdfhinaaDoor
open Go.RowKit Cn
attribute [local go_sem ↓] Go.wp_at_zero Go.wp_at_succ

theorem Tryd.info3 : (Tryd.prog.info? 3).map (fun i => (i.zero, i.size, i.bytes)) = some (some (.int .i64 0), 1, 8) := by kernel_rfl
/-- Numbers as cells. -/
def iv (l : List Nat) : List Value := l.map fun (n : Nat) => Value.int .i64 (n : Int)
theorem iv_snoc (l : List Nat) (x : Nat) : iv (l ++ [x]) = iv l ++ [.int .i64 (x : Int)] := by simp [iv]
/-- One number more behind a row that the call made. -/
theorem wpList_app1 {w : World} {ops : Array Oper} {rest : List Oper} {o : Oper} {a : Act} {Q : Exit → Act → World → Prop} (hgd : o.guard = none) (s x : Operand)
    (ho : o.op = .call { callee := .builtin .append, args := #[s, x], argTypes := #[33, 33] }) (base : Nat) (v : Value) (n : Nat) (xs : List Nat) (hs : a.eval s = v) (hown : w.ownsRow base 3 1 v n (iv xs))
    (ad : Addr) (y : Nat) (hx : a.eval x = .slice (some ad) 1 1) (hat : w.cell? ad = some (.int .i64 (y : Int))) (hbytes : n ≤ 1000000) (hbase : base ≤ w.heap.size)
    (h : ∀ v' w', w'.ownsRow base 3 1 v' (n + 1) (iv (xs ++ [y])) → w.grownBy w' v.ownBlock → wpList Tryd.prog ops Q rest (a.put o.dst v') w') : wpList Tryd.prog ops Q (o :: rest) a w := by
  obtain ⟨i0, hi, hz0, hz1, hz2⟩ := info_parts Tryd.info3
  refine wpList_append_own _ hgd s x 33 ho base 3 i0 (.int .i64 0) 1 8 Tryd.underlying33 hi hz0 hz1 hz2 rfl (by decide) v n (iv xs) hs hown ad 1 1 [.int .i64 (y : Int)] hx rfl ?_ ?_ (by unfold maxLen; omega) (by omega) hbase (fun v' w' h1 h2 _ => h v' w' (by rw [iv_snoc]; exact h1) h2)
  · intro j u hu
    cases j with
    | zero =>
      simp at hu; subst hu
      rw [show ad.add 0 = ad by unfold Addr.add; simp]
      exact hat
    | succ k => simp at hu
  · intro u hu; simp at hu; subst hu; rfl
theorem own_at {w : World} {base n : Nat} {v : Value} {xs : List Nat} (h : w.ownsRow base 3 1 v n (iv xs)) :
    ∃ ao cap, v = .slice ao n cap ∧ xs.length = n ∧ n ≤ cap ∧ cap ≤ maxLen ∧ At w ao xs := by
  obtain ⟨hl, h⟩ := h
  simp [iv] at hl
  rcases h with ⟨rfl, rfl⟩ | ⟨g, cap, cur, rfl, hb, hg, hn, hm, hs, ht⟩
  · have : xs = [] := List.eq_nil_of_length_eq_zero hl
    subst this
    exact ⟨none, 0, rfl, rfl, Nat.le_refl _, Nat.zero_le _, fun j u h => by simp at h⟩
  · refine ⟨some ⟨g, 0, none⟩, cap, rfl, hl, hn, hm, ?_⟩
    intro j u hu
    refine ⟨_, rfl, ?_⟩
    rw [add0, cell_of_row w g j cur 3 (0, 0) hg]
    have h1 : (cur.toList.take (n * 1))[j]? = some (Value.int .i64 (u : Int)) := by rw [ht]; unfold iv; rw [List.getElem?_map, hu]; rfl
    rw [List.getElem?_take] at h1
    split at h1
    · simpa using h1
    · cases h1
theorem own_grown {w w' : World} {base n : Nat} {v : Value} {xs : List Value} (h : w.ownsRow base 3 1 v n xs) (hg : w.grownBy w' none) : w'.ownsRow base 3 1 v n xs := by
  obtain ⟨hl, h⟩ := h
  refine ⟨hl, ?_⟩
  rcases h with h | ⟨g, cap, cur, rfl, hb, hgc, hr⟩
  · exact Or.inl h
  · exact Or.inr ⟨g, cap, cur, rfl, hb, heap_kept hgc hg (by simp), hr⟩
theorem cell_new1 (w : World) (x : Int) : (w.alloc (.cells #[.int .i64 x] 3)).cell? ⟨w.heap.size, 0, none⟩ = some (.int .i64 x) :=
  cell_row (l := [.int .i64 x]) (heap_alloc_new w (.cells #[.int .i64 x] 3)) 0
/-- An own row's block is new to the caller. -/
theorem grown_own {a b c : World} {base n : Nat} {v : Value} {xs : List Value} (h : a.grownBy b none) (ho : b.ownsRow base 3 1 v n xs) (hb : a.heap.size ≤ base) (k : b.grownBy c v.ownBlock) : a.grownBy c none :=
  grown_then h k (fun j e => Or.inl (by have := (ho.lt j e).1; omega))

/-- The powers of 32, downwards. -/
def pw (j : Nat) : Nat := 1073741824 / 32 ^ j
theorem pw_step (j : Nat) : pw j / 32 = pw (j + 1) := by unfold pw; rw [Nat.div_div_eq_div_mul, Nat.pow_succ]
theorem pw_pos {j : Nat} (h : j < 7) : 1 ≤ pw j ∧ pw j ≤ 1073741824 := by
  have := (by decide : ∀ j : Fin 7, 1 ≤ pw j.1 ∧ pw j.1 ≤ 1073741824) ⟨j, h⟩
  exact this
theorem dg_at (id : Nat) {j : Nat} (h : j < 7) : (dg id)[j]? = some (id / pw j % 32) := by
  match j, h with
  | 0, _ => rfl
  | 1, _ => rfl
  | 2, _ => rfl
  | 3, _ => rfl
  | 4, _ => rfl
  | 5, _ => rfl
  | 6, _ => simp [dg, pw]
theorem dg_take (id : Nat) {j : Nat} (h : j < 7) : (dg id).take (j + 1) = (dg id).take j ++ [id / pw j % 32] := by
  rw [List.take_add_one, dg_at id h]; rfl
theorem letter_at (c : Nat) (hc : c < 32) : (⟨#[50, 51, 52, 53, 54, 55, 56, 57, 65, 66, 67, 68, 69, 70, 71, 72, 74, 75, 76, 77, 78, 80, 81, 82, 83, 84, 85, 86, 87, 88, 89, 90]⟩ : ByteArray).extract c (c + 1) = ⟨[lt c].toArray⟩ := by
  have h : ∀ c : Fin 32, (((⟨#[50, 51, 52, 53, 54, 55, 56, 57, 65, 66, 67, 68, 69, 70, 71, 72, 74, 75, 76, 77, 78, 80, 81, 82, 83, 84, 85, 86, 87, 88, 89, 90]⟩ : ByteArray).extract c.1 (c.1 + 1)).data == [lt c.1].toArray) = true := by decide +kernel
  have := h ⟨c, by omega⟩
  simp only [beq_iff_eq] at this
  cases hx : (⟨#[50, 51, 52, 53, 54, 55, 56, 57, 65, 66, 67, 68, 69, 70, 71, 72, 74, 75, 76, 77, 78, 80, 81, 82, 83, 84, 85, 86, 87, 88, 89, 90]⟩ : ByteArray).extract c (c + 1) with
  | mk d => rw [hx] at this; rw [← this]
theorem slice_letter (c : Nat) (hc : c < 32) (w : World) : (Instr.slice 9 (.string ⟨#[50, 51, 52, 53, 54, 55, 56, 57, 65, 66, 67, 68, 69, 70, 71, 72, 74, 75, 76, 77, 78, 80, 81, 82, 83, 84, 85, 86, 87, 88, 89, 90]⟩) (some (.int .i64 (c : Int))) (some (.int .i64 ((c : Int) + 1))) none).run Tryd.prog w = .ok (str [lt c]) w := by
  have hs : (⟨#[50, 51, 52, 53, 54, 55, 56, 57, 65, 66, 67, 68, 69, 70, 71, 72, 74, 75, 76, 77, 78, 80, 81, 82, 83, 84, 85, 86, 87, 88, 89, 90]⟩ : ByteArray).size = 32 := rfl
  have h2 : ((c : Int) + 1).toNat = c + 1 := by omega
  have h3 : (c : Int) + 1 ≤ 32 := by omega
  simp [Instr.slice, run_underlying Tryd.underlying9, Instr.sliceBounds, Instr.sliceBound, asIntOf, hs, str, letter_at c hc, h2, h3]
  omega
theorem add_str (a b : List UInt8) (h : a.length + b.length ≤ 1000) (w : World) : (Op.stringOp .add ⟨a.toArray⟩ ⟨b.toArray⟩).run Tryd.prog w = .ok (.string ⟨(a ++ b).toArray⟩) w := by
  rw [← app_str]
  exact run_string_add_sum _ ⟨a.toArray⟩ ⟨b.toArray⟩ (by rw [size_str, size_str]; omega)

theorem take_lt {l : List Nat} {j : Nat} (h : j < l.length) : (l.take (j + 1)).map lt = (l.take j).map lt ++ [lt l[j]] := by
  rw [List.take_add_one, List.getElem?_eq_getElem h, List.map_append]; rfl
set_option maxRecDepth 100000 in
set_option maxHeartbeats 2000000 in
theorem rtext_any (id : Nat) (hid : id < 4294967296) (w : World) :
    Calls Tryd.prog 10 #[.int .u32 (id : Int)] w fun e w' => e = .returned (str (tx id)) ∧ w.grownBy w' none := by
  have hw : IntKind.i64.wrap (id : Int) = (id : Int) := IntWalk.i64_in _ (by omega)
  have hid2 : (id : Int) < 4294967296 := by omega
  have HID := hide hid
  clear hid
  go_enter Tryd.func10, Tryd.ntmps10
  go_wp2
  go_loopg [3, 4, 5] 7 (fun k u p i wr => ∃ (j : Nat) (v : Value), k + j = 7 ∧ v = u ∧ i = .int .i64 (j : Int) ∧ p = .int .i64 (pw j : Int) ∧ wr.ownsRow w.heap.size 3 1 v j (iv ((dg id).take j)) ∧ w.grownBy wr none)
  case atStart => exact ⟨0, _, by omega, rfl, rfl, rfl, World.ownsRow_nil _ _ _ _, grown_refl _ _⟩
  case round =>
    obtain ⟨j, v, hkj, rfl, rfl, rfl, hown, hg⟩ := hrel
    have hj0 : (0 : Int) ≤ (j : Int) := by omega
    by_cases hk : 0 < gk
    · have hj : j < 7 := by omega
      have hj1 : (j : Int) < 7 := by omega
      have hp := pw_pos hj
      have hid := HID.out
      have htk := dg_take id hj
      have hst := pw_step j
      have hq : (id : Int).tdiv (pw j : Int) = ((id / pw j : Nat) : Int) := by rw [Int.tdiv_eq_ediv_of_nonneg (by omega)]; rfl
      have hle : id / pw j ≤ id := Nat.div_le_self _ _
      have hq2 : (pw j : Int).tdiv 32 = ((pw j / 32 : Nat) : Int) := by rw [Int.tdiv_eq_ediv_of_nonneg (by omega)]; rfl
      rw [hst] at hq2
      have hpn : pw (j + 1) ≤ 1073741824 := by unfold pw; exact Nat.div_le_self _ _
      have hne : ((pw j : Int) == 0) = false := by simp; omega
      have hne2 : ¬ pw j = 0 := by omega
      obtain ⟨p', hp'⟩ : ∃ p', p' = pw (j + 1) := ⟨_, rfl⟩
      rw [← hp'] at hq2 hpn hst
      have HP := hide hp'
      clear hp'
      have HB := hide (And.intro hown (And.intro hg htk))
      generalize id / pw j = y at *
      generalize pw j = p at *
      have hm : (y : Int).tmod 32 = ((y % 32 : Nat) : Int) := by rw [Int.tmod_eq_emod_of_nonneg (by omega)]; rfl
      have hwq : IntKind.i64.wrap (y : Int) = (y : Int) := IntWalk.i64_in _ (by omega)
      have hwp : IntKind.i64.wrap (p' : Int) = (p' : Int) := IntWalk.i64_in _ (by omega)
      have hwm : IntKind.i64.wrap ((y % 32 : Nat) : Int) = ((y % 32 : Nat) : Int) := IntWalk.i64_in _ (by omega)
      generalize y % 32 = x at *
      clear hown hg htk hst hp hle hpn hid2 hid
      go_wp2_with (at_builtin; refine wpList_app1 rfl (.tmp 12) (.tmp 18) rfl w.heap.size v j ((dg id).take j) rfl (own_grown HB.out.1 (grown_alloc wr (.cells #[.int .i64 (x : Int)] 3))) ⟨wr.heap.size, 0, none⟩ x rfl (cell_new1 wr _) (by omega) ?_ ?_)
      · have := HB.out.2.1.size
        rw [alloc_size]; omega
      · intro v' w' hown' hg'
        have HK := hide (And.intro hown' (grown_own (grown_trans HB.out.2.1 (grown_alloc wr _)) (own_grown HB.out.1 (grown_alloc wr _)) (Nat.le_refl _) hg'))
        clear hown' hg'
        go_wp2
        go_roundg (gk - 1)
        case measure => omega
        case rel =>
          refine ⟨j + 1, v', by omega, rfl, by go_num, by rw [← HP.out], ?_, HK.out.2⟩
          rw [HB.out.2.2]; exact HK.out.1
    · have hj : j = 7 := by omega
      subst hj
      rw [show (dg id).take 7 = dg id from rfl] at hown
      obtain ⟨ao, cap, rfl, hl, hc1, hc2, hat⟩ := own_at hown
      have HC := hide (rcheck_any ao 7 cap (dg id) (dg_len id) (by omega) (dg_low id) wr hat)
      have hcl := chk_lt (c := 0) (by decide) (dg_low id)
      have HB := hide (And.intro hown (And.intro hg rfl : w.grownBy wr none ∧ wo id = dg id ++ [chk 0 (dg id)]))
      generalize chk 0 (dg id) = C at *
      clear hown hg hat hl hc1 hc2
      go_wp2_with fail
      refine HC.out.mono ?_
      rintro e w1 ⟨rfl, rfl⟩
      go_wp2_with (at_builtin; refine wpList_app1 rfl (.tmp 22) (.tmp 25) rfl w.heap.size (.slice ao 7 cap) 7 (dg id) rfl (own_grown HB.out.1 (grown_alloc w1 (.cells #[.int .i64 (C : Int)] 3))) ⟨w1.heap.size, 0, none⟩ C rfl (cell_new1 w1 _) (by omega) ?_ ?_)
      · have := HB.out.2.1.size
        rw [alloc_size]; omega
      · intro v' w2 hown' hg'
        have hg2 := grown_own (grown_trans HB.out.2.1 (grown_alloc w1 _)) (own_grown HB.out.1 (grown_alloc w1 _)) (Nat.le_refl _) hg'
        rw [← HB.out.2.2] at hown'
        obtain ⟨ao2, cap2, rfl, hl2, hc3, hc4, hat2⟩ := own_at hown'
        obtain ⟨l, hl⟩ : ∃ l, l = wo id := ⟨_, rfl⟩
        have htx : tx id = l.map lt := by rw [hl]; rfl
        have hlow : Low l := by rw [hl]; exact wo_low id
        rw [← hl] at hat2 hl2
        have HL := hide (And.intro hat2 (And.intro hl2 (And.intro hlow (And.intro hg2 htx))))
        clear hown' hg' hg2 hl htx hlow hat2 hl2 hc3 hc4 HB HC
        go_wp2
        go_loopg [6, 7] 8 (fun k u i wr => ∃ j : Nat, k + j = 8 ∧ i = .int .i64 (j : Int) ∧ u = str ((l.take j).map lt) ∧ wr.heap = w2.heap ∧ w.grownBy wr none)
        case atStart => exact ⟨0, by omega, rfl, rfl, rfl, HL.out.2.2.2.1⟩
        case round =>
          obtain ⟨j, hkj, rfl, rfl, hh, hg⟩ := hrel
          obtain ⟨hat, hlen, hlow, _, htx⟩ := HL.out
          have hj0 : (0 : Int) ≤ (j : Int) := by omega
          by_cases hk : 0 < gk
          · have hj1 : (j : Int) < 8 := by omega
            have hjl : j < l.length := by omega
            obtain ⟨ad, rfl, hcell⟩ := hat j _ (List.getElem?_eq_getElem hjl)
            have hx := hlow _ (List.getElem_mem hjl)
            have htk := take_lt hjl
            have hcell : wr.cell? (ad.add j) = some (.int .i64 (l[j] : Int)) := by
              rw [← hcell]; unfold World.cell?; rw [hh]
            have hsl := slice_letter l[j] hx
            have hadd := add_str ((l.take j).map lt) [lt l[j]] (by simp; omega)
            rw [← htk] at hadd
            have hwx : IntKind.i64.wrap ((l[j] : Int) + 1) = (l[j] : Int) + 1 := IntWalk.i64_in _ (by omega)
            have HR := hide (And.intro hh hg)
            obtain ⟨s2, hs2⟩ : ∃ s2, s2 = (⟨((l.take (j + 1)).map lt).toArray⟩ : ByteArray) := ⟨_, rfl⟩
            rw [← hs2] at hadd
            have HS := hide hs2
            unfold str at *
            generalize (⟨((l.take j).map lt).toArray⟩ : ByteArray) = s1 at *
            generalize (⟨[lt l[j]].toArray⟩ : ByteArray) = s3 at *
            generalize l[j] = x at *
            clear hs2 hh hg htk hat hlen hlow htx hjl
            go_wp2
            go_quiet (fail)
            go_wp2
            go_roundg (gk - 1)
            case measure => omega
            case rel => exact ⟨j + 1, by omega, by go_num, by rw [HS.out], HR.out.1, grown_trans HR.out.2 (grown_drewN _ _ _)⟩
          · have hj : j = 8 := by omega
            subst hj
            rw [List.take_of_length_le (by omega), ← htx]
            have HG := hide hg
            clear hh hg hat hlen hlow htx
            go_wp2
            go_ret
            exact ⟨rfl, HG.out⟩
end Go.Proofs.YtnjcajcjdfhinaaDoor
