/- Texts joined: ImV. -/
import Derived.Test.YtahjckcfcdnlmaaGreatJnAr
/- ImageWhole: beginnings, more behind, other shapes. -/
namespace Go.Proofs.YtahjckcfcdnlmaaGreat
open Go.RowKit
attribute [local go_sem ↓] Go.wp_at_zero Go.wp_at_succ
attribute [local go_sem] Oper.semAt_some
theorem gV_append (xs ys : List Int) {o k : Nat} (h : o + k ≤ xs.length) : gV (xs ++ ys) o k = gV xs o k := by
  unfold gV
  rw [List.drop_append_of_le_length (by omega), List.take_append_of_le_length (by simp; omega)]
theorem imM_img {S : Sb} (h : S.Ok) : imM (img S) = S.L.length := by unfold imM; rw [(hd_img h).hm]; exact Int.toNat_natCast _
theorem take_not {S : Sb} (h : S.Ok) {a b c : Int} (hS : Gx.OkS a b c) {k : Nat} (hk : k < (img S).length) : ¬ GetOk a b c ((img S).take k) ∧ getE a b c ((img S).take k) = 4 := by
  have hl : ((img S).take k).length = k := by simp; omega
  have hi := img_length S
  by_cases h1 : k < 20
  · refine ⟨fun g => by have := g.l0; omega, ?_⟩
    unfold getE
    rw [if_neg (by simpa using hS), if_pos (by omega)]
  · have hm : imM ((img S).take k) = S.L.length := by
      have := imM_img h
      unfold imM at this ⊢
      rw [gV_take _ (by omega)]; exact this
    refine ⟨fun g => by have := g.l1; omega, ?_⟩
    unfold getE
    rw [if_neg (by simpa using hS), if_neg (by omega), if_pos (by omega)]
theorem more_not {S : Sb} (h : S.Ok) {a b c : Int} (hS : Gx.OkS a b c) {ys : List Int} (hy : 0 < ys.length) : ¬ GetOk a b c (img S ++ ys) ∧ getE a b c (img S ++ ys) = 5 := by
  have hi := img_length S
  have hl : (img S ++ ys).length = (img S).length + ys.length := by simp
  have hm : imM (img S ++ ys) = S.L.length := by
    have := imM_img h
    unfold imM at this ⊢
    rw [gV_append _ _ (by omega)]; exact this
  refine ⟨fun g => by have := g.l1; omega, ?_⟩
  unfold getE
  rw [if_neg (by simpa using hS), if_neg (by omega), if_neg (by omega), if_pos (by omega)]
theorem other_not {S : Sb} (h : S.Ok) {a b c : Int} (hS : Gx.OkS a b c) (hn : ¬ ((S.a : Int) = a ∧ (S.b : Int) = b)) : ¬ GetOk a b c (img S) ∧ getE a b c (img S) = 180 := by
  have hi := img_length S
  have hm := imM_img h
  have hH := hd_img h
  refine ⟨fun g => hn ⟨hH.ha.symm.trans g.ha, hH.hb.symm.trans g.hb⟩, ?_⟩
  unfold getE
  rw [if_neg (by simpa using hS), if_neg (by omega), if_neg (by omega), if_neg (by omega)]
theorem bad_not {a b c : Int} (hS : ¬ Gx.OkS a b c) (xs : List Int) : ¬ GetOk a b c xs ∧ getE a b c xs = 90 := by
  refine ⟨fun g => hS g.sh, ?_⟩
  unfold getE
  rw [if_pos hS]
set_option maxHeartbeats 400000 in
theorem pick_any (x : Int) (n : Nat) (w : World) (hn : 1 ≤ n) (hn2 : n ≤ 65536) :
    Calls Tryz.prog 16 #[.int .i64 x, .int .i64 (n : Int)] w fun e w' => ∃ k : Nat, e = .returned (.int .i64 (k : Int)) ∧ k < n ∧ w' = w := by
  have h1 : (1 : Int) ≤ (n : Int) := by omega
  have h2 : ((n : Int) == 0) = false := by simp; omega
  have hb := Int.tmod_lt_of_pos x (show (0 : Int) < (n : Int) by omega)
  have hb2 := Int.lt_tmod_of_pos x (show (0 : Int) < (n : Int) by omega)
  by_cases hs : x.tmod (n : Int) < 0
  · obtain ⟨k, hk⟩ : ∃ k : Nat, x.tmod (n : Int) + (n : Int) = (k : Int) := ⟨(x.tmod (n : Int) + (n : Int)).toNat, by omega⟩
    have hw : IntKind.i64.wrap (x.tmod (n : Int) + (n : Int)) = (k : Int) := by rw [IntKind.wrap_i64]; omega
    have HK : Hid (k < n) := by unfold Hid; omega
    clear hk
    go_enter Tryz.func16, Tryz.ntmps16
    go_wp2
    go_ret
    exact ⟨k, rfl, HK.out, rfl⟩
  · have hs2 : 0 ≤ x.tmod (n : Int) := by omega
    have HK : Hid ((x.tmod (n : Int)).toNat < n ∧ (((x.tmod (n : Int)).toNat : Nat) : Int) = x.tmod (n : Int)) := by unfold Hid; omega
    go_enter Tryz.func16, Tryz.ntmps16
    go_wp2
    go_ret
    exact ⟨(x.tmod (n : Int)).toNat, by rw [HK.out.2]; rfl, HK.out.1, rfl⟩
set_option maxRecDepth 20000 in
/-- Bytes appended to a row of one's own. -/
theorem app_bytes0 {W : World} {base n : Nat} {v : Value} {xs : List Int} (hown : W.ownsRow base 5 1 v n (xs.map (Value.int .u8))) (ao : Option Addr) (m c : Nat) (ys : List Int) (hm : ys.length = m) (hat : Oc.At W ao ys) (hnil : ao = none → m = 0 ∧ c = 0) (hbytes : n + m ≤ 140737488355328) (hbase : base ≤ W.heap.size) :
    ∃ v' w', (∀ ty, (Builtin.append_ #[36, 36] ty #[v, .slice ao m c]).run Tryz.prog W = .ok v' w') ∧ w'.ownsRow base 5 1 v' (n + m) ((xs ++ ys).map (Value.int .u8)) ∧ W.grownBy w' v.ownBlock := by
  obtain ⟨i0, hi, hz0, hz1, hz2⟩ := info_parts Oc.Tryz.info5
  cases ao with
  | none =>
    obtain ⟨rfl, rfl⟩ := hnil rfl
    have : ys = [] := List.eq_nil_of_length_eq_zero hm
    subst this
    refine ⟨v, W, fun ty => ?_, by simpa using hown, grown_refl W _⟩
    exact run_append_owned_none W base 36 ty 5 i0 1 Tryz.underlying36 hi v n _ hown
  | some ad =>
    obtain ⟨v', w3, e1, e2, e3, _⟩ := run_append_own_at (P := Tryz.prog) W base 36 0 5 i0 (.int .u8 0) 1 1 Tryz.underlying36 hi hz0 hz1 hz2 rfl (by decide) v n _ hown ad m c (ys.map (Value.int .u8)) (by simp [hm]) (by
      intro j u hu
      rw [List.getElem?_map] at hu
      cases hj : ys[j]? with
      | none => simp [hj] at hu
      | some y =>
        simp [hj] at hu
        obtain ⟨a', ha', hc'⟩ := hat j y hj
        cases ha'
        rw [← hu]; exact hc') (by intro u hu; rw [List.mem_map] at hu; obtain ⟨y, _, rfl⟩ := hu; rfl) (by unfold maxLen; omega) (by omega) hbase
    exact ⟨v', w3, fun ty => e1, by rw [List.map_append]; exact e2, e3⟩
theorem next_fits {need old : Nat} (h : old < need) (hb : need ≤ 150000000000000) : Builtin.nextslicecap need old ≤ 281474976710656 := by
  have hg : ∀ r c, c ≤ need + (need + 768) / 4 → Builtin.growBy need r c ≤ need + (need + 768) / 4 := by
    intro r
    induction r with
    | zero => intro c h; exact h
    | succ r ih =>
      intro c h
      unfold Builtin.growBy
      split
      · exact h
      · exact ih _ (by omega)
  unfold Builtin.nextslicecap
  split
  · omega
  · split
    · omega
    · have := hg 4 old (by omega)
      omega
set_option maxRecDepth 20000 in
/-- Bytes appended to a row of one's own, also where both are more than the room of one. -/
theorem app_bytes {W : World} {base n : Nat} {v : Value} {xs : List Int} (hown : W.ownsRow base 5 1 v n (xs.map (Value.int .u8))) (ao : Option Addr) (m c : Nat) (ys : List Int) (hm : ys.length = m) (hat : Oc.At W ao ys) (hnil : ao = none → m = 0 ∧ c = 0) (hm7 : m ≤ 140737488355328) (hn7 : n ≤ 140737488355328) (hbytes : n + m ≤ 150000000000000) (hbase : base ≤ W.heap.size) :
    ∃ v' w', (∀ ty, (Builtin.append_ #[36, 36] ty #[v, .slice ao m c]).run Tryz.prog W = .ok v' w') ∧ w'.ownsRow base 5 1 v' (n + m) ((xs ++ ys).map (Value.int .u8)) ∧ W.grownBy w' v.ownBlock := by
  by_cases hs : n + m ≤ 140737488355328
  · exact app_bytes0 hown ao m c ys hm hat hnil hs hbase
  obtain ⟨i0, hi, hz0, hz1, hz2⟩ := info_parts Oc.Tryz.info5
  cases ao with
  | none => obtain ⟨rfl, rfl⟩ := hnil rfl; omega
  | some ad =>
    have hxl : xs.length = n := by have := hown.1; simpa using this
    have hnews : ∀ (j : Nat) (u : Value), (ys.map (Value.int .u8))[j]? = some u → W.cell? (ad.add j) = some u := by
      intro j u hu
      rw [List.getElem?_map] at hu
      cases hj : ys[j]? with
      | none => simp [hj] at hu
      | some y =>
        simp [hj] at hu
        obtain ⟨a', ha', hc'⟩ := hat j y hj
        cases ha'
        rw [← hu]; exact hc'
    have hone : ∀ u ∈ ys.map (Value.int .u8), u.oneCell' = true := by intro u hu; rw [List.mem_map] at hu; obtain ⟨y, _, rfl⟩ := hu; rfl
    have hlen : ((xs ++ ys).map (Value.int .u8)).length = (n + m) * 1 := by simp [hxl, hm]
    have holds' : ∀ g cap, v = .slice (some ⟨g, 0, none⟩) n cap → ∀ (j : Nat) (u : Value), (xs.map (Value.int .u8))[j]? = some u → W.cell? ((⟨g, 0, none⟩ : Addr).add j) = some u := by
      intro g cap hv; subst hv; exact hown.cells (g := g) rfl
    rcases hown.2 with ⟨_, h0⟩ | ⟨g, cap, cur, rfl, hbg, hg, hnc, hcm, hcs, htake⟩
    · omega
    · by_cases hroom : n + m ≤ cap
      · have hfit : n * i0.size + (ys.map (Value.int .u8)).length ≤ cur.size := by rw [hz1, List.length_map, hm, hcs]; omega
        refine ⟨_, _, fun ty => run_append_room (P := Tryz.prog) W 36 ty 5 i0 Tryz.underlying36 hi g n cap cur hg ad m c _ (by rw [hz1]; simp [hm]) hnews hone hroom hfit, ⟨hlen, .inr ⟨g, cap, _, rfl, hbg, setRow_heap W g cur _ 5 _ hg, hroom, hcm, ?_, ?_⟩⟩, ⟨rfl, rfl, rfl, by simp, fun k _ hk => setRow_other W g k _ (fun e => hk (by simp [Value.ownBlock, e]))⟩⟩
        · rw [hz1] at *
          simp only [List.size_toArray, List.length_append, List.length_take, List.length_drop, Array.length_toList]
          omega
        · rw [hz1, htake, List.map_append, ← hlen, List.map_append]
          exact List.take_left
      · have hge := grownCap_ge W (n + m) cap 5
        refine ⟨_, _, fun ty => run_append_grow (P := Tryz.prog) W 36 ty 5 i0 (.int .u8 0) Tryz.underlying36 hi hz0 ⟨g, 0, none⟩ n cap _ (by rw [hz1]; simp [hxl]) (holds' g cap rfl) ad m c _ (by rw [hz1]; simp [hm]) hnews (by omega) (by omega) (by rw [hz2, Nat.mul_one]; exact next_fits (by omega) hbytes), ⟨hlen, .inr ⟨W.heap.size, _, _, rfl, hbase, heap_alloc_new W.drew _, hge, grownCap_le_maxLen W (n + m) cap 5 (by unfold maxLen; omega), ?_, ?_⟩⟩, ⟨rfl, rfl, rfl, by simp, fun k hk _ => heap_alloc_old W.drew _ hk⟩⟩
        · simp only [Array.size_append, List.size_toArray, size_zeroCells, List.length_map, hxl, hm]
          show n + m + (grownCap W (n + m) cap 5 - (n + m)) * 1 = _
          omega
        · simp only [Array.toList_append, List.append_assoc]
          rw [← List.append_assoc, ← List.map_append, ← hlen]
          exact List.take_left
theorem eqlS_op {a : Act} {o : Oper} {x y : Operand} {p q r : Int} (ho : o.op = .binOp .eql 23 x y 23) (hx : a.eval x = .agg #[.int .i64 p, .int .i64 q, .int .i64 r]) (hy : a.eval y = .agg #[.int .i64 p, .int .i64 q, .int .i64 r]) (w : World) : (execOp a.eval o).run Tryz.prog w = .ok (.value (.bool true)) w := by
  unfold execOp
  simp only [ho, hx, hy]
  go_simp
set_option maxRecDepth 20000 in
set_option maxHeartbeats 64000000 in
theorem whole_any {w : World} {a b c t : Int} {n : Nat} {ao : Option Addr} {len cap : Nat} {X : List Bw} (hl : X.length = len) (h : BwC w ao X) (hnil : ao = none → len = 0 ∧ cap = 0) (hb : len ≤ 5864062014800) (hn : n < 4294967296)
    {sa sb sc : Int} {cut : Int} {bo : Option Addr} {bl bc : Nat} {ys : List Int} (hbl : ys.length = bl) (hat : Oc.At w bo ys) (hB : Oc.Byt ys) (hbn : bo = none → bl = 0 ∧ bc = 0) (hbb : bl ≤ 140737488351232) :
    Calls Tryz.prog 5 #[askV a b c n t ao len cap, .agg #[.int .i64 sa, .int .i64 sb, .int .i64 sc], .int .i64 cut, .slice bo bl bc] w fun e w' => e = .returned (.bool true) ∧ w.grownBy w' none := by
  have HAw : Hid (∀ W, Calls Tryz.prog 8 #[] W fun e w' => e = .returned (.bool true) ∧ W.grownBy w' none) := fun W => awake_any W
  have HMn : Hid (∀ W, w.grownBy W none → ¬ Right a b c n t X → Calls Tryz.prog 7 #[.agg #[.int .i64 a, .int .i64 b, .int .i64 c, .int .u32 (n : Int), .int .i64 t, .slice ao len cap]] W fun e w' => ∃ E, e = .returned (.tuple #[.pointer none, .int .i64 E]) ∧ (E != 0) = true ∧ W.grownBy w' none) := by
    intro W hW hRt
    refine (made_no hl (h.then hW) hnil hb hn hRt).mono ?_
    rintro e w' ⟨rfl, g⟩
    refine ⟨_, rfl, ?_, g⟩
    unfold ofE
    split <;> rfl
  have HMy : Hid (∀ W, w.grownBy W none → Right a b c n t X → Calls Tryz.prog 7 #[.agg #[.int .i64 a, .int .i64 b, .int .i64 c, .int .u32 (n : Int), .int .i64 t, .slice ao len cap]] W fun e w' => ∃ x p, e = .returned (.tuple #[.pointer (some ⟨x, 0, none⟩), .int .i64 0]) ∧ Lk w w' x ⟨a.toNat, b.toNat, c.toNat, n, t, X.map Bw.bg⟩ 4096 p [] ∧ W.grownBy w' none) := by
    intro W hW hRt
    refine (made_yes hl (h.then hW) hnil hb hn hRt).mono ?_
    rintro e w' ⟨x, p, rfl, hk⟩
    exact ⟨x, p, rfl, hk.wide hW, hk.gr⟩
  have HYs := hide (And.intro hbl (And.intro hat (And.intro hbn hn)))
  have HBy := hide hB
  have hx := ask6.new w 27 (.int .i64 a) (.int .i64 b) (.int .i64 c) (.int .u32 (n : Int)) (.int .i64 t) (.slice ao len cap)
  have hx2 := heap_alloc_new (w.alloc (.cells [.int .i64 a, .int .i64 b, .int .i64 c, .int .u32 (n : Int), .int .i64 t, .slice ao len cap].toArray 27)) (.cells [.int .i64 sa, .int .i64 sb, .int .i64 sc].toArray 23)
  rw [Ge.alloc_size] at hx2
  obtain ⟨w0, hw0⟩ : ∃ w0, (w.alloc (.cells [.int .i64 a, .int .i64 b, .int .i64 c, .int .u32 (n : Int), .int .i64 t, .slice ao len cap].toArray 27)).alloc (.cells [.int .i64 sa, .int .i64 sb, .int .i64 sc].toArray 23) = w0 := ⟨_, rfl⟩
  have HG : Hid (w.grownBy w0 none) := by rw [← hw0]; exact gn_alloc (grown_alloc w _) _
  have HX : Hid (ask6 w0 w.heap.size (.int .i64 a) (.int .i64 b) (.int .i64 c) (.int .u32 (n : Int)) (.int .i64 t) (.slice ao len cap)) := by rw [← hw0]; exact hx.then (grown_alloc _ _)
  have HX2 : Hid (w0.heap[w.heap.size + 1]? = some (.cells [.int .i64 sa, .int .i64 sb, .int .i64 sc].toArray 23 (0, 0))) := by rw [← hw0]; exact hx2
  have HW0 := hide hw0
  clear hx hx2 hw0 h hl hnil hb hn hbl hat hB hbn
  unfold askV
  go_enter Tryz.func5, Tryz.ntmps5
  go_wp2_with fail
  rw [show (World.alloc w _).alloc _ = w0 from HW0.out]
  clear HW0
  refine (HAw.out _).mono ?_
  rintro e w1 ⟨rfl, hg1⟩
  have HG1 := hide (grown_trans HG.out hg1)
  have HK1 : Hid (∀ W, w1.grownBy W none → ask6 W w.heap.size (.int .i64 a) (.int .i64 b) (.int .i64 c) (.int .u32 (n : Int)) (.int .i64 t) (.slice ao len cap)) := fun W g => HX.out.then (grown_trans hg1 g)
  have HS1 : Hid (∀ W, w1.grownBy W none → W.cell? ⟨w.heap.size, 0, none⟩ = some (.int .i64 a) ∧ W.cell? ⟨w.heap.size, 1, none⟩ = some (.int .i64 b) ∧ W.cell? ⟨w.heap.size, 2, none⟩ = some (.int .i64 c)) := fun W g => by have := HK1.out W g; exact ⟨this.1, this.2.1, this.2.2.1⟩
  have HS2 : Hid (∀ W, w1.grownBy W none → W.cell? ⟨w.heap.size + 1, 0, none⟩ = some (.int .i64 sa) ∧ W.cell? ⟨w.heap.size + 1, 1, none⟩ = some (.int .i64 sb) ∧ W.cell? ⟨w.heap.size + 1, 2, none⟩ = some (.int .i64 sc)) := fun W g => by
    have := box3 (((grown_trans hg1 g).block _ (row_lt HX2.out) (by simp)).trans HX2.out)
    exact ⟨this.1, this.2.1, this.2.2.1⟩
  obtain ⟨d0, d1, d2, d3, d4, d5⟩ := HK1.out w1 (grown_refl _ _)
  clear hg1 HAw HX HX2 HG
  by_cases hRt : Right a b c n t X
  case neg =>
    have HM := hide (HMn.out _ HG1.out hRt)
    clear hRt HMy HMn
    go_wp2_with fail
    refine HM.out.mono ?_
    rintro e w6 ⟨E, rfl, hE, hg6⟩
    have HG6 := hide (grown_trans HG1.out hg6)
    clear hg6
    go_wp2
    go_ret
    exact ⟨rfl, HG6.out⟩
  have HM := hide (HMy.out _ HG1.out hRt)
  have HSok := hide (hRt.ok HYs.out.2.2.2)
  obtain ⟨en1, en2, en3⟩ := hRt.nat
  have hsh := hRt.1
  have HSh := hide hsh
  have HEn : Hid (((a.toNat : Nat) : Int) = a ∧ ((b.toNat : Nat) : Int) = b) := ⟨en1, en2⟩
  clear HMy HMn hRt en1 en2 en3 hsh
  obtain ⟨SS, hSS⟩ : ∃ SS : Sb, (⟨a.toNat, b.toNat, c.toNat, n, t, X.map Bw.bg⟩ : Sb) = SS := ⟨_, rfl⟩
  have HSa : Hid ((SS.a : Int) = a ∧ (SS.b : Int) = b ∧ SS.c = c.toNat) := by rw [← hSS]; exact ⟨HEn.out.1, HEn.out.2, rfl⟩
  rw [hSS] at HM HSok
  clear hSS HEn
  have HPc : Hid (∀ w0 W x p, Lk w0 W x SS 4096 p [] → Calls Tryz.prog 9 #[.pointer (some ⟨x, 0, none⟩)] W fun e w' => ∃ B, e = .returned (.tuple #[.slice (some ⟨B, 0, none⟩) (img SS).length (img SS).length, .int .i64 0]) ∧ Oc.At w' (some ⟨B, 0, none⟩) (img SS) ∧ W.grownBy w' none) := by
    intro w0 W x p hk
    have := put_any hk.bk HSok.out
    rw [hk.eb] at this
    refine this.mono ?_
    rintro e w' ⟨B, rfl, h1, _, h2⟩
    exact ⟨B, rfl, Oc.at_row h1, h2⟩
  have hil : (img SS).length ≤ 60000 ∧ 20 ≤ (img SS).length := by
    have h1 := HSok.out.few; have h2 := HSok.out.b1
    rw [img_length]
    omega
  have HCp : Hid (∀ W G k cc, k ≤ (img SS).length → Oc.At W (some ⟨G, 0, none⟩) (img SS) → Calls Tryz.prog 15 #[.slice (some ⟨G, 0, none⟩) k cc] W fun e w' => ∃ co c2, e = .returned (.slice co k c2) ∧ w'.ownsRow W.heap.size 5 1 (.slice co k c2) k (((img SS).take k).map (Value.int .u8)) ∧ (Oc.At w' co ((img SS).take k) ∧ (co = none → k = 0 ∧ c2 = 0) ∧ k ≤ c2 ∧ c2 ≤ maxLen) ∧ W.grownBy w' none) := by
    intro W G k cc hk h1
    refine (Oc.copy_any (some ⟨G, 0, none⟩) k cc ((img SS).take k) W (by simp; omega) (h1.take k) (fun e => by cases e) (by omega)).mono ?_
    rintro e w' ⟨v, rfl, h1, h2⟩
    obtain ⟨co, c2, rfl, hl', hnc, hcm, hat', hnil', _⟩ := Oc.own_at h1
    exact ⟨co, c2, rfl, h1, ⟨hat', hnil', hnc, hcm⟩, h2⟩
  have HGt : Hid (∀ W co k cc, k < (img SS).length → Oc.At W co ((img SS).take k) ∧ (co = none → k = 0 ∧ cc = 0) ∧ k ≤ cc ∧ cc ≤ maxLen → Calls Tryz.prog 14 #[.agg #[.int .i64 a, .int .i64 b, .int .i64 c], .slice co k cc] W fun e w' => e = .returned (.tuple #[.pointer none, .int .i64 4]) ∧ W.grownBy w' none) := by
    intro W co k cc hk h
    have hq := take_not HSok.out HSh.out hk
    have := get_no (a := a) (b := b) (c := c) (show ((img SS).take k).length = k by simp; omega) h.1 ((byt_img SS).take k) h.2.1 h.2.2.1 h.2.2.2 hq.1
    rw [hq.2] at this
    exact this
  have HGm : Hid (∀ W co cc, 0 < bl → Oc.At W co (img SS ++ ys) ∧ (co = none → (img SS).length + bl = 0 ∧ cc = 0) ∧ (img SS).length + bl ≤ cc ∧ cc ≤ maxLen → Calls Tryz.prog 14 #[.agg #[.int .i64 a, .int .i64 b, .int .i64 c], .slice co ((img SS).length + bl) cc] W fun e w' => ∃ v, e = .returned (.tuple #[v, .int .i64 5]) ∧ W.grownBy w' none) := by
    intro W co cc hp h
    have hq := more_not HSok.out HSh.out (ys := ys) (by rw [HYs.out.1]; exact hp)
    have := get_no (a := a) (b := b) (c := c) (show (img SS ++ ys).length = (img SS).length + bl by simp [HYs.out.1]) h.1 ((byt_img SS).append HBy.out) h.2.1 h.2.2.1 h.2.2.2 hq.1
    rw [hq.2] at this
    refine this.mono ?_
    rintro e w' ⟨rfl, g⟩
    exact ⟨_, rfl, g⟩
  have HGz : Hid (∀ W co cc, bl = 0 → Oc.At W co (img SS ++ ys) ∧ (co = none → (img SS).length + bl = 0 ∧ cc = 0) ∧ (img SS).length + bl ≤ cc ∧ cc ≤ maxLen → Calls Tryz.prog 14 #[.agg #[.int .i64 a, .int .i64 b, .int .i64 c], .slice co ((img SS).length + bl) cc] W fun e w' => ∃ v, e = .returned (.tuple #[v, .int .i64 0]) ∧ W.grownBy w' none) := by
    intro W co cc hp h
    have hy : ys = [] := List.eq_nil_of_length_eq_zero (by rw [HYs.out.1]; exact hp)
    have hg := get_img HSok.out (a := a) (b := b) (c := c) HSa.out.1 HSa.out.2.1 (by have := HSh.out; unfold Gx.OkS at this; omega)
    subst hp
    rw [hy, List.append_nil] at h
    refine (get_yes (a := a) (b := b) (c := c) (show (img SS).length = (img SS).length + 0 from rfl) h.1 (byt_img SS) h.2.1 h.2.2.1 h.2.2.2 hg.1).mono ?_
    rintro e w' ⟨x, p, rfl, hk⟩
    exact ⟨_, rfl, hk.gr⟩
  have HGs : Hid (∀ W co cc, ¬ ((SS.a : Int) = sa ∧ (SS.b : Int) = sb) → Gx.OkS sa sb sc → Oc.At W co (img SS) ∧ (co = none → (img SS).length = 0 ∧ cc = 0) ∧ (img SS).length ≤ cc ∧ cc ≤ maxLen → Calls Tryz.prog 14 #[.agg #[.int .i64 sa, .int .i64 sb, .int .i64 sc], .slice co (img SS).length cc] W fun e w' => e = .returned (.tuple #[.pointer none, .int .i64 180]) ∧ W.grownBy w' none) := by
    intro W co cc hp hs h
    have hq := other_not HSok.out hs hp
    have := get_no (a := sa) (b := sb) (c := sc) rfl h.1 (byt_img SS) h.2.1 h.2.2.1 h.2.2.2 hq.1
    rw [hq.2] at this
    exact this
  have HGb : Hid (∀ W co cc, ¬ Gx.OkS sa sb sc → Oc.At W co (img SS) ∧ (co = none → (img SS).length = 0 ∧ cc = 0) ∧ (img SS).length ≤ cc ∧ cc ≤ maxLen → Calls Tryz.prog 14 #[.agg #[.int .i64 sa, .int .i64 sb, .int .i64 sc], .slice co (img SS).length cc] W fun e w' => e = .returned (.tuple #[.pointer none, .int .i64 90]) ∧ W.grownBy w' none) := by
    intro W co cc hs h
    have hq := bad_not hs (img SS)
    have := get_no (a := sa) (b := sb) (c := sc) rfl h.1 (byt_img SS) h.2.1 h.2.2.1 h.2.2.2 hq.1
    rw [hq.2] at this
    exact this
  have HGy : Hid (∀ W co cc, ((SS.a : Int) = sa ∧ (SS.b : Int) = sb) → Gx.OkS sa sb sc → Oc.At W co (img SS) ∧ (co = none → (img SS).length = 0 ∧ cc = 0) ∧ (img SS).length ≤ cc ∧ cc ≤ maxLen → Calls Tryz.prog 14 #[.agg #[.int .i64 sa, .int .i64 sb, .int .i64 sc], .slice co (img SS).length cc] W fun e w' => ∃ y q, e = .returned (.tuple #[.pointer (some ⟨y, 0, none⟩), .int .i64 0]) ∧ Lk W w' y { SS with c := sc.toNat } 4096 q []) := by
    intro W co cc hp hs h
    have hg := get_img HSok.out (a := sa) (b := sb) (c := sc) hp.1 hp.2 (by unfold Gx.OkS at hs; omega)
    have := get_yes (a := sa) (b := sb) (c := sc) rfl h.1 (byt_img SS) h.2.1 h.2.2.1 h.2.2.2 hg.1
    rw [hg.2] at this
    exact this
  have HAp : Hid (∀ W base v, w.grownBy W none → base ≤ W.heap.size → W.ownsRow base 5 1 v (img SS).length ((img SS).map (Value.int .u8)) → ∃ v' w', (∀ ty, (Builtin.append_ #[36, 36] ty #[v, .slice bo bl bc]).run Tryz.prog W = .ok v' w') ∧ (∃ co cc, v' = .slice co ((img SS).length + bl) cc ∧ Oc.At w' co (img SS ++ ys) ∧ (co = none → (img SS).length + bl = 0 ∧ cc = 0) ∧ (img SS).length + bl ≤ cc ∧ cc ≤ maxLen) ∧ ∀ z : World, z.heap.size ≤ base → z.grownBy W none → z.grownBy w' none) := by
    intro W base v hW hbs hown
    obtain ⟨v', w', e1, e2, e3⟩ := app_bytes hown bo bl bc ys HYs.out.1 (HYs.out.2.1.kept hW (by simp)) HYs.out.2.2.1 (by omega) (by omega) (by omega) hbs
    obtain ⟨co, cc, rfl, hl', hnc, hcm, hat', hnil', _⟩ := Oc.own_at e2
    refine ⟨_, w', e1, ⟨co, cc, rfl, hat', hnil', hnc, hcm⟩, fun z hz hg => grown_then hg e3 (fun j e => .inl ?_)⟩
    have := (Ix.own_block hown e).1
    omega
  have hilI : (1 : Int) ≤ ((img SS).length : Int) := by omega
  have HPk : Hid (∀ W, Calls Tryz.prog 16 #[.int .i64 cut, .int .i64 ((img SS).length : Int)] W fun e w' => ∃ k : Nat, e = .returned (.int .i64 (k : Int)) ∧ k < (img SS).length ∧ w' = W) := fun W => pick_any cut _ W (by omega) (by omega)
  have HIt : Hid ((img SS).take (img SS).length = img SS) := List.take_length
  generalize hIL : (img SS).length = IL at *
  generalize img SS = im at *
  clear hIL
  go_wp2_with fail
  refine HM.out.mono ?_
  rintro e w6 ⟨x, p, rfl, hk6, hg6⟩
  have HK6 := hide hk6
  have HG6 := hide hg6
  clear hk6 hg6 HM d0 d1 d2 d3 d4 d5
  go_wp2_with fail
  refine (HPc.out _ _ _ _ HK6.out).mono ?_
  rintro e w7 ⟨G, rfl, ha7, hg7⟩
  have HA7 := hide ha7
  have HK7 := hide (HK6.out.then hg7)
  have HG7 := hide (grown_trans HG6.out hg7)
  have hK7 := HS1.out w7.drew (gn_drew HG7.out)
  clear ha7 hg7 HPc HK6
  have hst : ∀ (k : Nat) W, k < IL → (Instr.slice 36 (.slice (some ⟨G, 0, none⟩) IL IL) none (some (.int .i64 (k : Int))) none).run Tryz.prog W = .ok (.slice (some ⟨G, 0, none⟩) k IL) W := fun k W hk => Oc.slice_to (some ⟨G, 0, none⟩) IL IL k (by omega) W
  have HSt := hide hst
  clear hst
  go_wp2
  refine wp_region_held_drew (S := (fun W => W.cell? ⟨w.heap.size, 0, none⟩ = some (.int .i64 a) ∧ W.cell? ⟨w.heap.size, 1, none⟩ = some (.int .i64 b) ∧ W.cell? ⟨w.heap.size, 2, none⟩ = some (.int .i64 c))) (by kernel_rfl) ?_ (fun hHeld => ?_)
  · (exact hK7)
  refine wpAnyH_take (i := 0) (oi := { dst := some 35, op := Go.Op.fieldAddr 27 (Go.Operand.tmp 4) 0, type := 0, pos := "outright.go:54", after := #[], guard := none }) (v := ?_) rfl (by kernel_rfl) (by kernel_rfl) (by kernel_rfl) (fun _ _ _ h => h) (Or.inl ⟨by rfl, ?_⟩) (by assumption) ?_
  rotate_left
  · (intro w hSw; (try dsimp only at hSw); (go_simp <;> with_reducible rfl))
  try simp only [Act.put, List.setIfInBounds_toArray, List.set_cons_zero, List.set_cons_succ]
  refine wpAnyH_take (i := 1) (oi := { dst := some 36, op := Go.Op.load 23 (Go.Operand.tmp 35), type := 23, pos := "outright.go:54", after := #[{ on := 0, ground := Go.Ground.data }], guard := none }) (v := ?_) rfl (by kernel_rfl) (by kernel_rfl) (by kernel_rfl) (fun _ _ _ h => h) (Or.inl ⟨by rfl, ?_⟩) (by assumption) ?_
  rotate_left
  · (intro w hSw; (try dsimp only at hSw); (go_simp <;> with_reducible rfl))
  try simp only [Act.put, List.setIfInBounds_toArray, List.set_cons_zero, List.set_cons_succ]
  refine wpAnyH_take (i := 2) (oi := { dst := some 37, op := Go.Op.move (Go.Operand.tmp 11), type := 36, pos := "outright.go:54", after := #[], guard := none }) (v := ?_) rfl (by kernel_rfl) (by kernel_rfl) (by kernel_rfl) (fun _ _ _ h => h) (Or.inl ⟨by rfl, ?_⟩) (by assumption) ?_
  rotate_left
  · (intro w hSw; (try dsimp only at hSw); (go_simp <;> with_reducible rfl))
  try simp only [Act.put, List.setIfInBounds_toArray, List.set_cons_zero, List.set_cons_succ]
  refine wpAnyH_take (i := 3) (oi := { dst := some 38, op := Go.Op.move (Go.Operand.tmp 2), type := 3, pos := "outright.go:54", after := #[], guard := none }) (v := ?_) rfl (by kernel_rfl) (by kernel_rfl) (by kernel_rfl) (fun _ _ _ h => h) (Or.inl ⟨by rfl, ?_⟩) (by assumption) ?_
  rotate_left
  · (intro w hSw; (try dsimp only at hSw); (go_simp <;> with_reducible rfl))
  try simp only [Act.put, List.setIfInBounds_toArray, List.set_cons_zero, List.set_cons_succ]
  refine wpAnyH_take (i := 4) (oi := { dst := some 39, op := Go.Op.move (Go.Operand.tmp 11), type := 36, pos := "outright.go:54", after := #[], guard := none }) (v := ?_) rfl (by kernel_rfl) (by kernel_rfl) (by kernel_rfl) (fun _ _ _ h => h) (Or.inl ⟨by rfl, ?_⟩) (by assumption) ?_
  rotate_left
  · (intro w hSw; (try dsimp only at hSw); (go_simp <;> with_reducible rfl))
  try simp only [Act.put, List.setIfInBounds_toArray, List.set_cons_zero, List.set_cons_succ]
  refine wpAnyH_take (i := 5) (oi := { dst := some 40, op := Go.Op.call { callee := Go.Callee.builtin Go.Builtin.len, args := #[Go.Operand.tmp 39], argTypes := #[36] }, type := 3, pos := "outright.go:54", after := #[{ on := 4, ground := Go.Ground.data }], guard := none }) (v := ?_) rfl (by kernel_rfl) (by kernel_rfl) (by kernel_rfl) (fun _ _ _ h => h) (Or.inl ⟨by rfl, ?_⟩) (by assumption) ?_
  rotate_left
  · (intro w hSw; (try dsimp only at hSw); (go_simp <;> with_reducible rfl))
  try simp only [Act.put, List.setIfInBounds_toArray, List.set_cons_zero, List.set_cons_succ]
  refine wpAnyH_ready (rs := [6]) (by kernel_rfl) (by simp) ?_
  refine AllReadyH.cons (o := { dst := some 41, op := Go.Op.call { callee := Go.Callee.value (Go.Operand.func 16), args := #[Go.Operand.tmp 38, Go.Operand.tmp 40], argTypes := #[3, 3] }, type := 3, pos := "outright.go:54", after := #[{ on := 3, ground := Go.Ground.data }, { on := 5, ground := Go.Ground.data }], guard := none }) rfl (fun K hK => ?_) ?_
  rotate_left
  · exact AllReadyH.nil
  go_simp
  refine (HPk.out _).mono ?_
  rintro e wp ⟨k, rfl, hkl, rfl⟩
  have hsk := fun W => HSt.out k W hkl
  go_wp2_with fail
  refine hK.out _ _ ?_ (fun hHeld => ?_)
  · ((try dsimp only); first | with_reducible assumption | exact hK7)
  clear hK K
  try simp only [Act.put, List.setIfInBounds_toArray, List.set_cons_zero, List.set_cons_succ]
  refine wpAnyH_take (i := 7) (oi := { dst := some 42, op := Go.Op.slice 36 (Go.Operand.tmp 37) none (some (Go.Operand.tmp 41)) none, type := 36, pos := "outright.go:54", after := #[{ on := 2, ground := Go.Ground.data }, { on := 6, ground := Go.Ground.data }], guard := none }) (v := ?_) rfl (by kernel_rfl) (by kernel_rfl) (by kernel_rfl) (fun _ _ _ h => h) (Or.inl ⟨by rfl, ?_⟩) (by assumption) ?_
  rotate_left
  · (intro w hSw; (try dsimp only at hSw); (go_simp <;> with_reducible rfl))
  try simp only [Act.put, List.setIfInBounds_toArray, List.set_cons_zero, List.set_cons_succ]
  refine wpAnyH_ready (rs := [8]) (by kernel_rfl) (by simp) ?_
  refine AllReadyH.cons (o := { dst := some 43, op := Go.Op.call { callee := Go.Callee.value (Go.Operand.func 15), args := #[Go.Operand.tmp 42], argTypes := #[36] }, type := 36, pos := "outright.go:54", after := #[{ on := 7, ground := Go.Ground.data }, { on := 6, ground := Go.Ground.chain }], guard := none }) rfl (fun K hK => ?_) ?_
  rotate_left
  · exact AllReadyH.nil
  go_simp
  refine (HCp.out _ _ k IL (by omega) (HA7.out.kept (grown_drew w7 none) (by simp))).mono ?_
  rintro e w8 ⟨co, cc, rfl, -, h1, hg8⟩
  have HA8 := hide h1
  have HGb8 := hide (grown_trans (grown_drew w7 none) hg8)
  have HG8 := hide (grown_trans HG7.out HGb8.out)
  have hK8 := HS1.out w8 HG8.out
  clear h1 hg8
  go_wp2_with fail
  refine hK.out _ _ ?_ (fun hHeld => ?_)
  · ((try dsimp only); first | with_reducible assumption | exact hK7)
  clear hK K
  try simp only [Act.put, List.setIfInBounds_toArray, List.set_cons_zero, List.set_cons_succ]
  refine wpAnyH_ready (rs := [9]) (by kernel_rfl) (by simp) ?_
  refine AllReadyH.cons (o := { dst := some 44, op := Go.Op.call { callee := Go.Callee.value (Go.Operand.func 14), args := #[Go.Operand.tmp 36, Go.Operand.tmp 43], argTypes := #[23, 36] }, type := 33, pos := "outright.go:54", after := #[{ on := 1, ground := Go.Ground.data }, { on := 8, ground := Go.Ground.data }, { on := 8, ground := Go.Ground.chain }], guard := none }) rfl (fun K hK => ?_) ?_
  rotate_left
  · exact AllReadyH.nil
  go_simp
  refine (HGt.out _ _ _ _ hkl HA8.out).mono ?_
  rintro e w9 ⟨rfl, hg9⟩
  have HGb9 := hide (grown_trans HGb8.out hg9)
  have HG9 := hide (grown_trans HG7.out HGb9.out)
  have hK9 := HS1.out w9 HG9.out
  clear hg9
  go_wp2_with fail
  refine hK.out _ _ ?_ (fun hHeld => ?_)
  · ((try dsimp only); first | with_reducible assumption | exact hK7)
  clear hK K
  try simp only [Act.put, List.setIfInBounds_toArray, List.set_cons_zero, List.set_cons_succ]
  refine wpAnyH_take (i := 10) (oi := { dst := some 34, op := Go.Op.move (Go.Operand.tmp 44), type := 33, pos := "outright.go:54", after := #[{ on := 9, ground := Go.Ground.data }], guard := none }) (v := ?_) rfl (by kernel_rfl) (by kernel_rfl) (by kernel_rfl) (fun _ _ _ h => h) (Or.inl ⟨by rfl, ?_⟩) (by assumption) ?_
  rotate_left
  · (intro w hSw; (try dsimp only at hSw); (go_simp <;> with_reducible rfl))
  try simp only [Act.put, List.setIfInBounds_toArray, List.set_cons_zero, List.set_cons_succ]
  refine wpAnyH_take (i := 11) (oi := { dst := some 45, op := Go.Op.extract (Go.Operand.tmp 34) 0, type := 31, pos := "outright.go:54", after := #[{ on := 10, ground := Go.Ground.data }], guard := none }) (v := ?_) rfl (by kernel_rfl) (by kernel_rfl) (by kernel_rfl) (fun _ _ _ h => h) (Or.inl ⟨by rfl, ?_⟩) (by assumption) ?_
  rotate_left
  · (intro w hSw; (try dsimp only at hSw); (go_simp <;> with_reducible rfl))
  try simp only [Act.put, List.setIfInBounds_toArray, List.set_cons_zero, List.set_cons_succ]
  refine wpAnyH_take (i := 12) (oi := { dst := some 46, op := Go.Op.extract (Go.Operand.tmp 34) 1, type := 32, pos := "outright.go:54", after := #[{ on := 10, ground := Go.Ground.data }, { on := 13, ground := Go.Ground.gcOnly Go.Departure.lateStores }], guard := none }) (v := ?_) rfl (by kernel_rfl) (by kernel_rfl) (by kernel_rfl) (fun _ _ _ h => h) (Or.inl ⟨by rfl, ?_⟩) (by assumption) ?_
  rotate_left
  · (intro w hSw; (try dsimp only at hSw); (go_simp <;> with_reducible rfl))
  try simp only [Act.put, List.setIfInBounds_toArray, List.set_cons_zero, List.set_cons_succ]
  refine wpAnyH_take (i := 13) (oi := { dst := some 13, op := Go.Op.assign (Go.Operand.tmp 45), type := 31, pos := "outright.go:54", after := #[{ on := 11, ground := Go.Ground.data }, { on := 9, ground := Go.Ground.chain }, { on := 0, ground := Go.Ground.phase }, { on := 1, ground := Go.Ground.phase }, { on := 2, ground := Go.Ground.phase }, { on := 3, ground := Go.Ground.phase }, { on := 4, ground := Go.Ground.phase }, { on := 5, ground := Go.Ground.phase }, { on := 6, ground := Go.Ground.phase }, { on := 7, ground := Go.Ground.phase }, { on := 8, ground := Go.Ground.phase }, { on := 9, ground := Go.Ground.phase }, { on := 10, ground := Go.Ground.phase }, { on := 11, ground := Go.Ground.phase }, { on := 12, ground := Go.Ground.textOnly Go.Departure.lateStores }], guard := none }) (v := ?_) rfl (by kernel_rfl) (by kernel_rfl) (by kernel_rfl) (fun _ _ _ h => h) (Or.inl ⟨by rfl, ?_⟩) (by assumption) ?_
  rotate_left
  · (intro w hSw; (try dsimp only at hSw); (go_simp <;> with_reducible rfl))
  try simp only [Act.put, List.setIfInBounds_toArray, List.set_cons_zero, List.set_cons_succ]
  refine wpAnyH_take (i := 14) (oi := { dst := some 14, op := Go.Op.assign (Go.Operand.tmp 46), type := 32, pos := "outright.go:54", after := #[{ on := 12, ground := Go.Ground.data }, { on := 13, ground := Go.Ground.chain }, { on := 0, ground := Go.Ground.phase }, { on := 1, ground := Go.Ground.phase }, { on := 2, ground := Go.Ground.phase }, { on := 3, ground := Go.Ground.phase }, { on := 4, ground := Go.Ground.phase }, { on := 5, ground := Go.Ground.phase }, { on := 6, ground := Go.Ground.phase }, { on := 7, ground := Go.Ground.phase }, { on := 8, ground := Go.Ground.phase }, { on := 9, ground := Go.Ground.phase }, { on := 10, ground := Go.Ground.phase }, { on := 11, ground := Go.Ground.phase }, { on := 12, ground := Go.Ground.phase }, { on := 13, ground := Go.Ground.phase }], guard := none }) (v := ?_) rfl (by kernel_rfl) (by kernel_rfl) (by kernel_rfl) (fun _ _ _ h => h) (Or.inl ⟨by rfl, ?_⟩) (by assumption) ?_
  rotate_left
  · (intro w hSw; (try dsimp only at hSw); (go_simp <;> with_reducible rfl))
  try simp only [Act.put, List.setIfInBounds_toArray, List.set_cons_zero, List.set_cons_succ]
  refine wpAnyH_done (by kernel_rfl) ?_ _
  go_wp2
  have HA9 := hide (HA7.out.kept HGb9.out (by simp))
  have HK9 := hide (HK7.out.then HGb9.out)
  have hK9' := HS1.out w9.drew (gn_drew HG9.out)
  clear hK7 hK8 hK9 HA8 HGt HPk hsk
  by_cases hbl : bl = 0
  · have hl1 : ((bl : Int) == 0) = true := by simp; omega
    have hl2 : decide ((bl : Int) = 0) = true := by simp; omega
    have hl3 : ¬ (0 : Int) < (bl : Int) := by omega
    have HBL := hide hbl
    clear hbl
    refine wp_region_held_drew (S := (fun W => W.cell? ⟨w.heap.size, 0, none⟩ = some (.int .i64 a) ∧ W.cell? ⟨w.heap.size, 1, none⟩ = some (.int .i64 b) ∧ W.cell? ⟨w.heap.size, 2, none⟩ = some (.int .i64 c))) (by kernel_rfl) ?_ (fun hHeld => ?_)
    · (exact hK9')
    refine wpAnyH_take (i := 0) (oi := { dst := some 48, op := Go.Op.fieldAddr 27 (Go.Operand.tmp 4) 0, type := 0, pos := "outright.go:55", after := #[], guard := none }) (v := ?_) rfl (by kernel_rfl) (by kernel_rfl) (by kernel_rfl) (fun _ _ _ h => h) (Or.inl ⟨by rfl, ?_⟩) (by assumption) ?_
    rotate_left
    · (intro w hSw; (try dsimp only at hSw); (go_simp <;> with_reducible rfl))
    try simp only [Act.put, List.setIfInBounds_toArray, List.set_cons_zero, List.set_cons_succ]
    refine wpAnyH_take (i := 1) (oi := { dst := some 49, op := Go.Op.load 23 (Go.Operand.tmp 48), type := 23, pos := "outright.go:55", after := #[{ on := 0, ground := Go.Ground.data }], guard := none }) (v := ?_) rfl (by kernel_rfl) (by kernel_rfl) (by kernel_rfl) (fun _ _ _ h => h) (Or.inl ⟨by rfl, ?_⟩) (by assumption) ?_
    rotate_left
    · (intro w hSw; (try dsimp only at hSw); (go_simp <;> with_reducible rfl))
    try simp only [Act.put, List.setIfInBounds_toArray, List.set_cons_zero, List.set_cons_succ]
    refine wpAnyH_take (i := 2) (oi := { dst := some 50, op := Go.Op.move (Go.Operand.tmp 11), type := 36, pos := "outright.go:55", after := #[], guard := none }) (v := ?_) rfl (by kernel_rfl) (by kernel_rfl) (by kernel_rfl) (fun _ _ _ h => h) (Or.inl ⟨by rfl, ?_⟩) (by assumption) ?_
    rotate_left
    · (intro w hSw; (try dsimp only at hSw); (go_simp <;> with_reducible rfl))
    try simp only [Act.put, List.setIfInBounds_toArray, List.set_cons_zero, List.set_cons_succ]
    refine wpAnyH_take (i := 4) (oi := { dst := some 52, op := Go.Op.move (Go.Operand.tmp 3), type := 36, pos := "outright.go:55", after := #[], guard := none }) (v := ?_) rfl (by kernel_rfl) (by kernel_rfl) (by kernel_rfl) (fun _ _ _ h => h) (Or.inl ⟨by rfl, ?_⟩) (by assumption) ?_
    rotate_left
    · (intro w hSw; (try dsimp only at hSw); (go_simp <;> with_reducible rfl))
    try simp only [Act.put, List.setIfInBounds_toArray, List.set_cons_zero, List.set_cons_succ]
    refine wpAnyH_ready (rs := [3]) (by kernel_rfl) (by simp) ?_
    refine AllReadyH.cons (o := { dst := some 51, op := Go.Op.call { callee := Go.Callee.value (Go.Operand.func 15), args := #[Go.Operand.tmp 50], argTypes := #[36] }, type := 36, pos := "outright.go:55", after := #[{ on := 2, ground := Go.Ground.data }], guard := none }) rfl (fun K hK => ?_) ?_
    rotate_left
    · exact AllReadyH.nil
    go_simp
    refine (HCp.out _ _ IL IL (Nat.le_refl _) (HA9.out.kept (grown_drew w9 none) (by simp))).mono ?_
    rintro e w10 ⟨co, cc, rfl, hown, h1, hg10⟩
    rw [HIt.out] at hown
    have HGb10 := hide (grown_trans (grown_drew w9 none) hg10)
    have HG10 := hide (grown_trans HG9.out HGb10.out)
    obtain ⟨v11, w11, hrun, ⟨co2, cc2, rfl, hA11⟩, hgz⟩ := HAp.out w10 w9.drew.heap.size _ (grown_trans HG1.out HG10.out) hg10.size hown
    have HRun := hide hrun
    have HA11 := hide hA11
    have HGb11 := hide (hgz w9 (Nat.le_refl _) HGb10.out)
    have HG11 := hide (grown_trans HG9.out HGb11.out)
    have hK10 := HS1.out w10 HG10.out
    have hK11 := HS1.out w11 HG11.out
    clear h1 hg10 hown hrun hA11 hgz
    go_wp2_with fail
    refine hK.out _ _ ?_ (fun hHeld => ?_)
    · ((try dsimp only); first | with_reducible assumption | exact hK9')
    clear hK K
    try simp only [Act.put, List.setIfInBounds_toArray, List.set_cons_zero, List.set_cons_succ]
    refine wpAnyH_ready (rs := [5]) (by kernel_rfl) (by simp) ?_
    refine AllReadyH.cons (o := { dst := some 53, op := Go.Op.call { callee := Go.Callee.builtin Go.Builtin.append, args := #[Go.Operand.tmp 51, Go.Operand.tmp 52], argTypes := #[36, 36] }, type := 36, pos := "outright.go:55", after := #[{ on := 3, ground := Go.Ground.data }, { on := 4, ground := Go.Ground.data }, { on := 3, ground := Go.Ground.chain }], guard := none }) rfl (fun K hK => ?_) ?_
    rotate_left
    · exact AllReadyH.nil
    refine step_append_run (by rfl) _ _ _ (by rfl) _ _ (by rfl) (by rfl) HRun.out ?_
    refine hK.out _ _ ?_ (fun hHeld => ?_)
    · ((try dsimp only); first | with_reducible assumption | exact hK9')
    clear hK K
    try simp only [Act.put, List.setIfInBounds_toArray, List.set_cons_zero, List.set_cons_succ]
    refine wpAnyH_ready (rs := [6]) (by kernel_rfl) (by simp) ?_
    refine AllReadyH.cons (o := { dst := some 54, op := Go.Op.call { callee := Go.Callee.value (Go.Operand.func 14), args := #[Go.Operand.tmp 49, Go.Operand.tmp 53], argTypes := #[23, 36] }, type := 33, pos := "outright.go:55", after := #[{ on := 1, ground := Go.Ground.data }, { on := 5, ground := Go.Ground.data }, { on := 5, ground := Go.Ground.chain }], guard := none }) rfl (fun K hK => ?_) ?_
    rotate_left
    · exact AllReadyH.nil
    go_simp
    refine (HGz.out _ _ _ HBL.out HA11.out).mono ?_
    rintro e w12 ⟨v12, rfl, hg12⟩
    have HGb12 := hide (grown_trans HGb11.out hg12)
    have HG12 := hide (grown_trans HG9.out HGb12.out)
    have hK12 := HS1.out w12 HG12.out
    clear hg12
    go_wp2_with fail
    refine hK.out _ _ ?_ (fun hHeld => ?_)
    · ((try dsimp only); first | with_reducible assumption | exact hK9')
    clear hK K
    try simp only [Act.put, List.setIfInBounds_toArray, List.set_cons_zero, List.set_cons_succ]
    refine wpAnyH_take (i := 7) (oi := { dst := some 47, op := Go.Op.move (Go.Operand.tmp 54), type := 33, pos := "outright.go:55", after := #[{ on := 6, ground := Go.Ground.data }], guard := none }) (v := ?_) rfl (by kernel_rfl) (by kernel_rfl) (by kernel_rfl) (fun _ _ _ h => h) (Or.inl ⟨by rfl, ?_⟩) (by assumption) ?_
    rotate_left
    · (intro w hSw; (try dsimp only at hSw); (go_simp <;> with_reducible rfl))
    try simp only [Act.put, List.setIfInBounds_toArray, List.set_cons_zero, List.set_cons_succ]
    refine wpAnyH_take (i := 8) (oi := { dst := some 55, op := Go.Op.extract (Go.Operand.tmp 47) 0, type := 31, pos := "outright.go:55", after := #[{ on := 7, ground := Go.Ground.data }], guard := none }) (v := ?_) rfl (by kernel_rfl) (by kernel_rfl) (by kernel_rfl) (fun _ _ _ h => h) (Or.inl ⟨by rfl, ?_⟩) (by assumption) ?_
    rotate_left
    · (intro w hSw; (try dsimp only at hSw); (go_simp <;> with_reducible rfl))
    try simp only [Act.put, List.setIfInBounds_toArray, List.set_cons_zero, List.set_cons_succ]
    refine wpAnyH_take (i := 9) (oi := { dst := some 56, op := Go.Op.extract (Go.Operand.tmp 47) 1, type := 32, pos := "outright.go:55", after := #[{ on := 7, ground := Go.Ground.data }, { on := 10, ground := Go.Ground.gcOnly Go.Departure.lateStores }], guard := none }) (v := ?_) rfl (by kernel_rfl) (by kernel_rfl) (by kernel_rfl) (fun _ _ _ h => h) (Or.inl ⟨by rfl, ?_⟩) (by assumption) ?_
    rotate_left
    · (intro w hSw; (try dsimp only at hSw); (go_simp <;> with_reducible rfl))
    try simp only [Act.put, List.setIfInBounds_toArray, List.set_cons_zero, List.set_cons_succ]
    refine wpAnyH_take (i := 10) (oi := { dst := some 15, op := Go.Op.assign (Go.Operand.tmp 55), type := 31, pos := "outright.go:55", after := #[{ on := 8, ground := Go.Ground.data }, { on := 6, ground := Go.Ground.chain }, { on := 0, ground := Go.Ground.phase }, { on := 1, ground := Go.Ground.phase }, { on := 2, ground := Go.Ground.phase }, { on := 3, ground := Go.Ground.phase }, { on := 4, ground := Go.Ground.phase }, { on := 5, ground := Go.Ground.phase }, { on := 6, ground := Go.Ground.phase }, { on := 7, ground := Go.Ground.phase }, { on := 8, ground := Go.Ground.phase }, { on := 9, ground := Go.Ground.textOnly Go.Departure.lateStores }], guard := none }) (v := ?_) rfl (by kernel_rfl) (by kernel_rfl) (by kernel_rfl) (fun _ _ _ h => h) (Or.inl ⟨by rfl, ?_⟩) (by assumption) ?_
    rotate_left
    · (intro w hSw; (try dsimp only at hSw); (go_simp <;> with_reducible rfl))
    try simp only [Act.put, List.setIfInBounds_toArray, List.set_cons_zero, List.set_cons_succ]
    refine wpAnyH_take (i := 11) (oi := { dst := some 16, op := Go.Op.assign (Go.Operand.tmp 56), type := 32, pos := "outright.go:55", after := #[{ on := 9, ground := Go.Ground.data }, { on := 10, ground := Go.Ground.chain }, { on := 0, ground := Go.Ground.phase }, { on := 1, ground := Go.Ground.phase }, { on := 2, ground := Go.Ground.phase }, { on := 3, ground := Go.Ground.phase }, { on := 4, ground := Go.Ground.phase }, { on := 5, ground := Go.Ground.phase }, { on := 6, ground := Go.Ground.phase }, { on := 7, ground := Go.Ground.phase }, { on := 8, ground := Go.Ground.phase }, { on := 9, ground := Go.Ground.phase }, { on := 10, ground := Go.Ground.phase }], guard := none }) (v := ?_) rfl (by kernel_rfl) (by kernel_rfl) (by kernel_rfl) (fun _ _ _ h => h) (Or.inl ⟨by rfl, ?_⟩) (by assumption) ?_
    rotate_left
    · (intro w hSw; (try dsimp only at hSw); (go_simp <;> with_reducible rfl))
    try simp only [Act.put, List.setIfInBounds_toArray, List.set_cons_zero, List.set_cons_succ]
    refine wpAnyH_done (by kernel_rfl) ?_ _
    go_wp2
    have HA12 := hide (HA9.out.kept HGb12.out (by simp))
    have HK12 := hide (HK9.out.then HGb12.out)
    have hK12' := HS2.out w12.drew (gn_drew HG12.out)
    clear hK9' hK10 hK11 hK12 HA11 HRun HAp HGm HGz
    by_cases hOs : Gx.OkS sa sb sc
    · by_cases h5 : sa = a
      · by_cases h6 : sb = b
        · have hne : (SS.a : Int) = sa ∧ (SS.b : Int) = sb := ⟨HSa.out.1.trans h5.symm, HSa.out.2.1.trans h6.symm⟩
          have HCk : Hid (∀ W, Calls Tryz.prog 17 #[.agg #[.int .i64 sa, .int .i64 sb, .int .i64 sc]] W fun e w' => e = .returned (.int .i64 0) ∧ W.grownBy w' none) := fun W => Ge.check_ok _ _ _ hOs W
          have HGq := hide (fun W co cc h => HGy.out W co cc hne hOs h)
          have v1 : (sa != a) = false := by simpa using h5
          have v2 : decide (sa = a) = true := by simpa using h5
          have v3 : (sb != b) = false := by simpa using h6
          have v4 : decide (sb = b) = true := by simpa using h6
          have HNe := hide hne
          have HOs := hide hOs
          clear hne hOs h5 h6
          go_region_held3 (fun W => W.cell? ⟨w.heap.size + 1, 0, none⟩ = some (.int .i64 sa) ∧ W.cell? ⟨w.heap.size + 1, 1, none⟩ = some (.int .i64 sb) ∧ W.cell? ⟨w.heap.size + 1, 2, none⟩ = some (.int .i64 sc)) (first | with_reducible assumption | exact hK12')
            ((first
              | (go_at_call 15; refine (HCp.out _ _ IL IL (Nat.le_refl _) (HA12.out.kept (grown_drew w12 none) (by simp))).mono ?_; rintro e w13 ⟨co3, cc3, rfl, -, h1, hg13⟩; rw [HIt.out] at h1; have HA13 := hide h1; have HGb13 := hide (grown_trans (grown_drew w12 none) hg13); have HG13 := hide (grown_trans HG12.out HGb13.out); have hK13 := HS2.out w13 HG13.out; clear h1 hg13)
              | (go_at_call 14; refine (HGq.out _ _ _ HA13.out).mono ?_; rintro e w14 ⟨y, q, rfl, hk14⟩; have HK14 := hide hk14; have hg14 := hk14.gr; have HG14 := hide (grown_trans HG13.out hg14); have hK14 := HS2.out w14 HG14.out)))
          have HG14' := hide (grown_trans HG1.out HG14.out)
          obtain ⟨s0, s1, s2⟩ := hK14
          go_wp2_with fail
          refine (HCk.out _).mono ?_
          rintro e w15 ⟨rfl, hg15⟩
          have HG15 := hide (grown_trans HG14'.out hg15)
          obtain ⟨s0, s1, s2⟩ := HS2.out w15 (grown_trans HG14.out hg15)
          obtain ⟨t0, t1, t2⟩ := HS1.out w15 (grown_trans HG14.out hg15)
          have HYd := hide (HK14.out.then (gn_drew hg15))
          have HXd := hide (((HK12.out.then HGb13.out).then hg14).then (gn_drew hg15))
          have HSp : Hid (Calls Tryz.prog 18 #[.pointer (some ⟨y, 0, none⟩)] w15.drew fun e w' => e = .returned (.agg #[.int .i64 sa, .int .i64 sb, .int .i64 sc]) ∧ w15.drew.grownBy w' none) := by
            have := shape_any HYd.out.bk
            rw [HYd.out.eb] at this
            unfold limV at this
            simp only at this
            rw [HNe.out.1, HNe.out.2, Int.toNat_of_nonneg (by have hOs := HOs.out; unfold Gx.OkS at hOs; omega)] at this
            exact this
          have HL1 : Hid (∀ W, w15.drew.grownBy W none → Calls Tryz.prog 19 #[.pointer (some ⟨y, 0, none⟩)] W fun e w' => e = .returned (.int .i64 (SS.L.length : Int)) ∧ w' = W) := fun W g => (HYd.out.then g).len
          have HL2 : Hid (∀ W, w15.drew.grownBy W none → Calls Tryz.prog 19 #[.pointer (some ⟨x, 0, none⟩)] W fun e w' => e = .returned (.int .i64 (SS.L.length : Int)) ∧ w' = W) := fun W g => (HXd.out.then g).len
          generalize (SS.L.length : Int) = LL at *
          have HK15 : Hid (∀ W, w15.grownBy W none → W.cell? ⟨w.heap.size + 1, 0, none⟩ = some (.int .i64 sa) ∧ W.cell? ⟨w.heap.size + 1, 1, none⟩ = some (.int .i64 sb) ∧ W.cell? ⟨w.heap.size + 1, 2, none⟩ = some (.int .i64 sc)) := fun W g => HS2.out W (grown_trans (grown_trans HG14.out hg15) g)
          have hK15 := HK15.out w15.drew (grown_drew w15 none)
          clear hK12' hK13 hg15 hg14 hk14
          go_wp2
          refine wp_region_held_drew (S := (fun W => W.cell? ⟨w.heap.size + 1, 0, none⟩ = some (.int .i64 sa) ∧ W.cell? ⟨w.heap.size + 1, 1, none⟩ = some (.int .i64 sb) ∧ W.cell? ⟨w.heap.size + 1, 2, none⟩ = some (.int .i64 sc))) (by kernel_rfl) ?_ (fun hHeld => ?_)
          · (exact hK15)
          refine wpAnyH_take (i := 0) (oi := { dst := some 117, op := Go.Op.move (Go.Operand.tmp 16), type := 32, pos := "outright.go:66", after := #[], guard := none }) (v := ?_) rfl (by kernel_rfl) (by kernel_rfl) (by kernel_rfl) (fun _ _ _ h => h) (Or.inl ⟨by rfl, ?_⟩) (by assumption) ?_
          rotate_left
          · (intro w hSw; (try dsimp only at hSw); (go_simp <;> with_reducible rfl))
          try simp only [Act.put, List.setIfInBounds_toArray, List.set_cons_zero, List.set_cons_succ]
          refine wpAnyH_take (i := 1) (oi := { dst := some 118, op := Go.Op.binOp Go.BinOp.eql 32 (Go.Operand.tmp 117) (Go.Operand.const (Go.Value.int Go.IntKind.i64 0)) 32, type := 4, pos := "outright.go:66", after := #[{ on := 0, ground := Go.Ground.data }], guard := none }) (v := ?_) rfl (by kernel_rfl) (by kernel_rfl) (by kernel_rfl) (fun _ _ _ h => h) (Or.inl ⟨by rfl, ?_⟩) (by assumption) ?_
          rotate_left
          · (intro w hSw; (try dsimp only at hSw); (go_simp <;> with_reducible rfl))
          try simp only [Act.put, List.setIfInBounds_toArray, List.set_cons_zero, List.set_cons_succ]
          refine wpAnyH_take (i := 2) (oi := { dst := some 119, op := Go.Op.move (Go.Operand.tmp 118), type := 4, pos := "outright.go:66", after := #[{ on := 1, ground := Go.Ground.data }], guard := none }) (v := ?_) rfl (by kernel_rfl) (by kernel_rfl) (by kernel_rfl) (fun _ _ _ h => h) (Or.inl ⟨by rfl, ?_⟩) (by assumption) ?_
          rotate_left
          · (intro w hSw; (try dsimp only at hSw); (go_simp <;> with_reducible rfl))
          try simp only [Act.put, List.setIfInBounds_toArray, List.set_cons_zero, List.set_cons_succ]
          refine wpAnyH_take (i := 3) (oi := { dst := some 120, op := Go.Op.move (Go.Operand.tmp 17), type := 31, pos := "outright.go:66", after := #[{ on := 2, ground := Go.Ground.guard }], guard := some (2, true) }) (v := ?_) rfl (by kernel_rfl) (by kernel_rfl) (by kernel_rfl) (fun _ _ _ h => h) (Or.inl ⟨by rfl, ?_⟩) (by assumption) ?_
          rotate_left
          · (intro w hSw; (try dsimp only at hSw); (go_simp <;> with_reducible rfl))
          try simp only [Act.put, List.setIfInBounds_toArray, List.set_cons_zero, List.set_cons_succ]
          refine wpAnyH_take (i := 5) (oi := { dst := some 122, op := Go.Op.load 23 (Go.Operand.tmp 5), type := 23, pos := "outright.go:66", after := #[{ on := 2, ground := Go.Ground.guard }], guard := some (2, true) }) (v := ?_) rfl (by kernel_rfl) (by kernel_rfl) (by kernel_rfl) (fun _ _ _ h => h) (Or.inl ⟨by rfl, ?_⟩) (by assumption) ?_
          rotate_left
          · (intro w hSw; (try dsimp only at hSw); (go_simp <;> with_reducible rfl))
          try simp only [Act.put, List.setIfInBounds_toArray, List.set_cons_zero, List.set_cons_succ]
          refine wpAnyH_ready (rs := [4]) (by kernel_rfl) (by simp) ?_
          refine AllReadyH.cons (o := { dst := some 121, op := Go.Op.call { callee := Go.Callee.value (Go.Operand.func 18), args := #[Go.Operand.tmp 120], argTypes := #[31] }, type := 23, pos := "outright.go:66", after := #[{ on := 3, ground := Go.Ground.data }, { on := 2, ground := Go.Ground.chain }, { on := 2, ground := Go.Ground.guard }], guard := some (2, true) }) rfl (fun K hK => ?_) ?_
          rotate_left
          · exact AllReadyH.nil
          go_simp
          refine HSp.out.mono ?_
          rintro e w16 ⟨rfl, hg16⟩
          have HG16 := hide hg16
          have hK16 := HK15.out w16 (grown_trans (grown_drew w15 none) hg16)
          clear hg16
          go_wp2_with fail
          refine hK.out _ _ ?_ (fun hHeld => ?_)
          · ((try dsimp only); first | with_reducible assumption | exact hK16 | exact hK15)
          clear hK K
          try simp only [Act.put, List.setIfInBounds_toArray, List.set_cons_zero, List.set_cons_succ]
          refine wpAnyH_take (i := 6) (oi := { dst := some 123, op := Go.Op.binOp Go.BinOp.eql 23 (Go.Operand.tmp 121) (Go.Operand.tmp 122) 23, type := 4, pos := "outright.go:66", after := #[{ on := 4, ground := Go.Ground.data }, { on := 5, ground := Go.Ground.data }, { on := 2, ground := Go.Ground.guard }], guard := some (2, true) }) (v := ?_) rfl (by kernel_rfl) (by kernel_rfl) (by kernel_rfl) (fun _ _ _ h => h) (Or.inl ⟨by rfl, ?_⟩) (by assumption) ?_
          rotate_left
          · (intro w hSw; refine eqlS_op (x := .tmp 121) (y := .tmp 122) (p := sa) (q := sb) (r := sc) ?_ ?_ ?_ w <;> rfl)
          try simp only [Act.put, List.setIfInBounds_toArray, List.set_cons_zero, List.set_cons_succ]
          refine wpAnyH_take (i := 7) (oi := { dst := some 124, op := Go.Op.pick (Go.Operand.tmp 119) (Go.Operand.tmp 123) (Go.Operand.const (Go.Value.bool false)), type := 4, pos := "outright.go:66", after := #[{ on := 2, ground := Go.Ground.data }, { on := 6, ground := Go.Ground.data }], guard := none }) (v := ?_) rfl (by kernel_rfl) (by kernel_rfl) (by kernel_rfl) (fun _ _ _ h => h) (Or.inl ⟨by rfl, ?_⟩) (by assumption) ?_
          rotate_left
          · (intro w hSw; (try dsimp only at hSw); (go_simp <;> with_reducible rfl))
          try simp only [Act.put, List.setIfInBounds_toArray, List.set_cons_zero, List.set_cons_succ]
          refine wpAnyH_take (i := 8) (oi := { dst := some 125, op := Go.Op.move (Go.Operand.tmp 124), type := 4, pos := "outright.go:66", after := #[{ on := 7, ground := Go.Ground.data }, { on := 4, ground := Go.Ground.chain }], guard := none }) (v := ?_) rfl (by kernel_rfl) (by kernel_rfl) (by kernel_rfl) (fun _ _ _ h => h) (Or.inl ⟨by rfl, ?_⟩) (by assumption) ?_
          rotate_left
          · (intro w hSw; (try dsimp only at hSw); (go_simp <;> with_reducible rfl))
          try simp only [Act.put, List.setIfInBounds_toArray, List.set_cons_zero, List.set_cons_succ]
          refine wpAnyH_take (i := 9) (oi := { dst := some 126, op := Go.Op.move (Go.Operand.tmp 17), type := 31, pos := "outright.go:66", after := #[{ on := 8, ground := Go.Ground.guard }], guard := some (8, true) }) (v := ?_) rfl (by kernel_rfl) (by kernel_rfl) (by kernel_rfl) (fun _ _ _ h => h) (Or.inl ⟨by rfl, ?_⟩) (by assumption) ?_
          rotate_left
          · (intro w hSw; (try dsimp only at hSw); (go_simp <;> with_reducible rfl))
          try simp only [Act.put, List.setIfInBounds_toArray, List.set_cons_zero, List.set_cons_succ]
          refine wpAnyH_take (i := 11) (oi := { dst := some 128, op := Go.Op.move (Go.Operand.tmp 9), type := 31, pos := "outright.go:66", after := #[{ on := 8, ground := Go.Ground.guard }], guard := some (8, true) }) (v := ?_) rfl (by kernel_rfl) (by kernel_rfl) (by kernel_rfl) (fun _ _ _ h => h) (Or.inl ⟨by rfl, ?_⟩) (by assumption) ?_
          rotate_left
          · (intro w hSw; (try dsimp only at hSw); (go_simp <;> with_reducible rfl))
          try simp only [Act.put, List.setIfInBounds_toArray, List.set_cons_zero, List.set_cons_succ]
          refine wpAnyH_ready (rs := [10]) (by kernel_rfl) (by simp) ?_
          refine AllReadyH.cons (o := { dst := some 127, op := Go.Op.call { callee := Go.Callee.value (Go.Operand.func 19), args := #[Go.Operand.tmp 126], argTypes := #[31] }, type := 3, pos := "outright.go:66", after := #[{ on := 9, ground := Go.Ground.data }, { on := 8, ground := Go.Ground.chain }, { on := 8, ground := Go.Ground.guard }], guard := some (8, true) }) rfl (fun K hK => ?_) ?_
          rotate_left
          · exact AllReadyH.nil
          go_simp
          refine (HL1.out _ HG16.out).mono ?_
          rintro e w17 ⟨rfl, rfl⟩
          go_wp2_with fail
          refine hK.out _ _ ?_ (fun hHeld => ?_)
          · ((try dsimp only); first | with_reducible assumption | exact hK16 | exact hK15)
          clear hK K
          try simp only [Act.put, List.setIfInBounds_toArray, List.set_cons_zero, List.set_cons_succ]
          refine wpAnyH_ready (rs := [12]) (by kernel_rfl) (by simp) ?_
          refine AllReadyH.cons (o := { dst := some 129, op := Go.Op.call { callee := Go.Callee.value (Go.Operand.func 19), args := #[Go.Operand.tmp 128], argTypes := #[31] }, type := 3, pos := "outright.go:66", after := #[{ on := 11, ground := Go.Ground.data }, { on := 10, ground := Go.Ground.chain }, { on := 8, ground := Go.Ground.guard }], guard := some (8, true) }) rfl (fun K hK => ?_) ?_
          rotate_left
          · exact AllReadyH.nil
          go_simp
          refine (HL2.out _ HG16.out).mono ?_
          rintro e w17 ⟨rfl, rfl⟩
          go_wp2_with fail
          refine hK.out _ _ ?_ (fun hHeld => ?_)
          · ((try dsimp only); first | with_reducible assumption | exact hK16 | exact hK15)
          clear hK K
          try simp only [Act.put, List.setIfInBounds_toArray, List.set_cons_zero, List.set_cons_succ]
          refine wpAnyH_take (i := 13) (oi := { dst := some 130, op := Go.Op.binOp Go.BinOp.eql 3 (Go.Operand.tmp 127) (Go.Operand.tmp 129) 3, type := 4, pos := "outright.go:66", after := #[{ on := 10, ground := Go.Ground.data }, { on := 12, ground := Go.Ground.data }, { on := 8, ground := Go.Ground.guard }], guard := some (8, true) }) (v := ?_) rfl (by kernel_rfl) (by kernel_rfl) (by kernel_rfl) (fun _ _ _ h => h) (Or.inl ⟨by rfl, ?_⟩) (by assumption) ?_
          rotate_left
          · (intro w hSw; (try dsimp only at hSw); (go_simp <;> with_reducible rfl))
          try simp only [Act.put, List.setIfInBounds_toArray, List.set_cons_zero, List.set_cons_succ]
          refine wpAnyH_take (i := 14) (oi := { dst := some 131, op := Go.Op.pick (Go.Operand.tmp 125) (Go.Operand.tmp 130) (Go.Operand.const (Go.Value.bool false)), type := 4, pos := "outright.go:66", after := #[{ on := 8, ground := Go.Ground.data }, { on := 13, ground := Go.Ground.data }], guard := none }) (v := ?_) rfl (by kernel_rfl) (by kernel_rfl) (by kernel_rfl) (fun _ _ _ h => h) (Or.inl ⟨by rfl, ?_⟩) (by assumption) ?_
          rotate_left
          · (intro w hSw; (try dsimp only at hSw); (go_simp <;> with_reducible rfl))
          try simp only [Act.put, List.setIfInBounds_toArray, List.set_cons_zero, List.set_cons_succ]
          refine wpAnyH_take (i := 15) (oi := { dst := some 8, op := Go.Op.assign (Go.Operand.tmp 131), type := 4, pos := "outright.go:66", after := #[{ on := 14, ground := Go.Ground.data }, { on := 12, ground := Go.Ground.chain }, { on := 0, ground := Go.Ground.phase }, { on := 1, ground := Go.Ground.phase }, { on := 2, ground := Go.Ground.phase }, { on := 3, ground := Go.Ground.phase }, { on := 4, ground := Go.Ground.phase }, { on := 5, ground := Go.Ground.phase }, { on := 6, ground := Go.Ground.phase }, { on := 7, ground := Go.Ground.phase }, { on := 8, ground := Go.Ground.phase }, { on := 9, ground := Go.Ground.phase }, { on := 10, ground := Go.Ground.phase }, { on := 11, ground := Go.Ground.phase }, { on := 12, ground := Go.Ground.phase }, { on := 13, ground := Go.Ground.phase }, { on := 14, ground := Go.Ground.phase }], guard := none }) (v := ?_) rfl (by kernel_rfl) (by kernel_rfl) (by kernel_rfl) (fun _ _ _ h => h) (Or.inl ⟨by rfl, ?_⟩) (by assumption) ?_
          rotate_left
          · (intro w hSw; (try dsimp only at hSw); (go_simp <;> with_reducible rfl))
          try simp only [Act.put, List.setIfInBounds_toArray, List.set_cons_zero, List.set_cons_succ]
          refine wpAnyH_done (by kernel_rfl) ?_ _
          go_wp2
          go_ret
          exact ⟨rfl, grown_trans HG15.out (grown_trans (grown_drew w15 none) HG16.out)⟩
        · have hne : ¬ ((SS.a : Int) = sa ∧ (SS.b : Int) = sb) := fun h => h6 (h.2.symm.trans HSa.out.2.1)
          have HCk : Hid (∀ W, Calls Tryz.prog 17 #[.agg #[.int .i64 sa, .int .i64 sb, .int .i64 sc]] W fun e w' => e = .returned (.int .i64 0) ∧ W.grownBy w' none) := fun W => Ge.check_ok _ _ _ hOs W
          have HGq := hide (fun W co cc h => HGs.out W co cc hne hOs h)
          have v1 : (sa != a) = false := by simpa using h5
          have v2 : decide (sa = a) = true := by simpa using h5
          have v3 : (sb != b) = true := by simpa using h6
          have v4 : decide (sb = b) = false := by simpa using h6
          have HOs := hide hOs
          clear hOs hne h5 h6
          go_region_held3 (fun W => W.cell? ⟨w.heap.size + 1, 0, none⟩ = some (.int .i64 sa) ∧ W.cell? ⟨w.heap.size + 1, 1, none⟩ = some (.int .i64 sb) ∧ W.cell? ⟨w.heap.size + 1, 2, none⟩ = some (.int .i64 sc)) (first | with_reducible assumption | exact hK12')
            ((first
              | (go_at_call 15; refine (HCp.out _ _ IL IL (Nat.le_refl _) (HA12.out.kept (grown_drew w12 none) (by simp))).mono ?_; rintro e w13 ⟨co3, cc3, rfl, -, h1, hg13⟩; rw [HIt.out] at h1; have HA13 := hide h1; have HGb13 := hide (grown_trans (grown_drew w12 none) hg13); have HG13 := hide (grown_trans HG12.out HGb13.out); have hK13 := HS2.out w13 HG13.out; clear h1 hg13)
              | (go_at_call 14; refine (HGq.out _ _ _ HA13.out).mono ?_; rintro e w14 ⟨rfl, hg14⟩; have HG14 := hide (grown_trans HG13.out hg14); have hK14 := HS2.out w14 HG14.out)))
          have HG14' := hide (grown_trans HG1.out HG14.out)
          obtain ⟨s0, s1, s2⟩ := hK14
          go_wp2_with fail
          refine (HCk.out _).mono ?_
          rintro e w15 ⟨rfl, hg15⟩
          have HG15 := hide (grown_trans HG14'.out hg15)
          obtain ⟨s0, s1, s2⟩ := HS2.out w15 (grown_trans HG14.out hg15)
          obtain ⟨t0, t1, t2⟩ := HS1.out w15 (grown_trans HG14.out hg15)
          clear hK12' hK13 hg15
          go_wp2
          go_ret
          exact ⟨rfl, HG15.out⟩
      · have hne : ¬ ((SS.a : Int) = sa ∧ (SS.b : Int) = sb) := fun h => h5 (h.1.symm.trans HSa.out.1)
        have HCk : Hid (∀ W, Calls Tryz.prog 17 #[.agg #[.int .i64 sa, .int .i64 sb, .int .i64 sc]] W fun e w' => e = .returned (.int .i64 0) ∧ W.grownBy w' none) := fun W => Ge.check_ok _ _ _ hOs W
        have HGq := hide (fun W co cc h => HGs.out W co cc hne hOs h)
        have v1 : (sa != a) = true := by simpa using h5
        have v2 : decide (sa = a) = false := by simpa using h5
        have HOs := hide hOs
        clear hOs hne h5
        go_region_held3 (fun W => W.cell? ⟨w.heap.size + 1, 0, none⟩ = some (.int .i64 sa) ∧ W.cell? ⟨w.heap.size + 1, 1, none⟩ = some (.int .i64 sb) ∧ W.cell? ⟨w.heap.size + 1, 2, none⟩ = some (.int .i64 sc)) (first | with_reducible assumption | exact hK12')
          ((first
            | (go_at_call 15; refine (HCp.out _ _ IL IL (Nat.le_refl _) (HA12.out.kept (grown_drew w12 none) (by simp))).mono ?_; rintro e w13 ⟨co3, cc3, rfl, -, h1, hg13⟩; rw [HIt.out] at h1; have HA13 := hide h1; have HGb13 := hide (grown_trans (grown_drew w12 none) hg13); have HG13 := hide (grown_trans HG12.out HGb13.out); have hK13 := HS2.out w13 HG13.out; clear h1 hg13)
            | (go_at_call 14; refine (HGq.out _ _ _ HA13.out).mono ?_; rintro e w14 ⟨rfl, hg14⟩; have HG14 := hide (grown_trans HG13.out hg14); have hK14 := HS2.out w14 HG14.out)))
        have HG14' := hide (grown_trans HG1.out HG14.out)
        obtain ⟨s0, s1, s2⟩ := hK14
        go_wp2_with fail
        refine (HCk.out _).mono ?_
        rintro e w15 ⟨rfl, hg15⟩
        have HG15 := hide (grown_trans HG14'.out hg15)
        obtain ⟨s0, s1, s2⟩ := HS2.out w15 (grown_trans HG14.out hg15)
        obtain ⟨t0, t1, t2⟩ := HS1.out w15 (grown_trans HG14.out hg15)
        clear hK12' hK13 hg15
        go_wp2
        go_ret
        exact ⟨rfl, HG15.out⟩
    ·
      have HCk : Hid (∀ W, Calls Tryz.prog 17 #[.agg #[.int .i64 sa, .int .i64 sb, .int .i64 sc]] W fun e w' => e = .returned (.int .i64 90) ∧ W.grownBy w' none) := fun W => Ge.check_no _ _ _ hOs W
      have HGq := hide (fun W co cc h => HGb.out W co cc hOs h)
      clear hOs
      go_region_held3 (fun W => W.cell? ⟨w.heap.size + 1, 0, none⟩ = some (.int .i64 sa) ∧ W.cell? ⟨w.heap.size + 1, 1, none⟩ = some (.int .i64 sb) ∧ W.cell? ⟨w.heap.size + 1, 2, none⟩ = some (.int .i64 sc)) (first | with_reducible assumption | exact hK12')
        ((first
          | (go_at_call 15; refine (HCp.out _ _ IL IL (Nat.le_refl _) (HA12.out.kept (grown_drew w12 none) (by simp))).mono ?_; rintro e w13 ⟨co3, cc3, rfl, -, h1, hg13⟩; rw [HIt.out] at h1; have HA13 := hide h1; have HGb13 := hide (grown_trans (grown_drew w12 none) hg13); have HG13 := hide (grown_trans HG12.out HGb13.out); have hK13 := HS2.out w13 HG13.out; clear h1 hg13)
          | (go_at_call 14; refine (HGq.out _ _ _ HA13.out).mono ?_; rintro e w14 ⟨rfl, hg14⟩; have HG14 := hide (grown_trans HG13.out hg14); have hK14 := HS2.out w14 HG14.out)))
      have HG14' := hide (grown_trans HG1.out HG14.out)
      obtain ⟨s0, s1, s2⟩ := hK14
      go_wp2_with fail
      refine (HCk.out _).mono ?_
      rintro e w15 ⟨rfl, hg15⟩
      have HG15 := hide (grown_trans HG14'.out hg15)
      clear hK12' hK13 hg15
      go_wp2
      go_ret
      exact ⟨rfl, HG15.out⟩

  · have hbl : 0 < bl := by omega
    rename ¬bl = 0 => hbl0
    clear hbl0
    have hl1 : ((bl : Int) == 0) = false := by simp; omega
    have hl2 : decide ((bl : Int) = 0) = false := by simp; omega
    have hl3 : (0 : Int) < (bl : Int) := by omega
    have HBL := hide hbl
    clear hbl
    refine wp_region_held_drew (S := (fun W => W.cell? ⟨w.heap.size, 0, none⟩ = some (.int .i64 a) ∧ W.cell? ⟨w.heap.size, 1, none⟩ = some (.int .i64 b) ∧ W.cell? ⟨w.heap.size, 2, none⟩ = some (.int .i64 c))) (by kernel_rfl) ?_ (fun hHeld => ?_)
    · (exact hK9')
    refine wpAnyH_take (i := 0) (oi := { dst := some 48, op := Go.Op.fieldAddr 27 (Go.Operand.tmp 4) 0, type := 0, pos := "outright.go:55", after := #[], guard := none }) (v := ?_) rfl (by kernel_rfl) (by kernel_rfl) (by kernel_rfl) (fun _ _ _ h => h) (Or.inl ⟨by rfl, ?_⟩) (by assumption) ?_
    rotate_left
    · (intro w hSw; (try dsimp only at hSw); (go_simp <;> with_reducible rfl))
    try simp only [Act.put, List.setIfInBounds_toArray, List.set_cons_zero, List.set_cons_succ]
    refine wpAnyH_take (i := 1) (oi := { dst := some 49, op := Go.Op.load 23 (Go.Operand.tmp 48), type := 23, pos := "outright.go:55", after := #[{ on := 0, ground := Go.Ground.data }], guard := none }) (v := ?_) rfl (by kernel_rfl) (by kernel_rfl) (by kernel_rfl) (fun _ _ _ h => h) (Or.inl ⟨by rfl, ?_⟩) (by assumption) ?_
    rotate_left
    · (intro w hSw; (try dsimp only at hSw); (go_simp <;> with_reducible rfl))
    try simp only [Act.put, List.setIfInBounds_toArray, List.set_cons_zero, List.set_cons_succ]
    refine wpAnyH_take (i := 2) (oi := { dst := some 50, op := Go.Op.move (Go.Operand.tmp 11), type := 36, pos := "outright.go:55", after := #[], guard := none }) (v := ?_) rfl (by kernel_rfl) (by kernel_rfl) (by kernel_rfl) (fun _ _ _ h => h) (Or.inl ⟨by rfl, ?_⟩) (by assumption) ?_
    rotate_left
    · (intro w hSw; (try dsimp only at hSw); (go_simp <;> with_reducible rfl))
    try simp only [Act.put, List.setIfInBounds_toArray, List.set_cons_zero, List.set_cons_succ]
    refine wpAnyH_take (i := 4) (oi := { dst := some 52, op := Go.Op.move (Go.Operand.tmp 3), type := 36, pos := "outright.go:55", after := #[], guard := none }) (v := ?_) rfl (by kernel_rfl) (by kernel_rfl) (by kernel_rfl) (fun _ _ _ h => h) (Or.inl ⟨by rfl, ?_⟩) (by assumption) ?_
    rotate_left
    · (intro w hSw; (try dsimp only at hSw); (go_simp <;> with_reducible rfl))
    try simp only [Act.put, List.setIfInBounds_toArray, List.set_cons_zero, List.set_cons_succ]
    refine wpAnyH_ready (rs := [3]) (by kernel_rfl) (by simp) ?_
    refine AllReadyH.cons (o := { dst := some 51, op := Go.Op.call { callee := Go.Callee.value (Go.Operand.func 15), args := #[Go.Operand.tmp 50], argTypes := #[36] }, type := 36, pos := "outright.go:55", after := #[{ on := 2, ground := Go.Ground.data }], guard := none }) rfl (fun K hK => ?_) ?_
    rotate_left
    · exact AllReadyH.nil
    go_simp
    refine (HCp.out _ _ IL IL (Nat.le_refl _) (HA9.out.kept (grown_drew w9 none) (by simp))).mono ?_
    rintro e w10 ⟨co, cc, rfl, hown, h1, hg10⟩
    rw [HIt.out] at hown
    have HGb10 := hide (grown_trans (grown_drew w9 none) hg10)
    have HG10 := hide (grown_trans HG9.out HGb10.out)
    obtain ⟨v11, w11, hrun, ⟨co2, cc2, rfl, hA11⟩, hgz⟩ := HAp.out w10 w9.drew.heap.size _ (grown_trans HG1.out HG10.out) hg10.size hown
    have HRun := hide hrun
    have HA11 := hide hA11
    have HGb11 := hide (hgz w9 (Nat.le_refl _) HGb10.out)
    have HG11 := hide (grown_trans HG9.out HGb11.out)
    have hK10 := HS1.out w10 HG10.out
    have hK11 := HS1.out w11 HG11.out
    clear h1 hg10 hown hrun hA11 hgz
    go_wp2_with fail
    refine hK.out _ _ ?_ (fun hHeld => ?_)
    · ((try dsimp only); first | with_reducible assumption | exact hK9')
    clear hK K
    try simp only [Act.put, List.setIfInBounds_toArray, List.set_cons_zero, List.set_cons_succ]
    refine wpAnyH_ready (rs := [5]) (by kernel_rfl) (by simp) ?_
    refine AllReadyH.cons (o := { dst := some 53, op := Go.Op.call { callee := Go.Callee.builtin Go.Builtin.append, args := #[Go.Operand.tmp 51, Go.Operand.tmp 52], argTypes := #[36, 36] }, type := 36, pos := "outright.go:55", after := #[{ on := 3, ground := Go.Ground.data }, { on := 4, ground := Go.Ground.data }, { on := 3, ground := Go.Ground.chain }], guard := none }) rfl (fun K hK => ?_) ?_
    rotate_left
    · exact AllReadyH.nil
    refine step_append_run (by rfl) _ _ _ (by rfl) _ _ (by rfl) (by rfl) HRun.out ?_
    refine hK.out _ _ ?_ (fun hHeld => ?_)
    · ((try dsimp only); first | with_reducible assumption | exact hK9')
    clear hK K
    try simp only [Act.put, List.setIfInBounds_toArray, List.set_cons_zero, List.set_cons_succ]
    refine wpAnyH_ready (rs := [6]) (by kernel_rfl) (by simp) ?_
    refine AllReadyH.cons (o := { dst := some 54, op := Go.Op.call { callee := Go.Callee.value (Go.Operand.func 14), args := #[Go.Operand.tmp 49, Go.Operand.tmp 53], argTypes := #[23, 36] }, type := 33, pos := "outright.go:55", after := #[{ on := 1, ground := Go.Ground.data }, { on := 5, ground := Go.Ground.data }, { on := 5, ground := Go.Ground.chain }], guard := none }) rfl (fun K hK => ?_) ?_
    rotate_left
    · exact AllReadyH.nil
    go_simp
    refine (HGm.out _ _ _ HBL.out HA11.out).mono ?_
    rintro e w12 ⟨v12, rfl, hg12⟩
    have HGb12 := hide (grown_trans HGb11.out hg12)
    have HG12 := hide (grown_trans HG9.out HGb12.out)
    have hK12 := HS1.out w12 HG12.out
    clear hg12
    go_wp2_with fail
    refine hK.out _ _ ?_ (fun hHeld => ?_)
    · ((try dsimp only); first | with_reducible assumption | exact hK9')
    clear hK K
    try simp only [Act.put, List.setIfInBounds_toArray, List.set_cons_zero, List.set_cons_succ]
    refine wpAnyH_take (i := 7) (oi := { dst := some 47, op := Go.Op.move (Go.Operand.tmp 54), type := 33, pos := "outright.go:55", after := #[{ on := 6, ground := Go.Ground.data }], guard := none }) (v := ?_) rfl (by kernel_rfl) (by kernel_rfl) (by kernel_rfl) (fun _ _ _ h => h) (Or.inl ⟨by rfl, ?_⟩) (by assumption) ?_
    rotate_left
    · (intro w hSw; (try dsimp only at hSw); (go_simp <;> with_reducible rfl))
    try simp only [Act.put, List.setIfInBounds_toArray, List.set_cons_zero, List.set_cons_succ]
    refine wpAnyH_take (i := 8) (oi := { dst := some 55, op := Go.Op.extract (Go.Operand.tmp 47) 0, type := 31, pos := "outright.go:55", after := #[{ on := 7, ground := Go.Ground.data }], guard := none }) (v := ?_) rfl (by kernel_rfl) (by kernel_rfl) (by kernel_rfl) (fun _ _ _ h => h) (Or.inl ⟨by rfl, ?_⟩) (by assumption) ?_
    rotate_left
    · (intro w hSw; (try dsimp only at hSw); (go_simp <;> with_reducible rfl))
    try simp only [Act.put, List.setIfInBounds_toArray, List.set_cons_zero, List.set_cons_succ]
    refine wpAnyH_take (i := 9) (oi := { dst := some 56, op := Go.Op.extract (Go.Operand.tmp 47) 1, type := 32, pos := "outright.go:55", after := #[{ on := 7, ground := Go.Ground.data }, { on := 10, ground := Go.Ground.gcOnly Go.Departure.lateStores }], guard := none }) (v := ?_) rfl (by kernel_rfl) (by kernel_rfl) (by kernel_rfl) (fun _ _ _ h => h) (Or.inl ⟨by rfl, ?_⟩) (by assumption) ?_
    rotate_left
    · (intro w hSw; (try dsimp only at hSw); (go_simp <;> with_reducible rfl))
    try simp only [Act.put, List.setIfInBounds_toArray, List.set_cons_zero, List.set_cons_succ]
    refine wpAnyH_take (i := 10) (oi := { dst := some 15, op := Go.Op.assign (Go.Operand.tmp 55), type := 31, pos := "outright.go:55", after := #[{ on := 8, ground := Go.Ground.data }, { on := 6, ground := Go.Ground.chain }, { on := 0, ground := Go.Ground.phase }, { on := 1, ground := Go.Ground.phase }, { on := 2, ground := Go.Ground.phase }, { on := 3, ground := Go.Ground.phase }, { on := 4, ground := Go.Ground.phase }, { on := 5, ground := Go.Ground.phase }, { on := 6, ground := Go.Ground.phase }, { on := 7, ground := Go.Ground.phase }, { on := 8, ground := Go.Ground.phase }, { on := 9, ground := Go.Ground.textOnly Go.Departure.lateStores }], guard := none }) (v := ?_) rfl (by kernel_rfl) (by kernel_rfl) (by kernel_rfl) (fun _ _ _ h => h) (Or.inl ⟨by rfl, ?_⟩) (by assumption) ?_
    rotate_left
    · (intro w hSw; (try dsimp only at hSw); (go_simp <;> with_reducible rfl))
    try simp only [Act.put, List.setIfInBounds_toArray, List.set_cons_zero, List.set_cons_succ]
    refine wpAnyH_take (i := 11) (oi := { dst := some 16, op := Go.Op.assign (Go.Operand.tmp 56), type := 32, pos := "outright.go:55", after := #[{ on := 9, ground := Go.Ground.data }, { on := 10, ground := Go.Ground.chain }, { on := 0, ground := Go.Ground.phase }, { on := 1, ground := Go.Ground.phase }, { on := 2, ground := Go.Ground.phase }, { on := 3, ground := Go.Ground.phase }, { on := 4, ground := Go.Ground.phase }, { on := 5, ground := Go.Ground.phase }, { on := 6, ground := Go.Ground.phase }, { on := 7, ground := Go.Ground.phase }, { on := 8, ground := Go.Ground.phase }, { on := 9, ground := Go.Ground.phase }, { on := 10, ground := Go.Ground.phase }], guard := none }) (v := ?_) rfl (by kernel_rfl) (by kernel_rfl) (by kernel_rfl) (fun _ _ _ h => h) (Or.inl ⟨by rfl, ?_⟩) (by assumption) ?_
    rotate_left
    · (intro w hSw; (try dsimp only at hSw); (go_simp <;> with_reducible rfl))
    try simp only [Act.put, List.setIfInBounds_toArray, List.set_cons_zero, List.set_cons_succ]
    refine wpAnyH_done (by kernel_rfl) ?_ _
    go_wp2
    have HA12 := hide (HA9.out.kept HGb12.out (by simp))
    have HK12 := hide (HK9.out.then HGb12.out)
    have hK12' := HS2.out w12.drew (gn_drew HG12.out)
    clear hK9' hK10 hK11 hK12 HA11 HRun HAp HGm HGz
    by_cases hOs : Gx.OkS sa sb sc
    · by_cases h5 : sa = a
      · by_cases h6 : sb = b
        · have hne : (SS.a : Int) = sa ∧ (SS.b : Int) = sb := ⟨HSa.out.1.trans h5.symm, HSa.out.2.1.trans h6.symm⟩
          have HCk : Hid (∀ W, Calls Tryz.prog 17 #[.agg #[.int .i64 sa, .int .i64 sb, .int .i64 sc]] W fun e w' => e = .returned (.int .i64 0) ∧ W.grownBy w' none) := fun W => Ge.check_ok _ _ _ hOs W
          have HGq := hide (fun W co cc h => HGy.out W co cc hne hOs h)
          have v1 : (sa != a) = false := by simpa using h5
          have v2 : decide (sa = a) = true := by simpa using h5
          have v3 : (sb != b) = false := by simpa using h6
          have v4 : decide (sb = b) = true := by simpa using h6
          have HNe := hide hne
          have HOs := hide hOs
          clear hne hOs h5 h6
          go_region_held3 (fun W => W.cell? ⟨w.heap.size + 1, 0, none⟩ = some (.int .i64 sa) ∧ W.cell? ⟨w.heap.size + 1, 1, none⟩ = some (.int .i64 sb) ∧ W.cell? ⟨w.heap.size + 1, 2, none⟩ = some (.int .i64 sc)) (first | with_reducible assumption | exact hK12')
            ((first
              | (go_at_call 15; refine (HCp.out _ _ IL IL (Nat.le_refl _) (HA12.out.kept (grown_drew w12 none) (by simp))).mono ?_; rintro e w13 ⟨co3, cc3, rfl, -, h1, hg13⟩; rw [HIt.out] at h1; have HA13 := hide h1; have HGb13 := hide (grown_trans (grown_drew w12 none) hg13); have HG13 := hide (grown_trans HG12.out HGb13.out); have hK13 := HS2.out w13 HG13.out; clear h1 hg13)
              | (go_at_call 14; refine (HGq.out _ _ _ HA13.out).mono ?_; rintro e w14 ⟨y, q, rfl, hk14⟩; have HK14 := hide hk14; have hg14 := hk14.gr; have HG14 := hide (grown_trans HG13.out hg14); have hK14 := HS2.out w14 HG14.out)))
          have HG14' := hide (grown_trans HG1.out HG14.out)
          obtain ⟨s0, s1, s2⟩ := hK14
          go_wp2_with fail
          refine (HCk.out _).mono ?_
          rintro e w15 ⟨rfl, hg15⟩
          have HG15 := hide (grown_trans HG14'.out hg15)
          obtain ⟨s0, s1, s2⟩ := HS2.out w15 (grown_trans HG14.out hg15)
          obtain ⟨t0, t1, t2⟩ := HS1.out w15 (grown_trans HG14.out hg15)
          have HYd := hide (HK14.out.then (gn_drew hg15))
          have HXd := hide (((HK12.out.then HGb13.out).then hg14).then (gn_drew hg15))
          have HSp : Hid (Calls Tryz.prog 18 #[.pointer (some ⟨y, 0, none⟩)] w15.drew fun e w' => e = .returned (.agg #[.int .i64 sa, .int .i64 sb, .int .i64 sc]) ∧ w15.drew.grownBy w' none) := by
            have := shape_any HYd.out.bk
            rw [HYd.out.eb] at this
            unfold limV at this
            simp only at this
            rw [HNe.out.1, HNe.out.2, Int.toNat_of_nonneg (by have hOs := HOs.out; unfold Gx.OkS at hOs; omega)] at this
            exact this
          have HL1 : Hid (∀ W, w15.drew.grownBy W none → Calls Tryz.prog 19 #[.pointer (some ⟨y, 0, none⟩)] W fun e w' => e = .returned (.int .i64 (SS.L.length : Int)) ∧ w' = W) := fun W g => (HYd.out.then g).len
          have HL2 : Hid (∀ W, w15.drew.grownBy W none → Calls Tryz.prog 19 #[.pointer (some ⟨x, 0, none⟩)] W fun e w' => e = .returned (.int .i64 (SS.L.length : Int)) ∧ w' = W) := fun W g => (HXd.out.then g).len
          generalize (SS.L.length : Int) = LL at *
          have HK15 : Hid (∀ W, w15.grownBy W none → W.cell? ⟨w.heap.size + 1, 0, none⟩ = some (.int .i64 sa) ∧ W.cell? ⟨w.heap.size + 1, 1, none⟩ = some (.int .i64 sb) ∧ W.cell? ⟨w.heap.size + 1, 2, none⟩ = some (.int .i64 sc)) := fun W g => HS2.out W (grown_trans (grown_trans HG14.out hg15) g)
          have hK15 := HK15.out w15.drew (grown_drew w15 none)
          clear hK12' hK13 hg15 hg14 hk14
          go_wp2
          refine wp_region_held_drew (S := (fun W => W.cell? ⟨w.heap.size + 1, 0, none⟩ = some (.int .i64 sa) ∧ W.cell? ⟨w.heap.size + 1, 1, none⟩ = some (.int .i64 sb) ∧ W.cell? ⟨w.heap.size + 1, 2, none⟩ = some (.int .i64 sc))) (by kernel_rfl) ?_ (fun hHeld => ?_)
          · (exact hK15)
          refine wpAnyH_take (i := 0) (oi := { dst := some 117, op := Go.Op.move (Go.Operand.tmp 16), type := 32, pos := "outright.go:66", after := #[], guard := none }) (v := ?_) rfl (by kernel_rfl) (by kernel_rfl) (by kernel_rfl) (fun _ _ _ h => h) (Or.inl ⟨by rfl, ?_⟩) (by assumption) ?_
          rotate_left
          · (intro w hSw; (try dsimp only at hSw); (go_simp <;> with_reducible rfl))
          try simp only [Act.put, List.setIfInBounds_toArray, List.set_cons_zero, List.set_cons_succ]
          refine wpAnyH_take (i := 1) (oi := { dst := some 118, op := Go.Op.binOp Go.BinOp.eql 32 (Go.Operand.tmp 117) (Go.Operand.const (Go.Value.int Go.IntKind.i64 0)) 32, type := 4, pos := "outright.go:66", after := #[{ on := 0, ground := Go.Ground.data }], guard := none }) (v := ?_) rfl (by kernel_rfl) (by kernel_rfl) (by kernel_rfl) (fun _ _ _ h => h) (Or.inl ⟨by rfl, ?_⟩) (by assumption) ?_
          rotate_left
          · (intro w hSw; (try dsimp only at hSw); (go_simp <;> with_reducible rfl))
          try simp only [Act.put, List.setIfInBounds_toArray, List.set_cons_zero, List.set_cons_succ]
          refine wpAnyH_take (i := 2) (oi := { dst := some 119, op := Go.Op.move (Go.Operand.tmp 118), type := 4, pos := "outright.go:66", after := #[{ on := 1, ground := Go.Ground.data }], guard := none }) (v := ?_) rfl (by kernel_rfl) (by kernel_rfl) (by kernel_rfl) (fun _ _ _ h => h) (Or.inl ⟨by rfl, ?_⟩) (by assumption) ?_
          rotate_left
          · (intro w hSw; (try dsimp only at hSw); (go_simp <;> with_reducible rfl))
          try simp only [Act.put, List.setIfInBounds_toArray, List.set_cons_zero, List.set_cons_succ]
          refine wpAnyH_take (i := 3) (oi := { dst := some 120, op := Go.Op.move (Go.Operand.tmp 17), type := 31, pos := "outright.go:66", after := #[{ on := 2, ground := Go.Ground.guard }], guard := some (2, true) }) (v := ?_) rfl (by kernel_rfl) (by kernel_rfl) (by kernel_rfl) (fun _ _ _ h => h) (Or.inl ⟨by rfl, ?_⟩) (by assumption) ?_
          rotate_left
          · (intro w hSw; (try dsimp only at hSw); (go_simp <;> with_reducible rfl))
          try simp only [Act.put, List.setIfInBounds_toArray, List.set_cons_zero, List.set_cons_succ]
          refine wpAnyH_take (i := 5) (oi := { dst := some 122, op := Go.Op.load 23 (Go.Operand.tmp 5), type := 23, pos := "outright.go:66", after := #[{ on := 2, ground := Go.Ground.guard }], guard := some (2, true) }) (v := ?_) rfl (by kernel_rfl) (by kernel_rfl) (by kernel_rfl) (fun _ _ _ h => h) (Or.inl ⟨by rfl, ?_⟩) (by assumption) ?_
          rotate_left
          · (intro w hSw; (try dsimp only at hSw); (go_simp <;> with_reducible rfl))
          try simp only [Act.put, List.setIfInBounds_toArray, List.set_cons_zero, List.set_cons_succ]
          refine wpAnyH_ready (rs := [4]) (by kernel_rfl) (by simp) ?_
          refine AllReadyH.cons (o := { dst := some 121, op := Go.Op.call { callee := Go.Callee.value (Go.Operand.func 18), args := #[Go.Operand.tmp 120], argTypes := #[31] }, type := 23, pos := "outright.go:66", after := #[{ on := 3, ground := Go.Ground.data }, { on := 2, ground := Go.Ground.chain }, { on := 2, ground := Go.Ground.guard }], guard := some (2, true) }) rfl (fun K hK => ?_) ?_
          rotate_left
          · exact AllReadyH.nil
          go_simp
          refine HSp.out.mono ?_
          rintro e w16 ⟨rfl, hg16⟩
          have HG16 := hide hg16
          have hK16 := HK15.out w16 (grown_trans (grown_drew w15 none) hg16)
          clear hg16
          go_wp2_with fail
          refine hK.out _ _ ?_ (fun hHeld => ?_)
          · ((try dsimp only); first | with_reducible assumption | exact hK16 | exact hK15)
          clear hK K
          try simp only [Act.put, List.setIfInBounds_toArray, List.set_cons_zero, List.set_cons_succ]
          refine wpAnyH_take (i := 6) (oi := { dst := some 123, op := Go.Op.binOp Go.BinOp.eql 23 (Go.Operand.tmp 121) (Go.Operand.tmp 122) 23, type := 4, pos := "outright.go:66", after := #[{ on := 4, ground := Go.Ground.data }, { on := 5, ground := Go.Ground.data }, { on := 2, ground := Go.Ground.guard }], guard := some (2, true) }) (v := ?_) rfl (by kernel_rfl) (by kernel_rfl) (by kernel_rfl) (fun _ _ _ h => h) (Or.inl ⟨by rfl, ?_⟩) (by assumption) ?_
          rotate_left
          · (intro w hSw; refine eqlS_op (x := .tmp 121) (y := .tmp 122) (p := sa) (q := sb) (r := sc) ?_ ?_ ?_ w <;> rfl)
          try simp only [Act.put, List.setIfInBounds_toArray, List.set_cons_zero, List.set_cons_succ]
          refine wpAnyH_take (i := 7) (oi := { dst := some 124, op := Go.Op.pick (Go.Operand.tmp 119) (Go.Operand.tmp 123) (Go.Operand.const (Go.Value.bool false)), type := 4, pos := "outright.go:66", after := #[{ on := 2, ground := Go.Ground.data }, { on := 6, ground := Go.Ground.data }], guard := none }) (v := ?_) rfl (by kernel_rfl) (by kernel_rfl) (by kernel_rfl) (fun _ _ _ h => h) (Or.inl ⟨by rfl, ?_⟩) (by assumption) ?_
          rotate_left
          · (intro w hSw; (try dsimp only at hSw); (go_simp <;> with_reducible rfl))
          try simp only [Act.put, List.setIfInBounds_toArray, List.set_cons_zero, List.set_cons_succ]
          refine wpAnyH_take (i := 8) (oi := { dst := some 125, op := Go.Op.move (Go.Operand.tmp 124), type := 4, pos := "outright.go:66", after := #[{ on := 7, ground := Go.Ground.data }, { on := 4, ground := Go.Ground.chain }], guard := none }) (v := ?_) rfl (by kernel_rfl) (by kernel_rfl) (by kernel_rfl) (fun _ _ _ h => h) (Or.inl ⟨by rfl, ?_⟩) (by assumption) ?_
          rotate_left
          · (intro w hSw; (try dsimp only at hSw); (go_simp <;> with_reducible rfl))
          try simp only [Act.put, List.setIfInBounds_toArray, List.set_cons_zero, List.set_cons_succ]
          refine wpAnyH_take (i := 9) (oi := { dst := some 126, op := Go.Op.move (Go.Operand.tmp 17), type := 31, pos := "outright.go:66", after := #[{ on := 8, ground := Go.Ground.guard }], guard := some (8, true) }) (v := ?_) rfl (by kernel_rfl) (by kernel_rfl) (by kernel_rfl) (fun _ _ _ h => h) (Or.inl ⟨by rfl, ?_⟩) (by assumption) ?_
          rotate_left
          · (intro w hSw; (try dsimp only at hSw); (go_simp <;> with_reducible rfl))
          try simp only [Act.put, List.setIfInBounds_toArray, List.set_cons_zero, List.set_cons_succ]
          refine wpAnyH_take (i := 11) (oi := { dst := some 128, op := Go.Op.move (Go.Operand.tmp 9), type := 31, pos := "outright.go:66", after := #[{ on := 8, ground := Go.Ground.guard }], guard := some (8, true) }) (v := ?_) rfl (by kernel_rfl) (by kernel_rfl) (by kernel_rfl) (fun _ _ _ h => h) (Or.inl ⟨by rfl, ?_⟩) (by assumption) ?_
          rotate_left
          · (intro w hSw; (try dsimp only at hSw); (go_simp <;> with_reducible rfl))
          try simp only [Act.put, List.setIfInBounds_toArray, List.set_cons_zero, List.set_cons_succ]
          refine wpAnyH_ready (rs := [10]) (by kernel_rfl) (by simp) ?_
          refine AllReadyH.cons (o := { dst := some 127, op := Go.Op.call { callee := Go.Callee.value (Go.Operand.func 19), args := #[Go.Operand.tmp 126], argTypes := #[31] }, type := 3, pos := "outright.go:66", after := #[{ on := 9, ground := Go.Ground.data }, { on := 8, ground := Go.Ground.chain }, { on := 8, ground := Go.Ground.guard }], guard := some (8, true) }) rfl (fun K hK => ?_) ?_
          rotate_left
          · exact AllReadyH.nil
          go_simp
          refine (HL1.out _ HG16.out).mono ?_
          rintro e w17 ⟨rfl, rfl⟩
          go_wp2_with fail
          refine hK.out _ _ ?_ (fun hHeld => ?_)
          · ((try dsimp only); first | with_reducible assumption | exact hK16 | exact hK15)
          clear hK K
          try simp only [Act.put, List.setIfInBounds_toArray, List.set_cons_zero, List.set_cons_succ]
          refine wpAnyH_ready (rs := [12]) (by kernel_rfl) (by simp) ?_
          refine AllReadyH.cons (o := { dst := some 129, op := Go.Op.call { callee := Go.Callee.value (Go.Operand.func 19), args := #[Go.Operand.tmp 128], argTypes := #[31] }, type := 3, pos := "outright.go:66", after := #[{ on := 11, ground := Go.Ground.data }, { on := 10, ground := Go.Ground.chain }, { on := 8, ground := Go.Ground.guard }], guard := some (8, true) }) rfl (fun K hK => ?_) ?_
          rotate_left
          · exact AllReadyH.nil
          go_simp
          refine (HL2.out _ HG16.out).mono ?_
          rintro e w17 ⟨rfl, rfl⟩
          go_wp2_with fail
          refine hK.out _ _ ?_ (fun hHeld => ?_)
          · ((try dsimp only); first | with_reducible assumption | exact hK16 | exact hK15)
          clear hK K
          try simp only [Act.put, List.setIfInBounds_toArray, List.set_cons_zero, List.set_cons_succ]
          refine wpAnyH_take (i := 13) (oi := { dst := some 130, op := Go.Op.binOp Go.BinOp.eql 3 (Go.Operand.tmp 127) (Go.Operand.tmp 129) 3, type := 4, pos := "outright.go:66", after := #[{ on := 10, ground := Go.Ground.data }, { on := 12, ground := Go.Ground.data }, { on := 8, ground := Go.Ground.guard }], guard := some (8, true) }) (v := ?_) rfl (by kernel_rfl) (by kernel_rfl) (by kernel_rfl) (fun _ _ _ h => h) (Or.inl ⟨by rfl, ?_⟩) (by assumption) ?_
          rotate_left
          · (intro w hSw; (try dsimp only at hSw); (go_simp <;> with_reducible rfl))
          try simp only [Act.put, List.setIfInBounds_toArray, List.set_cons_zero, List.set_cons_succ]
          refine wpAnyH_take (i := 14) (oi := { dst := some 131, op := Go.Op.pick (Go.Operand.tmp 125) (Go.Operand.tmp 130) (Go.Operand.const (Go.Value.bool false)), type := 4, pos := "outright.go:66", after := #[{ on := 8, ground := Go.Ground.data }, { on := 13, ground := Go.Ground.data }], guard := none }) (v := ?_) rfl (by kernel_rfl) (by kernel_rfl) (by kernel_rfl) (fun _ _ _ h => h) (Or.inl ⟨by rfl, ?_⟩) (by assumption) ?_
          rotate_left
          · (intro w hSw; (try dsimp only at hSw); (go_simp <;> with_reducible rfl))
          try simp only [Act.put, List.setIfInBounds_toArray, List.set_cons_zero, List.set_cons_succ]
          refine wpAnyH_take (i := 15) (oi := { dst := some 8, op := Go.Op.assign (Go.Operand.tmp 131), type := 4, pos := "outright.go:66", after := #[{ on := 14, ground := Go.Ground.data }, { on := 12, ground := Go.Ground.chain }, { on := 0, ground := Go.Ground.phase }, { on := 1, ground := Go.Ground.phase }, { on := 2, ground := Go.Ground.phase }, { on := 3, ground := Go.Ground.phase }, { on := 4, ground := Go.Ground.phase }, { on := 5, ground := Go.Ground.phase }, { on := 6, ground := Go.Ground.phase }, { on := 7, ground := Go.Ground.phase }, { on := 8, ground := Go.Ground.phase }, { on := 9, ground := Go.Ground.phase }, { on := 10, ground := Go.Ground.phase }, { on := 11, ground := Go.Ground.phase }, { on := 12, ground := Go.Ground.phase }, { on := 13, ground := Go.Ground.phase }, { on := 14, ground := Go.Ground.phase }], guard := none }) (v := ?_) rfl (by kernel_rfl) (by kernel_rfl) (by kernel_rfl) (fun _ _ _ h => h) (Or.inl ⟨by rfl, ?_⟩) (by assumption) ?_
          rotate_left
          · (intro w hSw; (try dsimp only at hSw); (go_simp <;> with_reducible rfl))
          try simp only [Act.put, List.setIfInBounds_toArray, List.set_cons_zero, List.set_cons_succ]
          refine wpAnyH_done (by kernel_rfl) ?_ _
          go_wp2
          go_ret
          exact ⟨rfl, grown_trans HG15.out (grown_trans (grown_drew w15 none) HG16.out)⟩
        · have hne : ¬ ((SS.a : Int) = sa ∧ (SS.b : Int) = sb) := fun h => h6 (h.2.symm.trans HSa.out.2.1)
          have HCk : Hid (∀ W, Calls Tryz.prog 17 #[.agg #[.int .i64 sa, .int .i64 sb, .int .i64 sc]] W fun e w' => e = .returned (.int .i64 0) ∧ W.grownBy w' none) := fun W => Ge.check_ok _ _ _ hOs W
          have HGq := hide (fun W co cc h => HGs.out W co cc hne hOs h)
          have v1 : (sa != a) = false := by simpa using h5
          have v2 : decide (sa = a) = true := by simpa using h5
          have v3 : (sb != b) = true := by simpa using h6
          have v4 : decide (sb = b) = false := by simpa using h6
          have HOs := hide hOs
          clear hOs hne h5 h6
          go_region_held3 (fun W => W.cell? ⟨w.heap.size + 1, 0, none⟩ = some (.int .i64 sa) ∧ W.cell? ⟨w.heap.size + 1, 1, none⟩ = some (.int .i64 sb) ∧ W.cell? ⟨w.heap.size + 1, 2, none⟩ = some (.int .i64 sc)) (first | with_reducible assumption | exact hK12')
            ((first
              | (go_at_call 15; refine (HCp.out _ _ IL IL (Nat.le_refl _) (HA12.out.kept (grown_drew w12 none) (by simp))).mono ?_; rintro e w13 ⟨co3, cc3, rfl, -, h1, hg13⟩; rw [HIt.out] at h1; have HA13 := hide h1; have HGb13 := hide (grown_trans (grown_drew w12 none) hg13); have HG13 := hide (grown_trans HG12.out HGb13.out); have hK13 := HS2.out w13 HG13.out; clear h1 hg13)
              | (go_at_call 14; refine (HGq.out _ _ _ HA13.out).mono ?_; rintro e w14 ⟨rfl, hg14⟩; have HG14 := hide (grown_trans HG13.out hg14); have hK14 := HS2.out w14 HG14.out)))
          have HG14' := hide (grown_trans HG1.out HG14.out)
          obtain ⟨s0, s1, s2⟩ := hK14
          go_wp2_with fail
          refine (HCk.out _).mono ?_
          rintro e w15 ⟨rfl, hg15⟩
          have HG15 := hide (grown_trans HG14'.out hg15)
          obtain ⟨s0, s1, s2⟩ := HS2.out w15 (grown_trans HG14.out hg15)
          obtain ⟨t0, t1, t2⟩ := HS1.out w15 (grown_trans HG14.out hg15)
          clear hK12' hK13 hg15
          go_wp2
          go_ret
          exact ⟨rfl, HG15.out⟩
      · have hne : ¬ ((SS.a : Int) = sa ∧ (SS.b : Int) = sb) := fun h => h5 (h.1.symm.trans HSa.out.1)
        have HCk : Hid (∀ W, Calls Tryz.prog 17 #[.agg #[.int .i64 sa, .int .i64 sb, .int .i64 sc]] W fun e w' => e = .returned (.int .i64 0) ∧ W.grownBy w' none) := fun W => Ge.check_ok _ _ _ hOs W
        have HGq := hide (fun W co cc h => HGs.out W co cc hne hOs h)
        have v1 : (sa != a) = true := by simpa using h5
        have v2 : decide (sa = a) = false := by simpa using h5
        have HOs := hide hOs
        clear hOs hne h5
        go_region_held3 (fun W => W.cell? ⟨w.heap.size + 1, 0, none⟩ = some (.int .i64 sa) ∧ W.cell? ⟨w.heap.size + 1, 1, none⟩ = some (.int .i64 sb) ∧ W.cell? ⟨w.heap.size + 1, 2, none⟩ = some (.int .i64 sc)) (first | with_reducible assumption | exact hK12')
          ((first
            | (go_at_call 15; refine (HCp.out _ _ IL IL (Nat.le_refl _) (HA12.out.kept (grown_drew w12 none) (by simp))).mono ?_; rintro e w13 ⟨co3, cc3, rfl, -, h1, hg13⟩; rw [HIt.out] at h1; have HA13 := hide h1; have HGb13 := hide (grown_trans (grown_drew w12 none) hg13); have HG13 := hide (grown_trans HG12.out HGb13.out); have hK13 := HS2.out w13 HG13.out; clear h1 hg13)
            | (go_at_call 14; refine (HGq.out _ _ _ HA13.out).mono ?_; rintro e w14 ⟨rfl, hg14⟩; have HG14 := hide (grown_trans HG13.out hg14); have hK14 := HS2.out w14 HG14.out)))
        have HG14' := hide (grown_trans HG1.out HG14.out)
        obtain ⟨s0, s1, s2⟩ := hK14
        go_wp2_with fail
        refine (HCk.out _).mono ?_
        rintro e w15 ⟨rfl, hg15⟩
        have HG15 := hide (grown_trans HG14'.out hg15)
        obtain ⟨s0, s1, s2⟩ := HS2.out w15 (grown_trans HG14.out hg15)
        obtain ⟨t0, t1, t2⟩ := HS1.out w15 (grown_trans HG14.out hg15)
        clear hK12' hK13 hg15
        go_wp2
        go_ret
        exact ⟨rfl, HG15.out⟩
    ·
      have HCk : Hid (∀ W, Calls Tryz.prog 17 #[.agg #[.int .i64 sa, .int .i64 sb, .int .i64 sc]] W fun e w' => e = .returned (.int .i64 90) ∧ W.grownBy w' none) := fun W => Ge.check_no _ _ _ hOs W
      have HGq := hide (fun W co cc h => HGb.out W co cc hOs h)
      clear hOs
      go_region_held3 (fun W => W.cell? ⟨w.heap.size + 1, 0, none⟩ = some (.int .i64 sa) ∧ W.cell? ⟨w.heap.size + 1, 1, none⟩ = some (.int .i64 sb) ∧ W.cell? ⟨w.heap.size + 1, 2, none⟩ = some (.int .i64 sc)) (first | with_reducible assumption | exact hK12')
        ((first
          | (go_at_call 15; refine (HCp.out _ _ IL IL (Nat.le_refl _) (HA12.out.kept (grown_drew w12 none) (by simp))).mono ?_; rintro e w13 ⟨co3, cc3, rfl, -, h1, hg13⟩; rw [HIt.out] at h1; have HA13 := hide h1; have HGb13 := hide (grown_trans (grown_drew w12 none) hg13); have HG13 := hide (grown_trans HG12.out HGb13.out); have hK13 := HS2.out w13 HG13.out; clear h1 hg13)
          | (go_at_call 14; refine (HGq.out _ _ _ HA13.out).mono ?_; rintro e w14 ⟨rfl, hg14⟩; have HG14 := hide (grown_trans HG13.out hg14); have hK14 := HS2.out w14 HG14.out)))
      have HG14' := hide (grown_trans HG1.out HG14.out)
      obtain ⟨s0, s1, s2⟩ := hK14
      go_wp2_with fail
      refine (HCk.out _).mono ?_
      rintro e w15 ⟨rfl, hg15⟩
      have HG15 := hide (grown_trans HG14'.out hg15)
      clear hK12' hK13 hg15
      go_wp2
      go_ret
      exact ⟨rfl, HG15.out⟩

end Go.Proofs.YtahjckcfcdnlmaaGreat
