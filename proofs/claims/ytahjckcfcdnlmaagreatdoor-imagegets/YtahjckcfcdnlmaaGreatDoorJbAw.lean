/- Texts joined: ImC. -/
import Derived.Test.YtahjckcfcdnlmaaGreatDoorJbAv
import Derived.Test.YtahjckcfcdnlmaaGreatDoorJbAt
import Derived.Test.YtahjckcfcdnlmaaGreatDoorJbAn
/- ImageBack: there and back, and on. -/
namespace Go.Proofs.YtahjckcfcdnlmaaGreatDoor
open Go.RowKit
attribute [local go_sem ↓] Go.wp_at_zero Go.wp_at_succ
attribute [local go_sem] Oper.semAt_some
theorem nodup_lt : ∀ (a : Nat) (l : List Nat), l.Nodup → (∀ x ∈ l, x < a) → l.length ≤ a
  | 0, l, _, h => by
    cases l with
    | nil => simp
    | cons x r => exact absurd (h x List.mem_cons_self) (by omega)
  | a + 1, l, hn, h => by
    by_cases hm : a ∈ l
    · have h1 := nodup_lt a (l.erase a) (hn.erase a) (fun x hx => by
        have h2 := h x (List.mem_of_mem_erase hx)
        have h3 := (hn.mem_erase_iff.1 hx).1
        omega)
      rw [List.length_erase_of_mem hm] at h1
      omega
    · have := nodup_lt a l hn (fun x hx => by
        have h2 := h x hx
        have : x ≠ a := fun e => hm (e ▸ hx)
        omega)
      omega
theorem Sb.Ok.fewA {S : Sb} (h : S.Ok) : S.L.length ≤ S.a := by
  have := nodup_lt S.a (S.L.map (·.s)) (by
    have := h.one
    unfold OneS at this
    exact List.pairwise_map.2 this) (by
    intro x hx
    obtain ⟨y, hy, rfl⟩ := List.mem_map.1 hx
    exact h.st y hy)
  simpa using this
theorem img_fits {S : Sb} (h : S.Ok) : ((img S).length : Int) ≤ Gx.img S.a S.b := by
  have h1 := h.fewA; have h2 := h.few
  rw [img_length]
  unfold Gx.img Gx.lo
  split <;> omega
/-- Two books side by side that say the same. -/
structure Bks (w W : World) (x y : Nat) (S : Sb) (K : Nat) : Prop where
  ex : ∃ p q, Lk w W x S K p [] ∧ Lk w W y S K q [] ∧ ∀ i, p.own i → ¬ q.own i
theorem Bks.then {w W W' : World} {x y : Nat} {S : Sb} {K : Nat} (h : Bks w W x y S K) (g : W.grownBy W' none) : Bks w W' x y S K := by
  obtain ⟨p, q, h1, h2, h3⟩ := h.ex
  exact ⟨p, q, h1.then g, h2.then g, h3⟩
theorem Bks.gr {w W : World} {x y : Nat} {S : Sb} {K : Nat} (h : Bks w W x y S K) : w.grownBy W none := by
  obtain ⟨p, q, h1, h2, h3⟩ := h.ex
  exact h1.gr
/-- Behind the first one's change. -/
structure Bkm (w W : World) (x y : Nat) (S S' : Sb) (K : Nat) : Prop where
  ex : ∃ p q, Lk w W x S' (K + 1) p [] ∧ Lk w W y S K q [] ∧ ∀ i, p.own i → ¬ q.own i
theorem Bkm.then {w W W' : World} {x y : Nat} {S S' : Sb} {K : Nat} (h : Bkm w W x y S S' K) (g : W.grownBy W' none) : Bkm w W' x y S S' K := by
  obtain ⟨p, q, h1, h2, h3⟩ := h.ex
  exact ⟨p, q, h1.then g, h2.then g, h3⟩
theorem Bkm.gr {w W : World} {x y : Nat} {S S' : Sb} {K : Nat} (h : Bkm w W x y S S' K) : w.grownBy W none := by
  obtain ⟨p, q, h1, h2, h3⟩ := h.ex
  exact h1.gr
theorem Bks.first {w W : World} {x y : Nat} {S : Sb} {K : Nat} (h : Bks w W x y S K) (ho : S.Ok) (hK : K ≤ 10000000) (hT : Rk.Tab w) (r : Rc) (hr : r.Ok) : Calls Tryz.prog 12 #[.pointer (some ⟨x, 0, none⟩), Rk.rcV r] W fun e w' => e = .returned (.int .i64 (appE S r)) ∧ Bkm w w' x y S (app S r) K := by
  obtain ⟨p, q, h1, h2, h3⟩ := h.ex
  refine (h1.apply ho hK hT r hr).mono ?_
  rintro e w' ⟨rfl, p', k1, k2⟩
  obtain ⟨k3, k4⟩ := h2.beside h1 (fun i hi hj => h3 i hj hi) k2
  exact ⟨rfl, p', q, k1, k3, fun i hi hj => k4 i hj hi⟩
theorem Bkm.second {w W : World} {x y : Nat} {S : Sb} {K : Nat} {r : Rc} (h : Bkm w W x y S (app S r) K) (ho : S.Ok) (hK : K ≤ 10000000) (hT : Rk.Tab w) (hr : r.Ok) : Calls Tryz.prog 12 #[.pointer (some ⟨y, 0, none⟩), Rk.rcV r] W fun e w' => e = .returned (.int .i64 (appE S r)) ∧ Bks w w' x y (app S r) (K + 1) := by
  obtain ⟨p, q, h1, h2, h3⟩ := h.ex
  refine (h2.apply ho hK hT r hr).mono ?_
  rintro e w' ⟨rfl, q', k1, k2⟩
  obtain ⟨k3, k4⟩ := h1.beside h2 h3 k2
  exact ⟨rfl, p, q', k3, k1, k4⟩
theorem Bks.same {w W : World} {x y : Nat} {S : Sb} {K : Nat} (h : Bks w W x y S K) (ho : S.Ok) : Calls Tryz.prog 19 #[.pointer (some ⟨x, 0, none⟩), .pointer (some ⟨y, 0, none⟩)] W fun e w' => e = .returned (.bool true) ∧ Bks w w' x y S K := by
  obtain ⟨p, q, h1, h2, h3⟩ := h.ex
  refine (h1.same h2 ho.wk).mono ?_
  rintro e w' ⟨rfl, g⟩
  exact ⟨rfl, p, q, h1.then g, h2.then g, h3⟩
/-- The book behind the first records. -/
def appN (S : Sb) (rs : List Rc) (j : Nat) : Sb := (rs.take j).foldl app S
theorem appN_succ {S : Sb} {rs : List Rc} {j : Nat} {r : Rc} (h : rs[j]? = some r) : appN S rs (j + 1) = app (appN S rs j) r := by
  unfold appN
  rw [List.take_add_one, h]
  simp
theorem appN_ok {S : Sb} (h : S.Ok) (rs : List Rc) : ∀ j, (appN S rs j).Ok := by
  intro j
  induction j with
  | zero => simpa [appN] using h
  | succ j ih =>
    cases hr : rs[j]? with
    | none =>
      have : rs.take (j + 1) = rs.take j := by rw [List.take_add_one, hr]; simp
      unfold appN at ih ⊢
      rw [this]; exact ih
    | some r => rw [appN_succ hr]; exact ih.app r
set_option maxRecDepth 20000 in
set_option maxHeartbeats 32000000 in
theorem back_any {w : World} {a b c t : Int} {n : Nat} {ao : Option Addr} {len cap : Nat} {X : List Bw} (hl : X.length = len) (h : BwC w ao X) (hnil : ao = none → len = 0 ∧ cap = 0) (hb : len ≤ 5864062014800) (hn : n < 4294967296)
    {bo : Option Addr} {bl bc : Nat} {xs : List Int} (hbl : xs.length = bl) (hat : Oc.At w bo xs) (hB : Oc.Byt xs) (hbn : bo = none → bl = 0 ∧ bc = 0) (hbb : bl ≤ 140737488351232)
    {ro : Option Addr} {rl rc : Nat} {rs : List Rc} (hrl : rs.length = rl) (hrm : rl ≤ 9223372036854775807) (hR : RecsAt w ro rs) (hO : ∀ r ∈ rs, r.Ok) (hT : Rk.Tab w) :
    Calls Tryz.prog 4 #[askV a b c n t ao len cap, .slice bo bl bc, .slice ro rl rc] w fun e w' => e = .returned (.bool true) ∧ w.grownBy w' none := by
  have HAw : Hid (∀ W, Calls Tryz.prog 9 #[] W fun e w' => e = .returned (.bool true) ∧ W.grownBy w' none) := fun W => awake_any W
  have HCp : Hid (∀ W, w.grownBy W none → Calls Tryz.prog 14 #[.slice bo bl bc] W fun e w' => ∃ co cc, e = .returned (.slice co bl cc) ∧ Oc.At w' co xs ∧ (co = none → bl = 0 ∧ cc = 0) ∧ bl ≤ cc ∧ cc ≤ maxLen ∧ W.grownBy w' none) := by
    intro W hW
    refine (Oc.copy_any bo bl bc xs W hbl (hat.kept hW (by simp)) hbn (by omega)).mono ?_
    rintro e w' ⟨v, rfl, h1, h2⟩
    obtain ⟨co, cc, rfl, hl', hnc, hcm, hat', hnil', _⟩ := Oc.own_at h1
    exact ⟨co, cc, rfl, hat', hnil', hnc, hcm, h2⟩
  have HGy : Hid (∀ W co cc, GetOk a b c xs → Oc.At W co xs ∧ (co = none → bl = 0 ∧ cc = 0) ∧ bl ≤ cc ∧ cc ≤ maxLen → Calls Tryz.prog 6 #[.agg #[.int .i64 a, .int .i64 b, .int .i64 c], .slice co bl cc] W fun e w' => ∃ x p, e = .returned (.tuple #[.pointer (some ⟨x, 0, none⟩), .int .i64 0]) ∧ Lk W w' x (getS a b c xs) 4096 p []) := fun W co cc hG h => get_yes hbl h.1 hB h.2.1 h.2.2.1 h.2.2.2 hG
  have HGn : Hid (∀ W co cc, ¬ GetOk a b c xs → Oc.At W co xs ∧ (co = none → bl = 0 ∧ cc = 0) ∧ bl ≤ cc ∧ cc ≤ maxLen → Calls Tryz.prog 6 #[.agg #[.int .i64 a, .int .i64 b, .int .i64 c], .slice co bl cc] W fun e w' => ∃ E, e = .returned (.tuple #[.pointer none, .int .i64 E]) ∧ (E == 0) = false ∧ W.grownBy w' none) := by
    intro W co cc hG h
    refine (get_no hbl h.1 hB h.2.1 h.2.2.1 h.2.2.2 hG).mono ?_
    rintro e w' ⟨rfl, g⟩
    refine ⟨_, rfl, ?_, g⟩
    unfold getE
    repeat' split
    all_goals rfl
  have HPg : Hid (∀ w0 W x p, GetOk a b c xs → Lk w0 W x (getS a b c xs) 4096 p [] → Calls Tryz.prog 15 #[.pointer (some ⟨x, 0, none⟩)] W fun e w' => ∃ B, e = .returned (.tuple #[.slice (some ⟨B, 0, none⟩) bl bl, .int .i64 0]) ∧ Oc.At w' (some ⟨B, 0, none⟩) xs ∧ W.grownBy w' none) := by
    intro w0 W x p hG hk
    have := put_any hk.bk (getS_ok hB hG)
    rw [hk.eb, img_get hB hG, hbl] at this
    refine this.mono ?_
    rintro e w' ⟨B, rfl, h1, _, h2⟩
    exact ⟨B, rfl, Oc.at_row h1, h2⟩
  have HSb : Hid (∀ W B, w.grownBy W none → Oc.At W (some ⟨B, 0, none⟩) xs → Calls Tryz.prog 16 #[.slice bo bl bc, .slice (some ⟨B, 0, none⟩) bl bl] W fun e w' => e = .returned (.bool true) ∧ W.grownBy w' none) := fun W B hW h1 => Oc.same_eq bo _ bl bc bl xs W hbl (hat.kept hW (by simp)) h1 (by omega)
  have HMn : Hid (∀ W, w.grownBy W none → ¬ Right a b c n t X → Calls Tryz.prog 17 #[.agg #[.int .i64 a, .int .i64 b, .int .i64 c, .int .u32 (n : Int), .int .i64 t, .slice ao len cap]] W fun e w' => ∃ E, e = .returned (.tuple #[.pointer none, .int .i64 E]) ∧ (E != 0) = true ∧ W.grownBy w' none) := by
    intro W hW hRt
    refine (made_no hl (h.then hW) hnil hb hn hRt).mono ?_
    rintro e w' ⟨rfl, g⟩
    refine ⟨_, rfl, ?_, g⟩
    unfold ofE
    split <;> rfl
  have HMy : Hid (∀ W, w.grownBy W none → Right a b c n t X → Calls Tryz.prog 17 #[.agg #[.int .i64 a, .int .i64 b, .int .i64 c, .int .u32 (n : Int), .int .i64 t, .slice ao len cap]] W fun e w' => ∃ x p, e = .returned (.tuple #[.pointer (some ⟨x, 0, none⟩), .int .i64 0]) ∧ Lk w w' x ⟨a.toNat, b.toNat, c.toNat, n, t, X.map Bw.bg⟩ 4096 p [] ∧ W.grownBy w' none) := by
    intro W hW hRt
    refine (made_yes hl (h.then hW) hnil hb hn hRt).mono ?_
    rintro e w' ⟨x, p, rfl, hk⟩
    exact ⟨x, p, rfl, hk.wide hW, hk.gr⟩
  have HTb := hide hT
  have HRs : Hid (∀ W, w.grownBy W none → RecsAt W ro rs) := fun W hW => hR.grown hW
  have HOk := hide hO
  have HRl := hide (And.intro hrl hn)
  have hx := ask6.new w 48 (.int .i64 a) (.int .i64 b) (.int .i64 c) (.int .u32 (n : Int)) (.int .i64 t) (.slice ao len cap)
  have hw0 := grown_alloc w (.cells [.int .i64 a, .int .i64 b, .int .i64 c, .int .u32 (n : Int), .int .i64 t, .slice ao len cap].toArray 48)
  have HX := hide hx
  have HG := hide hw0
  clear hx hw0 h hl hnil hb hn hbl hat hB hbn hbb hrl hR hO hT
  unfold askV
  go_enter Tryz.func4, Tryz.ntmps4
  go_wp2_with fail
  generalize World.alloc w _ = w0 at *
  refine (HAw.out _).mono ?_
  rintro e w1 ⟨rfl, hg1⟩
  have HG1 := hide (grown_trans HG.out hg1)
  have HK1 : Hid (∀ W, w1.grownBy W none → ask6 W w.heap.size (.int .i64 a) (.int .i64 b) (.int .i64 c) (.int .u32 (n : Int)) (.int .i64 t) (.slice ao len cap)) := fun W g => HX.out.then (grown_trans hg1 g)
  have HS1 : Hid (∀ W, w1.grownBy W none → W.cell? ⟨w.heap.size, 0, none⟩ = some (.int .i64 a) ∧ W.cell? ⟨w.heap.size, 1, none⟩ = some (.int .i64 b) ∧ W.cell? ⟨w.heap.size, 2, none⟩ = some (.int .i64 c)) := fun W g => by have := HK1.out W g; exact ⟨this.1, this.2.1, this.2.2.1⟩
  have hK0 := HS1.out w1.drew (grown_drew w1 none)
  clear hg1 HAw HX HG
  go_wp2
  by_cases hGk : GetOk a b c xs
  · have HGg := hide (fun W co cc h => HGy.out W co cc hGk h)
    have HPp := hide (fun w0 W x p h => HPg.out w0 W x p hGk h)
    clear HGy HGn HPg hGk
    go_region_held3 (fun W => W.cell? ⟨w.heap.size, 0, none⟩ = some (.int .i64 a) ∧ W.cell? ⟨w.heap.size, 1, none⟩ = some (.int .i64 b) ∧ W.cell? ⟨w.heap.size, 2, none⟩ = some (.int .i64 c)) (first | with_reducible assumption | exact hK0)
      ((first
        | (go_at_call 14; refine (HCp.out _ (gn_drew HG1.out)).mono ?_; rintro e w2 ⟨co, cc, rfl, h1, h2, h3, h4, hg2⟩; have HA2 := hide (And.intro h1 (And.intro h2 (And.intro h3 h4))); have HG2' := hide (grown_trans (grown_drew w1 none) hg2); have hK2 := HS1.out w2 HG2'.out; clear h1 h2 h3 h4 hg2)
        | (go_at_call 6; refine (HGg.out _ _ _ HA2.out).mono ?_; rintro e w3 ⟨x0, p0, rfl, hk3⟩; have HK3 := hide hk3; have HG3 := hide (grown_trans HG2'.out hk3.gr); have hK3 := HS1.out w3 HG3.out; clear hk3)))
    clear hK0 hK2 hK3 HA2
    go_wp2_with fail
    refine (HPp.out _ _ _ _ HK3.out).mono ?_
    rintro e w4 ⟨B, rfl, ha4, hg4⟩
    have HG4 := hide (grown_trans HG3.out hg4)
    have HSS := hide (HSb.out w4 B (grown_trans HG1.out HG4.out) ha4)
    clear ha4 hg4 HK3
    go_wp2_with fail
    refine HSS.out.mono ?_
    rintro e w5 ⟨rfl, hg5⟩
    have HGc : Hid (w1.grownBy w5 none) := grown_trans HG4.out hg5
    clear hg5 HSS HG4 HG3 HG2'
    obtain ⟨d0, d1, d2, d3, d4, d5⟩ := HK1.out _ HGc.out
    have HGwc := hide (grown_trans HG1.out HGc.out)
    by_cases hRt : Right a b c n t X
    · have HRt := hide hRt
      have HM := hide (HMy.out _ HGwc.out hRt)
      have HSok := hide (hRt.ok HRl.out.2)
      obtain ⟨en1, en2, en3⟩ := hRt.nat
      have hsh := hRt.1
      have HPc : Hid (∀ w0 W x p, Lk w0 W x ⟨a.toNat, b.toNat, c.toNat, n, t, X.map Bw.bg⟩ 4096 p [] → Calls Tryz.prog 15 #[.pointer (some ⟨x, 0, none⟩)] W fun e w' => ∃ B, e = .returned (.tuple #[.slice (some ⟨B, 0, none⟩) (img ⟨a.toNat, b.toNat, c.toNat, n, t, X.map Bw.bg⟩).length (img ⟨a.toNat, b.toNat, c.toNat, n, t, X.map Bw.bg⟩).length, .int .i64 0]) ∧ Oc.At w' (some ⟨B, 0, none⟩) (img ⟨a.toNat, b.toNat, c.toNat, n, t, X.map Bw.bg⟩) ∧ W.grownBy w' none) := by
        intro w0 W x p hk
        have := put_any hk.bk HSok.out
        rw [hk.eb] at this
        refine this.mono ?_
        rintro e w' ⟨B, rfl, h1, _, h2⟩
        exact ⟨B, rfl, Oc.at_row h1, h2⟩
      have HIm : Hid (∀ W, Calls Tryz.prog 18 #[.agg #[.int .i64 a, .int .i64 b, .int .i64 c]] W fun e w' => ∃ M, e = .returned (.tuple #[.int .i64 M, .int .i64 0]) ∧ ((img ⟨a.toNat, b.toNat, c.toNat, n, t, X.map Bw.bg⟩).length : Int) ≤ M ∧ W.grownBy w' none) := by
        intro W
        refine (Ge.image_ok a b c hsh W).mono ?_
        rintro e w' ⟨rfl, g⟩
        refine ⟨_, rfl, ?_, g⟩
        have := img_fits HSok.out
        simp only at this
        rw [en1, en2] at this
        exact this
      have hil : (img ⟨a.toNat, b.toNat, c.toNat, n, t, X.map Bw.bg⟩).length ≤ 100000 := by
        have h1 := HSok.out.few; have h2 := HSok.out.b1
        rw [img_length]
        simp only at h1 h2 ⊢
        omega
      have HC2 : Hid (∀ W G, Oc.At W (some ⟨G, 0, none⟩) (img ⟨a.toNat, b.toNat, c.toNat, n, t, X.map Bw.bg⟩) → Calls Tryz.prog 14 #[.slice (some ⟨G, 0, none⟩) (img ⟨a.toNat, b.toNat, c.toNat, n, t, X.map Bw.bg⟩).length (img ⟨a.toNat, b.toNat, c.toNat, n, t, X.map Bw.bg⟩).length] W fun e w' => ∃ co cc, e = .returned (.slice co (img ⟨a.toNat, b.toNat, c.toNat, n, t, X.map Bw.bg⟩).length cc) ∧ (Oc.At w' co (img ⟨a.toNat, b.toNat, c.toNat, n, t, X.map Bw.bg⟩) ∧ (co = none → (img ⟨a.toNat, b.toNat, c.toNat, n, t, X.map Bw.bg⟩).length = 0 ∧ cc = 0) ∧ (img ⟨a.toNat, b.toNat, c.toNat, n, t, X.map Bw.bg⟩).length ≤ cc ∧ cc ≤ maxLen) ∧ W.grownBy w' none) := by
        intro W G h1
        refine (Oc.copy_any (some ⟨G, 0, none⟩) _ _ _ W rfl h1 (fun e => by cases e) (by omega)).mono ?_
        rintro e w' ⟨v, rfl, h1, h2⟩
        obtain ⟨co, cc, rfl, hl', hnc, hcm, hat', hnil', _⟩ := Oc.own_at h1
        exact ⟨co, cc, rfl, ⟨hat', hnil', hnc, hcm⟩, h2⟩
      have HG2 : Hid (∀ W co cc, Oc.At W co (img ⟨a.toNat, b.toNat, c.toNat, n, t, X.map Bw.bg⟩) ∧ (co = none → (img ⟨a.toNat, b.toNat, c.toNat, n, t, X.map Bw.bg⟩).length = 0 ∧ cc = 0) ∧ (img ⟨a.toNat, b.toNat, c.toNat, n, t, X.map Bw.bg⟩).length ≤ cc ∧ cc ≤ maxLen → Calls Tryz.prog 6 #[.agg #[.int .i64 a, .int .i64 b, .int .i64 c], .slice co (img ⟨a.toNat, b.toNat, c.toNat, n, t, X.map Bw.bg⟩).length cc] W fun e w' => ∃ x p, e = .returned (.tuple #[.pointer (some ⟨x, 0, none⟩), .int .i64 0]) ∧ Lk W w' x ⟨a.toNat, b.toNat, c.toNat, n, t, X.map Bw.bg⟩ 4096 p []) := by
        intro W co cc h
        have hg := get_img HSok.out (a := a) (b := b) (c := c) en1 en2 (by unfold Gx.OkS at hsh; omega)
        have := get_yes (a := a) (b := b) (c := c) rfl h.1 (byt_img _) h.2.1 h.2.2.1 h.2.2.2 hg.1
        rw [hg.2] at this
        exact this
      clear hRt HMy HMn en1 en2 en3 hsh
      generalize hSS : (⟨a.toNat, b.toNat, c.toNat, n, t, X.map Bw.bg⟩ : Sb) = SS at *
      generalize hil2 : (img SS).length = IL at *
      generalize img SS = im at *
      clear hSS hil2
      go_wp2_with fail
      refine HM.out.mono ?_
      rintro e w6 ⟨x, p, rfl, hk6, hg6⟩
      have HK6 := hide hk6
      have HG6 := hide (grown_trans HGc.out hg6)
      clear hk6 hg6 HM d0 d1 d2 d3 d4 d5
      go_wp2_with fail
      refine (HPc.out _ _ _ _ HK6.out).mono ?_
      rintro e w7 ⟨G, rfl, ha7, hg7⟩
      have HA7 := hide ha7
      have HK7 := hide (HK6.out.then hg7)
      have HG7 := hide (grown_trans HG6.out hg7)
      obtain ⟨d0, d1, d2⟩ := HS1.out _ HG7.out
      clear ha7 hg7 HPc HK6
      go_wp2_with fail
      refine (HIm.out _).mono ?_
      rintro e w8 ⟨M, rfl, hM, hg8⟩
      have HM8 := hide hM
      have HA8 := hide (HA7.out.kept hg8 (by simp))
      have HK8 := hide (HK7.out.then hg8)
      have HG8 := hide (grown_trans HG7.out hg8)
      have HA8d : Hid (Oc.At w8.drew (some ⟨G, 0, none⟩) im) := HA8.out.kept (grown_drew w8 none) (by simp)
      have hK8 := HS1.out w8.drew (gn_drew HG8.out)
      have hM' : ¬ M < (IL : Int) := by omega
      clear hg8 HIm HA7 HK7 d0 d1 d2 hM
      go_wp2
      go_region_held3 (fun W => W.cell? ⟨w.heap.size, 0, none⟩ = some (.int .i64 a) ∧ W.cell? ⟨w.heap.size, 1, none⟩ = some (.int .i64 b) ∧ W.cell? ⟨w.heap.size, 2, none⟩ = some (.int .i64 c)) (first | with_reducible assumption | exact hK8)
        ((first
          | (go_at_call 14; refine (HC2.out _ _ HA8d.out).mono ?_; rintro e w9 ⟨co, cc, rfl, h1, hg9⟩; have HA9 := hide h1; have HG9 := hide (grown_trans (gn_drew HG8.out) hg9); have HGb9 := hide (grown_trans (grown_drew w8 none) hg9); have hK9 := HS1.out w9 HG9.out; clear h1 hg9)
          | (go_at_call 6; refine (HG2.out _ _ _ HA9.out).mono ?_; rintro e w10 ⟨y, q, rfl, hkA⟩; have HKA := hide hkA; have HG10 := hide (grown_trans HG9.out hkA.gr); have HGb10 := hide (grown_trans HGb9.out hkA.gr); have hK10 := HS1.out w10 HG10.out; clear hkA)))
      have HBk : Hid (Bks w w10 x y (appN SS rs 0) 4096) := by
        refine ⟨p, q, ?_, ?_, fun i hi hj => ?_⟩
        · simpa [appN] using HK8.out.then HGb10.out
        · have := HKA.out.wide (grown_trans HG1.out HG9.out)
          simpa [appN] using this
        · have h1 := HK8.out.bk.lt i hi
          have h2 := HKA.out.own i hj
          have h3 := HGb9.out.size
          omega
      have HAll : Hid (∀ j, (appN SS rs j).Ok) := appN_ok HSok.out rs
      have HSm := hide (HBk.out.same (HAll.out 0))
      clear hK8 hK9 hK10 HA9 HA8 HA8d HC2 HG2 HKA HK8 HS1 HK1
      go_wp2_with fail
      refine HSm.out.mono ?_
      rintro e w11 ⟨rfl, hbk⟩
      have HB11 := hide hbk
      clear hbk HSm HBk
      go_wp2
      obtain ⟨m60, hm60⟩ : ∃ m60 : Nat, m60 = min rl 60 := ⟨_, rfl⟩
      have HM60 := hide hm60
      clear hm60
      go_loopg [19] m60 (fun k i wr => ∃ j : Nat, k + j = m60 ∧ i = .int .i64 j ∧ Hid (Bks w wr x y (appN SS rs j) (4096 + j)))
      case atStart => exact ⟨0, by omega, rfl, HB11.out⟩
      case round =>
        clear HB11
        obtain ⟨j, hkj, rfl, HQ⟩ := hrel
        have hm := HM60.out
        by_cases hk : 0 < gk
        · have hj : j < rs.length := by rw [HRl.out.1]; omega
          have hj60 : (j : Int) < 60 := by omega
          have hjr : (j : Int) < (rl : Int) := by omega
          have hj0 : (0 : Int) ≤ (j : Int) := by omega
          obtain ⟨r, hr⟩ : ∃ r, rs[j]? = some r := ⟨_, List.getElem?_eq_getElem hj⟩
          have hrk : r.Ok := HOk.out r (List.mem_of_getElem? hr)
          obtain ⟨blk, off, hro, hr0, hr1, hr2, hr3, hr4⟩ := HRs.out w (grown_refl _ _) j r hr
          have HC : Hid (∀ W, w.grownBy W none → W.cell? ⟨blk, off + j * 5, none⟩ = some (.int .i64 r.k) ∧ W.cell? ⟨blk, off + j * 5 + 1, none⟩ = some (.int .u32 r.i) ∧ W.cell? ⟨blk, off + j * 5 + 2, none⟩ = some (.int .i64 r.s) ∧ W.cell? ⟨blk, off + j * 5 + 3, none⟩ = some (.int .i64 r.u) ∧ W.cell? ⟨blk, off + j * 5 + 4, none⟩ = some (.int .i64 r.c)) := fun W g => ⟨g.cell hr0 (by simp), g.cell hr1 (by simp), g.cell hr2 (by simp), g.cell hr3 (by simp), g.cell hr4 (by simp)⟩
          subst hro
          have HAp1 : Hid (Calls Tryz.prog 12 #[.pointer (some ⟨x, 0, none⟩), Rk.rcV r] wr.drew fun e w' => e = .returned (.int .i64 (appE (appN SS rs j) r)) ∧ Bkm w w' x y (appN SS rs j) (app (appN SS rs j) r) (4096 + j)) := (HQ.out.then (grown_drew wr none)).first (HAll.out j) (by omega) HTb.out r hrk
          have HAp2 : Hid (∀ W, Bkm w W x y (appN SS rs j) (app (appN SS rs j) r) (4096 + j) → Calls Tryz.prog 12 #[.pointer (some ⟨y, 0, none⟩), Rk.rcV r] W fun e w' => e = .returned (.int .i64 (appE (appN SS rs j) r)) ∧ Bks w w' x y (appN SS rs (j + 1)) (4096 + (j + 1))) := by
            intro W hW
            rw [appN_succ hr]
            exact hW.second (HAll.out j) (by omega) HTb.out hrk
          have HSm : Hid (∀ W, Bks w W x y (appN SS rs (j + 1)) (4096 + (j + 1)) → Calls Tryz.prog 19 #[.pointer (some ⟨x, 0, none⟩), .pointer (some ⟨y, 0, none⟩)] W fun e w' => e = .returned (.bool true) ∧ Bks w w' x y (appN SS rs (j + 1)) (4096 + (j + 1))) := fun W hW => hW.same (HAll.out (j + 1))
          have hK0 := HC.out wr.drew (gn_drew HQ.out.gr)
          unfold Rk.rcV at HAp1 HAp2
          generalize appE (appN SS rs j) r = E at *
          generalize app (appN SS rs j) r = S2 at *
          obtain ⟨rk, ri, rrs, ru, rrc⟩ := r
          simp only at HC HAp1 HAp2 hK0
          clear hr hrk hr0 hr1 hr2 hr3 hr4 hm hj
          go_wp2
          go_region_held3 (fun W => W.cell? ⟨blk, off + j * 5, none⟩ = some (.int .i64 rk) ∧ W.cell? ⟨blk, off + j * 5 + 1, none⟩ = some (.int .u32 ri) ∧ W.cell? ⟨blk, off + j * 5 + 2, none⟩ = some (.int .i64 rrs) ∧ W.cell? ⟨blk, off + j * 5 + 3, none⟩ = some (.int .i64 ru) ∧ W.cell? ⟨blk, off + j * 5 + 4, none⟩ = some (.int .i64 rrc)) (first | with_reducible assumption | exact hK0)
            ((first
              | (go_at_call_of 12 (Value.pointer (some ⟨x, 0, none⟩)); refine HAp1.out.mono ?_; rintro e w12 ⟨rfl, hb12⟩; have HB12 := hide hb12; have hK12 := HC.out w12 hb12.gr; clear hb12)
              | (go_at_call_of 12 (Value.pointer (some ⟨y, 0, none⟩)); refine (HAp2.out _ HB12.out).mono ?_; rintro e w13 ⟨rfl, hb13⟩; have HB13 := hide hb13; have hK13 := HC.out w13 hb13.gr; clear hb13)
              | (go_at_call 19; refine (HSm.out _ HB13.out).mono ?_; rintro e w14 ⟨rfl, hb14⟩; have HB14 := hide hb14; have hK14 := HC.out w14 hb14.gr; clear hb14)))
          go_wp2
          go_roundg (gk - 1)
          case measure => omega
          case rel => exact ⟨j + 1, by omega, by go_num, HB14.out⟩
        · have hje : j = m60 := by omega
          by_cases h60 : rl < 60
          · have e1 : ¬ (j : Int) < (rl : Int) := by omega
            go_wp2
            go_ret
            exact ⟨rfl, HQ.out.gr⟩
          · have e1 : (j : Int) = 60 := by omega
            have e2 : ¬ (j : Int) < 60 := by omega
            by_cases h61 : (j : Int) < (rl : Int)
            · clear e1 hm
              go_wp2
              go_ret
              exact ⟨rfl, HQ.out.gr⟩
            · clear e1 hm
              go_wp2
              go_ret
              exact ⟨rfl, HQ.out.gr⟩
    · have HM := hide (HMn.out _ HGwc.out hRt)
      clear hRt HMy HMn
      go_wp2_with fail
      refine HM.out.mono ?_
      rintro e w6 ⟨E, rfl, hE, hg6⟩
      have HG6 := hide (grown_trans HGwc.out hg6)
      clear hg6
      go_wp2
      go_ret
      exact ⟨rfl, HG6.out⟩
  · have HGg := hide (fun W co cc h => HGn.out W co cc hGk h)
    clear HGy HGn HPg hGk
    go_region_held3 (fun W => W.cell? ⟨w.heap.size, 0, none⟩ = some (.int .i64 a) ∧ W.cell? ⟨w.heap.size, 1, none⟩ = some (.int .i64 b) ∧ W.cell? ⟨w.heap.size, 2, none⟩ = some (.int .i64 c)) (first | with_reducible assumption | exact hK0)
      ((first
        | (go_at_call 14; refine (HCp.out _ (gn_drew HG1.out)).mono ?_; rintro e w2 ⟨co, cc, rfl, h1, h2, h3, h4, hg2⟩; have HA2 := hide (And.intro h1 (And.intro h2 (And.intro h3 h4))); have HG2' := hide (grown_trans (grown_drew w1 none) hg2); have hK2 := HS1.out w2 HG2'.out; clear h1 h2 h3 h4 hg2)
        | (go_at_call 6; refine (HGg.out _ _ _ HA2.out).mono ?_; rintro e w3 ⟨E0, rfl, hE0, hg3⟩; have HG3 := hide (grown_trans HG2'.out hg3); have hK3 := HS1.out w3 HG3.out; clear hg3)))
    clear hK0 hK2 hK3 HA2
    have HGc : Hid (w1.grownBy w3 none) := HG3.out
    clear HG3 HG2'
    obtain ⟨d0, d1, d2, d3, d4, d5⟩ := HK1.out _ HGc.out
    have HGwc := hide (grown_trans HG1.out HGc.out)
    by_cases hRt : Right a b c n t X
    · have HRt := hide hRt
      have HM := hide (HMy.out _ HGwc.out hRt)
      have HSok := hide (hRt.ok HRl.out.2)
      obtain ⟨en1, en2, en3⟩ := hRt.nat
      have hsh := hRt.1
      have HPc : Hid (∀ w0 W x p, Lk w0 W x ⟨a.toNat, b.toNat, c.toNat, n, t, X.map Bw.bg⟩ 4096 p [] → Calls Tryz.prog 15 #[.pointer (some ⟨x, 0, none⟩)] W fun e w' => ∃ B, e = .returned (.tuple #[.slice (some ⟨B, 0, none⟩) (img ⟨a.toNat, b.toNat, c.toNat, n, t, X.map Bw.bg⟩).length (img ⟨a.toNat, b.toNat, c.toNat, n, t, X.map Bw.bg⟩).length, .int .i64 0]) ∧ Oc.At w' (some ⟨B, 0, none⟩) (img ⟨a.toNat, b.toNat, c.toNat, n, t, X.map Bw.bg⟩) ∧ W.grownBy w' none) := by
        intro w0 W x p hk
        have := put_any hk.bk HSok.out
        rw [hk.eb] at this
        refine this.mono ?_
        rintro e w' ⟨B, rfl, h1, _, h2⟩
        exact ⟨B, rfl, Oc.at_row h1, h2⟩
      have HIm : Hid (∀ W, Calls Tryz.prog 18 #[.agg #[.int .i64 a, .int .i64 b, .int .i64 c]] W fun e w' => ∃ M, e = .returned (.tuple #[.int .i64 M, .int .i64 0]) ∧ ((img ⟨a.toNat, b.toNat, c.toNat, n, t, X.map Bw.bg⟩).length : Int) ≤ M ∧ W.grownBy w' none) := by
        intro W
        refine (Ge.image_ok a b c hsh W).mono ?_
        rintro e w' ⟨rfl, g⟩
        refine ⟨_, rfl, ?_, g⟩
        have := img_fits HSok.out
        simp only at this
        rw [en1, en2] at this
        exact this
      have hil : (img ⟨a.toNat, b.toNat, c.toNat, n, t, X.map Bw.bg⟩).length ≤ 100000 := by
        have h1 := HSok.out.few; have h2 := HSok.out.b1
        rw [img_length]
        simp only at h1 h2 ⊢
        omega
      have HC2 : Hid (∀ W G, Oc.At W (some ⟨G, 0, none⟩) (img ⟨a.toNat, b.toNat, c.toNat, n, t, X.map Bw.bg⟩) → Calls Tryz.prog 14 #[.slice (some ⟨G, 0, none⟩) (img ⟨a.toNat, b.toNat, c.toNat, n, t, X.map Bw.bg⟩).length (img ⟨a.toNat, b.toNat, c.toNat, n, t, X.map Bw.bg⟩).length] W fun e w' => ∃ co cc, e = .returned (.slice co (img ⟨a.toNat, b.toNat, c.toNat, n, t, X.map Bw.bg⟩).length cc) ∧ (Oc.At w' co (img ⟨a.toNat, b.toNat, c.toNat, n, t, X.map Bw.bg⟩) ∧ (co = none → (img ⟨a.toNat, b.toNat, c.toNat, n, t, X.map Bw.bg⟩).length = 0 ∧ cc = 0) ∧ (img ⟨a.toNat, b.toNat, c.toNat, n, t, X.map Bw.bg⟩).length ≤ cc ∧ cc ≤ maxLen) ∧ W.grownBy w' none) := by
        intro W G h1
        refine (Oc.copy_any (some ⟨G, 0, none⟩) _ _ _ W rfl h1 (fun e => by cases e) (by omega)).mono ?_
        rintro e w' ⟨v, rfl, h1, h2⟩
        obtain ⟨co, cc, rfl, hl', hnc, hcm, hat', hnil', _⟩ := Oc.own_at h1
        exact ⟨co, cc, rfl, ⟨hat', hnil', hnc, hcm⟩, h2⟩
      have HG2 : Hid (∀ W co cc, Oc.At W co (img ⟨a.toNat, b.toNat, c.toNat, n, t, X.map Bw.bg⟩) ∧ (co = none → (img ⟨a.toNat, b.toNat, c.toNat, n, t, X.map Bw.bg⟩).length = 0 ∧ cc = 0) ∧ (img ⟨a.toNat, b.toNat, c.toNat, n, t, X.map Bw.bg⟩).length ≤ cc ∧ cc ≤ maxLen → Calls Tryz.prog 6 #[.agg #[.int .i64 a, .int .i64 b, .int .i64 c], .slice co (img ⟨a.toNat, b.toNat, c.toNat, n, t, X.map Bw.bg⟩).length cc] W fun e w' => ∃ x p, e = .returned (.tuple #[.pointer (some ⟨x, 0, none⟩), .int .i64 0]) ∧ Lk W w' x ⟨a.toNat, b.toNat, c.toNat, n, t, X.map Bw.bg⟩ 4096 p []) := by
        intro W co cc h
        have hg := get_img HSok.out (a := a) (b := b) (c := c) en1 en2 (by unfold Gx.OkS at hsh; omega)
        have := get_yes (a := a) (b := b) (c := c) rfl h.1 (byt_img _) h.2.1 h.2.2.1 h.2.2.2 hg.1
        rw [hg.2] at this
        exact this
      clear hRt HMy HMn en1 en2 en3 hsh
      generalize hSS : (⟨a.toNat, b.toNat, c.toNat, n, t, X.map Bw.bg⟩ : Sb) = SS at *
      generalize hil2 : (img SS).length = IL at *
      generalize img SS = im at *
      clear hSS hil2
      go_wp2_with fail
      refine HM.out.mono ?_
      rintro e w6 ⟨x, p, rfl, hk6, hg6⟩
      have HK6 := hide hk6
      have HG6 := hide (grown_trans HGc.out hg6)
      clear hk6 hg6 HM d0 d1 d2 d3 d4 d5
      go_wp2_with fail
      refine (HPc.out _ _ _ _ HK6.out).mono ?_
      rintro e w7 ⟨G, rfl, ha7, hg7⟩
      have HA7 := hide ha7
      have HK7 := hide (HK6.out.then hg7)
      have HG7 := hide (grown_trans HG6.out hg7)
      obtain ⟨d0, d1, d2⟩ := HS1.out _ HG7.out
      clear ha7 hg7 HPc HK6
      go_wp2_with fail
      refine (HIm.out _).mono ?_
      rintro e w8 ⟨M, rfl, hM, hg8⟩
      have HM8 := hide hM
      have HA8 := hide (HA7.out.kept hg8 (by simp))
      have HK8 := hide (HK7.out.then hg8)
      have HG8 := hide (grown_trans HG7.out hg8)
      have HA8d : Hid (Oc.At w8.drew (some ⟨G, 0, none⟩) im) := HA8.out.kept (grown_drew w8 none) (by simp)
      have hK8 := HS1.out w8.drew (gn_drew HG8.out)
      have hM' : ¬ M < (IL : Int) := by omega
      clear hg8 HIm HA7 HK7 d0 d1 d2 hM
      go_wp2
      go_region_held3 (fun W => W.cell? ⟨w.heap.size, 0, none⟩ = some (.int .i64 a) ∧ W.cell? ⟨w.heap.size, 1, none⟩ = some (.int .i64 b) ∧ W.cell? ⟨w.heap.size, 2, none⟩ = some (.int .i64 c)) (first | with_reducible assumption | exact hK8)
        ((first
          | (go_at_call 14; refine (HC2.out _ _ HA8d.out).mono ?_; rintro e w9 ⟨co, cc, rfl, h1, hg9⟩; have HA9 := hide h1; have HG9 := hide (grown_trans (gn_drew HG8.out) hg9); have HGb9 := hide (grown_trans (grown_drew w8 none) hg9); have hK9 := HS1.out w9 HG9.out; clear h1 hg9)
          | (go_at_call 6; refine (HG2.out _ _ _ HA9.out).mono ?_; rintro e w10 ⟨y, q, rfl, hkA⟩; have HKA := hide hkA; have HG10 := hide (grown_trans HG9.out hkA.gr); have HGb10 := hide (grown_trans HGb9.out hkA.gr); have hK10 := HS1.out w10 HG10.out; clear hkA)))
      have HBk : Hid (Bks w w10 x y (appN SS rs 0) 4096) := by
        refine ⟨p, q, ?_, ?_, fun i hi hj => ?_⟩
        · simpa [appN] using HK8.out.then HGb10.out
        · have := HKA.out.wide (grown_trans HG1.out HG9.out)
          simpa [appN] using this
        · have h1 := HK8.out.bk.lt i hi
          have h2 := HKA.out.own i hj
          have h3 := HGb9.out.size
          omega
      have HAll : Hid (∀ j, (appN SS rs j).Ok) := appN_ok HSok.out rs
      have HSm := hide (HBk.out.same (HAll.out 0))
      clear hK8 hK9 hK10 HA9 HA8 HA8d HC2 HG2 HKA HK8 HS1 HK1
      go_wp2_with fail
      refine HSm.out.mono ?_
      rintro e w11 ⟨rfl, hbk⟩
      have HB11 := hide hbk
      clear hbk HSm HBk
      go_wp2
      obtain ⟨m60, hm60⟩ : ∃ m60 : Nat, m60 = min rl 60 := ⟨_, rfl⟩
      have HM60 := hide hm60
      clear hm60
      go_loopg [19] m60 (fun k i wr => ∃ j : Nat, k + j = m60 ∧ i = .int .i64 j ∧ Hid (Bks w wr x y (appN SS rs j) (4096 + j)))
      case atStart => exact ⟨0, by omega, rfl, HB11.out⟩
      case round =>
        clear HB11
        obtain ⟨j, hkj, rfl, HQ⟩ := hrel
        have hm := HM60.out
        by_cases hk : 0 < gk
        · have hj : j < rs.length := by rw [HRl.out.1]; omega
          have hj60 : (j : Int) < 60 := by omega
          have hjr : (j : Int) < (rl : Int) := by omega
          have hj0 : (0 : Int) ≤ (j : Int) := by omega
          obtain ⟨r, hr⟩ : ∃ r, rs[j]? = some r := ⟨_, List.getElem?_eq_getElem hj⟩
          have hrk : r.Ok := HOk.out r (List.mem_of_getElem? hr)
          obtain ⟨blk, off, hro, hr0, hr1, hr2, hr3, hr4⟩ := HRs.out w (grown_refl _ _) j r hr
          have HC : Hid (∀ W, w.grownBy W none → W.cell? ⟨blk, off + j * 5, none⟩ = some (.int .i64 r.k) ∧ W.cell? ⟨blk, off + j * 5 + 1, none⟩ = some (.int .u32 r.i) ∧ W.cell? ⟨blk, off + j * 5 + 2, none⟩ = some (.int .i64 r.s) ∧ W.cell? ⟨blk, off + j * 5 + 3, none⟩ = some (.int .i64 r.u) ∧ W.cell? ⟨blk, off + j * 5 + 4, none⟩ = some (.int .i64 r.c)) := fun W g => ⟨g.cell hr0 (by simp), g.cell hr1 (by simp), g.cell hr2 (by simp), g.cell hr3 (by simp), g.cell hr4 (by simp)⟩
          subst hro
          have HAp1 : Hid (Calls Tryz.prog 12 #[.pointer (some ⟨x, 0, none⟩), Rk.rcV r] wr.drew fun e w' => e = .returned (.int .i64 (appE (appN SS rs j) r)) ∧ Bkm w w' x y (appN SS rs j) (app (appN SS rs j) r) (4096 + j)) := (HQ.out.then (grown_drew wr none)).first (HAll.out j) (by omega) HTb.out r hrk
          have HAp2 : Hid (∀ W, Bkm w W x y (appN SS rs j) (app (appN SS rs j) r) (4096 + j) → Calls Tryz.prog 12 #[.pointer (some ⟨y, 0, none⟩), Rk.rcV r] W fun e w' => e = .returned (.int .i64 (appE (appN SS rs j) r)) ∧ Bks w w' x y (appN SS rs (j + 1)) (4096 + (j + 1))) := by
            intro W hW
            rw [appN_succ hr]
            exact hW.second (HAll.out j) (by omega) HTb.out hrk
          have HSm : Hid (∀ W, Bks w W x y (appN SS rs (j + 1)) (4096 + (j + 1)) → Calls Tryz.prog 19 #[.pointer (some ⟨x, 0, none⟩), .pointer (some ⟨y, 0, none⟩)] W fun e w' => e = .returned (.bool true) ∧ Bks w w' x y (appN SS rs (j + 1)) (4096 + (j + 1))) := fun W hW => hW.same (HAll.out (j + 1))
          have hK0 := HC.out wr.drew (gn_drew HQ.out.gr)
          unfold Rk.rcV at HAp1 HAp2
          generalize appE (appN SS rs j) r = E at *
          generalize app (appN SS rs j) r = S2 at *
          obtain ⟨rk, ri, rrs, ru, rrc⟩ := r
          simp only at HC HAp1 HAp2 hK0
          clear hr hrk hr0 hr1 hr2 hr3 hr4 hm hj
          go_wp2
          go_region_held3 (fun W => W.cell? ⟨blk, off + j * 5, none⟩ = some (.int .i64 rk) ∧ W.cell? ⟨blk, off + j * 5 + 1, none⟩ = some (.int .u32 ri) ∧ W.cell? ⟨blk, off + j * 5 + 2, none⟩ = some (.int .i64 rrs) ∧ W.cell? ⟨blk, off + j * 5 + 3, none⟩ = some (.int .i64 ru) ∧ W.cell? ⟨blk, off + j * 5 + 4, none⟩ = some (.int .i64 rrc)) (first | with_reducible assumption | exact hK0)
            ((first
              | (go_at_call_of 12 (Value.pointer (some ⟨x, 0, none⟩)); refine HAp1.out.mono ?_; rintro e w12 ⟨rfl, hb12⟩; have HB12 := hide hb12; have hK12 := HC.out w12 hb12.gr; clear hb12)
              | (go_at_call_of 12 (Value.pointer (some ⟨y, 0, none⟩)); refine (HAp2.out _ HB12.out).mono ?_; rintro e w13 ⟨rfl, hb13⟩; have HB13 := hide hb13; have hK13 := HC.out w13 hb13.gr; clear hb13)
              | (go_at_call 19; refine (HSm.out _ HB13.out).mono ?_; rintro e w14 ⟨rfl, hb14⟩; have HB14 := hide hb14; have hK14 := HC.out w14 hb14.gr; clear hb14)))
          go_wp2
          go_roundg (gk - 1)
          case measure => omega
          case rel => exact ⟨j + 1, by omega, by go_num, HB14.out⟩
        · have hje : j = m60 := by omega
          by_cases h60 : rl < 60
          · have e1 : ¬ (j : Int) < (rl : Int) := by omega
            go_wp2
            go_ret
            exact ⟨rfl, HQ.out.gr⟩
          · have e1 : (j : Int) = 60 := by omega
            have e2 : ¬ (j : Int) < 60 := by omega
            by_cases h61 : (j : Int) < (rl : Int)
            · clear e1 hm
              go_wp2
              go_ret
              exact ⟨rfl, HQ.out.gr⟩
            · clear e1 hm
              go_wp2
              go_ret
              exact ⟨rfl, HQ.out.gr⟩
    · have HM := hide (HMn.out _ HGwc.out hRt)
      clear hRt HMy HMn
      go_wp2_with fail
      refine HM.out.mono ?_
      rintro e w6 ⟨E, rfl, hE, hg6⟩
      have HG6 := hide (grown_trans HGwc.out hg6)
      clear hg6
      go_wp2
      go_ret
      exact ⟨rfl, HG6.out⟩
end Go.Proofs.YtahjckcfcdnlmaaGreatDoor
