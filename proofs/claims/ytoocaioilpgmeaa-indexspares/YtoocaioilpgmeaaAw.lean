/- awake; steps of a script. -/
import Derived.Test.YtoocaioilpgmeaaIl
namespace Go.Proofs.Ytoocaioilpgmeaa
open Go.RowKit Ix Go.Shelf
attribute [local go_sem ↓] Go.wp_at_zero Go.wp_at_succ
set_option maxRecDepth 20000 in
theorem awake_any (w : World) : Calls Try.prog 18 #[] w fun e w' => e = .returned (.bool true) ∧ w.grownBy w' none := by
  have hnew := new_io 3 (by decide) (by decide) w
  go_enter Try.func18, Try.ntmps18
  go_wp2_with fail
  refine hnew.mono ?_
  clear hnew
  rintro e w1 ⟨p, rfl, hm, h1, g1, ho⟩
  have hp1 := put_io h1 7 (by decide) 70 (by decide) (by decide)
  rw [show putE [] 7 p.m = 0 by rw [hm]; rfl, show putM [] 7 p.m 70 = [(7, 70)] by rw [hm]; rfl] at hp1
  have H1 := hide (And.intro h1 (And.intro g1 (And.intro ho hm)))
  clear h1 g1 ho hm
  go_wp2_with fail
  refine hp1.mono ?_
  clear hp1
  rintro e w2 ⟨rfl, h2, k2⟩
  have hp2 := put_io h2 4294967295 (by decide) (-1) (by decide) (by decide)
  rw [show putE [(7, 70)] 4294967295 p.m = 0 by rw [H1.out.2.2.2]; rfl, show putM [(7, 70)] 4294967295 p.m (-1) = [(7, 70), (4294967295, -1)] by rw [H1.out.2.2.2]; rfl] at hp2
  have H2 := hide k2
  clear h2 k2
  go_wp2_with fail
  refine hp2.mono ?_
  clear hp2
  rintro e w3 ⟨rfl, h3, k3⟩
  have hg3 := get_io h3 7 (by decide)
  rw [show (lk [(7, 70), (4294967295, -1)] 7) = some 70 from rfl] at hg3
  simp only [Option.getD, Option.isSome] at hg3
  have H3 := hide (H2.out.trans k3 (fun _ _ e => e))
  clear h3 k3
  go_wp2_with fail
  refine hg3.mono ?_
  clear hg3
  rintro e w4 ⟨rfl, h4, k4⟩
  have hd4 := drop_io h4 7 (by decide)
  rw [show (lk [(7, 70), (4294967295, -1)] 7) = some 70 from rfl, show dr [(7, 70), (4294967295, -1)] 7 = [(4294967295, -1)] from rfl] at hd4
  simp only [Option.isSome] at hd4
  have H4 := hide (H3.out.trans k4 (fun _ _ e => e))
  clear h4 k4
  go_wp2_with fail
  refine hd4.mono ?_
  clear hd4
  rintro e w5 ⟨rfl, h5, k5⟩
  have hl5 := h5.len
  have hs5 := h5.slots
  have hn8 : p.n = 8 := by have h1 := h5.few.2.2.2; rw [H1.out.2.2.2] at h1; exact h1.unique sz3
  rw [hn8] at hs5
  simp only [List.length_cons, List.length_nil] at hl5
  have H5 := hide (H4.out.trans k5 (fun _ _ e => e))
  clear h5 k5 hn8
  go_wp2_with fail
  refine hl5.mono ?_
  clear hl5
  rintro e w6 ⟨rfl, hw6⟩
  obtain rfl := hw6.symm
  go_wp2_with fail
  refine hs5.mono ?_
  clear hs5
  rintro e w7 ⟨rfl, hw7⟩
  obtain rfl := hw7.symm
  go_wp2
  go_ret
  refine ⟨rfl, ?_⟩
  refine Kept.grown ((Kept.new H1.out.2.1 (fun i => w.heap.size ≤ i)).trans H5.out (fun i _ e => H1.out.2.2.1 i e)) (fun i hi e => by omega)
/-- A step's numbers. -/
structure OpD where
  K : Int
  I : Nat
  V : Int
def OpD.Ok (o : OpD) : Prop := (-9223372036854775808 ≤ o.K ∧ o.K ≤ 9223372036854775807) ∧ o.I < 4294967296 ∧ (-9223372036854775808 ≤ o.V ∧ o.V ≤ 9223372036854775807)
def OpD.v (o : OpD) : Value := .agg #[.int .i64 o.K, .int .u32 (o.I : Int), .int .i64 o.V]
/-- What a step leaves. -/
def stM (M : List (Nat × Int)) (m : Nat) (o : OpD) : List (Nat × Int) := if o.K = 1 then putM M o.I m o.V else if o.K = 2 then up M o.I o.V else if o.K = 4 then dr M o.I else M
def stL (lo : Bool) (o : OpD) : Bool := lo || (decide (1 ≤ o.K) && decide (o.K ≤ 4))
set_option maxRecDepth 20000 in
theorem does_io {w : World} {p : Ip} {M : List (Nat × Int)} {lo : Bool} (h : Io w p M lo) (o : OpD) (ho : o.Ok) :
    Calls Try.prog 28 #[.pointer (some ⟨p.x, 0, none⟩), .agg #[.int .i64 o.K, .int .u32 (o.I : Int), .int .i64 o.V]] w fun e w' => e = .returned (.tuple #[]) ∧ Io w' p (stM M p.m o) (stL lo o) ∧ Kept w w' p.own := by
  obtain ⟨K, I, V⟩ := o
  obtain ⟨hK, hI, hV⟩ := ho
  simp only at hK hI hV ⊢
  have g1 := World.grownBy_alloc w (.cells #[.int .i64 K, .int .u32 (I : Int), .int .i64 V] 47) none
  have nb : (w.alloc (.cells #[.int .i64 K, .int .u32 (I : Int), .int .i64 V] 47)).heap[w.heap.size]? = some (.cells [Value.int .i64 K, .int .u32 (I : Int), .int .i64 V].toArray 47 (0, 0)) := heap_alloc_new w _
  have h1 := h.then g1
  have k1 := Kept.new g1 p.own
  by_cases e1 : K = 1
  · subst e1
    have hc := put_io h1 I hI V hV.1 hV.2
    have HE := hide k1
    clear g1 nb h1 k1 h
    go_enter Try.func28, Try.ntmps28
    go_wp2_with fail
    refine hc.mono ?_
    rintro e w' ⟨rfl, h2, k2⟩
    have H := hide (And.intro h2 (HE.out.trans k2 (fun _ _ e => e)))
    clear h2 k2 hc
    go_wp2
    go_end0
    exact ⟨rfl, by simpa [stM, stL] using H.out.1, H.out.2⟩
  by_cases e2 : K = 2
  · subst e2
    have hc := set_io h1 I hI V hV.1 hV.2
    have HE := hide k1
    clear g1 nb h1 k1 h e1
    go_enter Try.func28, Try.ntmps28
    go_wp2_with fail
    refine hc.mono ?_
    rintro e w' ⟨rfl, h2, k2⟩
    have H := hide (And.intro h2 (HE.out.trans k2 (fun _ _ e => e)))
    clear h2 k2 hc
    go_wp2
    go_end0
    exact ⟨rfl, by simpa [stM, stL] using H.out.1, H.out.2⟩
  by_cases e3 : K = 3
  · subst e3
    have hc := get_io h1 I hI
    have HE := hide k1
    clear g1 nb h1 k1 h e1 e2
    go_enter Try.func28, Try.ntmps28
    go_wp2_with fail
    refine hc.mono ?_
    rintro e w' ⟨rfl, h2, k2⟩
    have H := hide (And.intro h2 (HE.out.trans k2 (fun _ _ e => e)))
    clear h2 k2 hc
    go_wp2
    go_end0
    exact ⟨rfl, by simpa [stM, stL] using H.out.1, H.out.2⟩
  by_cases e4 : K = 4
  · subst e4
    have hc := drop_io h1 I hI
    have HE := hide k1
    clear g1 nb h1 k1 h e1 e2 e3
    go_enter Try.func28, Try.ntmps28
    go_wp2_with fail
    refine hc.mono ?_
    rintro e w' ⟨rfl, h2, k2⟩
    have H := hide (And.intro h2 (HE.out.trans k2 (fun _ _ e => e)))
    clear h2 k2 hc
    go_wp2
    go_end0
    exact ⟨rfl, by simpa [stM, stL] using H.out.1, H.out.2⟩
  · have q1 : (K == 1) = false := by simpa using e1
    have q2 : (K == 2) = false := by simpa using e2
    have q3 : (K == 3) = false := by simpa using e3
    have q4 : (K == 4) = false := by simpa using e4
    have d1 : decide (K = 1) = false := by simpa using e1
    have d2 : decide (K = 2) = false := by simpa using e2
    have d3 : decide (K = 3) = false := by simpa using e3
    have d4 : decide (K = 4) = false := by simpa using e4
    have HE := hide (And.intro k1 (And.intro h1 (And.intro e1 (And.intro e2 (And.intro e3 e4)))))
    clear g1 nb h1 k1 h e1 e2 e3 e4 hK
    go_enter Try.func28, Try.ntmps28
    go_wp2
    go_end0
    refine ⟨rfl, ?_, HE.out.1⟩
    have e1 := HE.out.2.2.1
    have e2 := HE.out.2.2.2.1
    have e3 := HE.out.2.2.2.2.1
    have e4 := HE.out.2.2.2.2.2
    rw [show stM M p.m ⟨K, I, V⟩ = M by simp [stM, e1, e2, e4], show stL lo ⟨K, I, V⟩ = lo by simp [stL]; omega]
    exact HE.out.2.1
/-- What a script leaves. -/
def plM (m : Nat) (os : List OpD) : List (Nat × Int) := os.foldl (fun M o => stM M m o) []
def plL (os : List OpD) : Bool := os.foldl stL false
theorem plM_snoc (m : Nat) (os : List OpD) (o : OpD) : plM m (os ++ [o]) = stM (plM m os) m o := by simp [plM]
theorem plL_snoc (os : List OpD) (o : OpD) : plL (os ++ [o]) = stL (plL os) o := by simp [plL]
def OpsAt (w : World) (ao : Option Addr) (os : List OpD) : Prop := ∀ j o, os[j]? = some o → ∃ blk off, ao = some (⟨blk, off, none⟩ : Addr) ∧ w.cell? ⟨blk, off + j * 3, none⟩ = some (.int .i64 o.K) ∧ w.cell? ⟨blk, off + j * 3 + 1, none⟩ = some (.int .u32 (o.I : Int)) ∧ w.cell? ⟨blk, off + j * 3 + 2, none⟩ = some (.int .i64 o.V)
theorem OpsAt.grown {w w' : World} {ao : Option Addr} {os : List OpD} (h : OpsAt w ao os) (g : w.grownBy w' none) : OpsAt w' ao os := by
  intro j o hj
  obtain ⟨b, off, e, h1, h2, h3⟩ := h j o hj
  exact ⟨b, off, e, g.cell h1 (by simp), g.cell h2 (by simp), g.cell h3 (by simp)⟩
/-- A script that came in. -/
structure Scr (w : World) (ao : Option Addr) (len cap : Nat) (os : List OpD) : Prop where
  len : os.length = len
  at_ : OpsAt w ao os
  ok : ∀ o ∈ os, o.Ok
theorem Scr.grown {w w' : World} {ao : Option Addr} {len cap : Nat} {os : List OpD} (h : Scr w ao len cap os) (g : w.grownBy w' none) : Scr w' ao len cap os := ⟨h.len, h.at_.grown g, h.ok⟩
theorem take_snoc {α : Type} {l : List α} {i : Nat} {x : α} (h : l[i]? = some x) : l.take (i + 1) = l.take i ++ [x] := by rw [List.take_add_one, h]; rfl
set_option maxRecDepth 20000 in
set_option maxHeartbeats 1000000 in
theorem made_any (k : Int) (ao : Option Addr) (len cap : Nat) (os : List OpD) (w : World) (hS : Scr w ao len cap os) :
    Calls Try.prog 23 #[.int .i64 k, .slice ao len cap] w fun e w' => ∃ p : Ip, e = .returned (.tuple #[.pointer (some ⟨p.x, 0, none⟩), .bool true]) ∧ (p.m : Int) = 1 + k % 4096 ∧ Io w' p (plM p.m (os.take 3000)) (plL (os.take 3000)) ∧ w.grownBy w' none ∧ ∀ i, p.own i → w.heap.size ≤ i := by
  obtain ⟨r, hr⟩ : ∃ r : Nat, k % ((4096 : Nat) : Int) = (r : Int) := ⟨(k % 4096).toNat, by have := Int.emod_nonneg k (show (4096 : Int) ≠ 0 by decide); simp; omega⟩
  have hr2 : r < 4096 := by have := Int.emod_lt_of_pos k (show (0 : Int) < 4096 by decide); simp at hr; omega
  have hpk := pick_any k 4096 4096 w rfl (by decide) (by decide)
  rw [hr] at hpk
  have hnew := new_io (r + 1) (by omega) (by omega) w
  have e1 : (((r + 1 : Nat)) : Int) = 1 + (r : Int) := by omega
  rw [e1] at hnew
  have HS := hide (And.intro hS hr)
  clear hS hr e1
  go_enter Try.func23, Try.ntmps23
  go_wp2_with fail
  refine hpk.mono ?_
  clear hpk
  rintro e w1 ⟨rfl, hw1⟩
  obtain rfl := hw1.symm
  go_wp2_with fail
  refine hnew.mono ?_
  clear hnew
  rintro e w2 ⟨p, rfl, hm, h2, g2, ho⟩
  have H2 := hide (And.intro hm (And.intro h2 (And.intro g2 ho)))
  clear hm h2 g2 ho
  go_wp2
  go_loopg [8] len (fun q v wr => ∃ i : Nat, v = .int .i64 (i : Int) ∧ Hid (q = len - i ∧ i ≤ len ∧ i ≤ 3000 ∧ Io wr p (plM p.m (os.take i)) (plL (os.take i)) ∧ w.grownBy wr none))
  case atStart => exact ⟨0, rfl, by simp, Nat.zero_le _, Nat.zero_le _, H2.out.2.1, H2.out.2.2.1⟩
  case round =>
    obtain ⟨i, rfl, HR⟩ := hrel
    by_cases hlt : i < len ∧ i < 3000
    · obtain ⟨hl1, hl2⟩ := hlt
      obtain ⟨o, hoi⟩ : ∃ o, os[i]? = some o := ⟨os[i]'(by rw [HS.out.1.len]; exact hl1), by simp⟩
      obtain ⟨blk, off, rfl, c1, c2, c3⟩ := HS.out.1.at_.grown HR.out.2.2.2.2 i o hoi
      have hok := HS.out.1.ok o (List.mem_of_getElem? hoi)
      have hd := does_io HR.out.2.2.2.1 o hok
      have HT := hide (take_snoc hoi)
      have b1 : ((i : Int) < (len : Int)) = True := by simp; omega
      have b2 : ((i : Int) < 3000) = True := by simp; omega
      have hil : i * 3 = i * 3 := rfl
      clear hoi hok hil
      obtain ⟨K, I, V⟩ := o
      simp only at c1 c2 c3 hd
      go_wp2_with fail
      refine hd.mono ?_
      clear hd
      rintro e w3 ⟨rfl, h3, k3⟩
      have H3 := hide (And.intro h3 k3)
      clear h3 k3
      have hwr : IntKind.i64.wrap ((i : Int) + 1) = ((i : Int) + 1) := by rw [IntKind.wrap_i64]; omega
      go_wp2
      go_roundg (gk - 1)
      case rel =>
        refine ⟨i + 1, by simp, by have := HR.out.1; omega, by omega, by omega, by rw [HT.out, plM_snoc, plL_snoc]; exact H3.out.1, ?_⟩
        exact Kept.grown ((Kept.new HR.out.2.2.2.2 (fun i => w.heap.size ≤ i)).trans H3.out.2 (fun i _ e => H2.out.2.2.2 i e)) (fun i hi e => by omega)
      case measure => have := HR.out.1; omega
    · have htk : os.take i = os.take 3000 := by
        have h1 := HR.out.2.1
        have h2 := HR.out.2.2.1
        have h3 := HS.out.1.len
        rcases Nat.lt_or_ge i 3000 with h4 | h4
        · rw [List.take_of_length_le (by omega), List.take_of_length_le (by omega)]
        · rw [show i = 3000 by omega]
      have HT := hide htk
      clear htk
      have hend : ∀ w', wr = w' → ∃ q : Ip, (Ending.returned (.tuple #[.pointer (some ⟨p.x, 0, none⟩), .bool true]) : Ending) = .returned (.tuple #[.pointer (some ⟨q.x, 0, none⟩), .bool true]) ∧ (q.m : Int) = 1 + k % 4096 ∧ Io w' q (plM q.m (os.take 3000)) (plL (os.take 3000)) ∧ w.grownBy w' none ∧ ∀ i, q.own i → w.heap.size ≤ i := by
        rintro w' rfl
        refine ⟨p, rfl, by rw [H2.out.1]; have := HS.out.2; simp at this; omega, by rw [← HT.out]; exact HR.out.2.2.2.1, HR.out.2.2.2.2, H2.out.2.2.2⟩
      have HE := hide hend
      clear hend
      by_cases hl1 : i < len
      · have b1 : ((i : Int) < (len : Int)) = True := by simp; omega
        have b2 : ((i : Int) < 3000) = False := by simp; omega
        clear hlt hl1
        go_wp2
        go_ret2
        exact HE.out _ rfl
      · have b1 : ((i : Int) < (len : Int)) = False := by simp; omega
        clear hlt hl1
        go_wp2
        go_ret2
        exact HE.out _ rfl
end Go.Proofs.Ytoocaioilpgmeaa
