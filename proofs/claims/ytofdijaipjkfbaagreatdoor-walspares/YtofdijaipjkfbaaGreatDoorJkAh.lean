/- Texts joined: FFi, FFs. -/
import Derived.Test.YtofdijaipjkfbaaGreatDoorJkAg
import Derived.Shelf.Abstract
import Derived.Shelf.RegionOpen
import Derived.OwnWalkIn
import Derived.TacticsInMore
import Derived.LoopNIn
import Derived.LoopIn
import Derived.RegionIn
import Derived.Scope
import Derived.WalkMore
import Derived.Maps.AppendAt
/- The contract of the iterator over a row of frames (rowOf's closure). -/
namespace Go.Proofs.YtofdijaipjkfbaaGreatDoor.Fm
open Go.RowKit Go.Shelf
attribute [local go_sem] Oper.semAt_some

/-- Blocks of Q lie as they lay. -/
def Keeps (Q : Nat → Prop) (W W' : World) : Prop := W.heap.size ≤ W'.heap.size ∧ ∀ k, Q k → k < W.heap.size → W'.heap[k]? = W.heap[k]?
theorem Keeps.refl (Q : Nat → Prop) (W : World) : Keeps Q W W := ⟨Nat.le_refl _, fun _ _ _ => rfl⟩
theorem Keeps.trans {Q : Nat → Prop} {A B C : World} (h : Keeps Q A B) (k : Keeps Q B C) : Keeps Q A C :=
  ⟨Nat.le_trans h.1 k.1, fun i hq hi => (k.2 i hq (Nat.lt_of_lt_of_le hi h.1)).trans (h.2 i hq hi)⟩
theorem Keeps.of {Q : Nat → Prop} {W W' : World} {row : Option Nat} (h : W.grownBy W' row) (hr : ∀ k, row = some k → ¬ Q k) : Keeps Q W W' :=
  ⟨h.size, fun k hq hk => h.block k hk (fun e => hr k e.symm hq)⟩
theorem Keeps.putObj {Q : Nat → Prop} (W : World) (l : Nat) (o : Obj) (h : ¬ Q l) : Keeps Q W (W.putObj l o) :=
  ⟨by simp, fun k hq _ => World.putObj_heap_other (fun e => h (e ▸ hq))⟩

/-- The iterator's blocks. -/
def itQ (Bs Bb Be : Nat) (ao : Option Addr) (k : Nat) : Prop := k = Bs ∨ k = Bb ∨ k = Be ∨ k = 0 ∨ ∃ a, ao = some a ∧ k = a.block
/-- The iterator over the frames of xs, of the epoch E, behind S: its variables and what they lead to. -/
structure ItF (W : World) (Bs Bb Be : Nat) (ao : Option Addr) (n cap : Nat) (xs : List Int) (E S : Int) : Prop where
  bs : Boxed W Bs 22 (.int .u64 S)
  bb : Boxed W Bb 39 (.slice ao n cap)
  be : Boxed W Be 22 (.int .u64 E)
  lies : At W ao xs
  len : xs.length = n
  nil : ao = none → n = 0 ∧ cap = 0
  fits : n ≤ cap
  byt : Byt xs
  sm : n ≤ 140737488355328
  tab : Tab W
  s0 : 0 ≤ S
  s1 : S < 18446744073709551616
theorem tab_lt {W : World} (h : Tab W) : 0 < W.heap.size := by
  have := cells_of_cell (h 0 (by omega))
  obtain ⟨o, ho, _⟩ := this
  exact row_lt ho
theorem ItF.keeps {W W' : World} {Bs Bb Be : Nat} {ao : Option Addr} {n cap : Nat} {xs : List Int} {E S : Int} (h : ItF W Bs Bb Be ao n cap xs E S) (hk : Keeps (itQ Bs Bb Be (liveA ao xs)) W W') : ItF W' Bs Bb Be ao n cap xs E S := by
  refine ⟨(hk.2 Bs (Or.inl rfl) h.bs.lt).trans h.bs, (hk.2 Bb (Or.inr (Or.inl rfl)) h.bb.lt).trans h.bb, (hk.2 Be (Or.inr (Or.inr (Or.inl rfl))) h.be.lt).trans h.be, ?_, h.len, h.nil, h.fits, h.byt, h.sm, ?_, h.s0, h.s1⟩
  · intro j u hu
    obtain ⟨a, ha, hc⟩ := h.lies j u hu
    refine ⟨a, ha, ?_⟩
    obtain ⟨o, ho, _⟩ := cells_of_cell hc
    have hb : (a.add j).block = a.block := addr_add_block a j
    exact (World.cell?_of_block (w := W) (hk.2 _ (by rw [hb]; exact Or.inr (Or.inr (Or.inr (Or.inr ⟨a, by unfold liveA; rw [if_neg (fun e => by rw [e] at hu; simp at hu)]; exact ha, rfl⟩)))) (row_lt ho))).trans hc
  · intro j hj
    exact (World.cell?_of_block (w := W) (a := ⟨0, j, none⟩) (hk.2 0 (Or.inr (Or.inr (Or.inr (Or.inl rfl)))) (tab_lt h.tab))).trans (h.tab j hj)
theorem ItF.grown {W W' : World} {Bs Bb Be : Nat} {ao : Option Addr} {n cap : Nat} {xs : List Int} {E S : Int} (h : ItF W Bs Bb Be ao n cap xs E S) (hg : W.grownBy W' none) : ItF W' Bs Bb Be ao n cap xs E S :=
  h.keeps (Keeps.of hg (fun _ e => by cases e))

/-- What is handed on: the place, the frame, its body's value, and between which blocks that lies. -/
structure El where
  at_ : Nat
  f : Fr
  v : Value
  lo : Nat
  hi : Nat
def El.enc (x : El) : Array Value := #[.int .i64 (x.at_ : Int), frV x.f.e x.f.s x.v]
def frs (l : List El) : List Fr := l.map El.f
theorem frs_snoc (l : List El) (x : El) : frs (l ++ [x]) = frs l ++ [x.f] := by simp [frs]
theorem frs_length (l : List El) : (frs l).length = l.length := by simp [frs]
/-- The body's value leads to the body's bytes, in a block of its own. -/
structure El.At (x : El) (W : World) : Prop where
  own : W.ownsRow x.lo 5 1 x.v x.f.b.length (x.f.b.map (Value.int .u8))
  top : ∀ k, x.v.ownBlock = some k → k < x.hi
  size : x.hi ≤ W.heap.size
/-- What is so of an element when it is handed on. -/
structure ElV (N : Nat) (E S : Int) (xs : List Int) (pre : List El) (x : El) (W : World) : Prop where
  place : x.at_ = fend (frs pre)
  row : RowInv E S xs (frs pre ++ [x.f])
  ok : x.f.Ok
  short : x.f.b.length ≤ 32
  lies : x.At W
  later : ∀ y ∈ pre, y.hi ≤ x.lo
  lo : N ≤ x.lo
theorem El.At.grown {x : El} {W W' : World} (h : x.At W) (hg : W.grownBy W' none) : x.At W' := ⟨own_grown h.own hg, h.top, Nat.le_trans h.size hg.size⟩
theorem El.At.kept {x : El} {W W' : World} {k : Nat} {c : Array Value} {t : TypeId} {fr : Nat × Nat} (h : x.At W) (hg : W.grownBy W' (some k)) (hk : W.heap[k]? = some (.cells c t fr)) (hne : t ≠ 5) : x.At W' := ⟨own_kept h.own hg hk hne, h.top, Nat.le_trans h.size hg.size⟩
theorem El.At.own_from (x : El) (B : Nat) : OwnFrom B (fun (_ : Unit) W => x.At W) := fun _ W W' row h hg hr => by
  refine ⟨h.own.kept hg ?_, h.top, Nat.le_trans h.size hg.size⟩
  rcases h.own.2 with ⟨e, _⟩ | ⟨g, cap, cur, e, _, hgg, _⟩
  · exact Or.inl (by rw [e]; rfl)
  · refine Or.inr (fun e' => ?_)
    rw [e] at e'
    obtain ⟨_, o, ho, hc⟩ := hr g e'.symm
    rw [hgg] at ho
    cases ho
    cases hc
theorem ElV.own_from (B N : Nat) (E S : Int) (xs : List Int) (pre : List El) : OwnFrom B (ElV N E S xs pre) := fun x W W' row h hg hr =>
  ⟨h.place, h.row, h.ok, h.short, El.At.own_from x B () W W' row h.lies hg hr, h.later, h.lo⟩

def leftF (n : Nat) (v : Value) : Nat := n - (intOf v).toNat
theorem leftF_nat (n k : Nat) : leftF n (.int .i64 (k : Int)) = n - k := by simp [leftF, intOf]

theorem cut_nil {ao : Option Addr} {n cap k : Nat} (h : ao = none → n = 0 ∧ cap = 0) (he : cutA ao k cap = none) : n - k = 0 ∧ cap - k = 0 := by
  have : ao = none := by
    unfold cutA at he
    split at he
    · exact he
    · cases ao <;> simp_all
  have := h this
  omega
theorem ItF.get {W : World} {Bs Bb Be : Nat} {ao : Option Addr} {n cap : Nat} {xs : List Int} {E S : Int} (h : ItF W Bs Bb Be ao n cap xs E S) (k : Nat) (hk : k ≤ n) :
    Calls Tryz.prog 160 #[.slice (cutA ao k cap) (n - k) (cap - k)] W fun r w' => ∃ v, r = .returned (.tuple #[frV (getF (xs.drop k)).f.e (getF (xs.drop k)).f.s v, .int .i64 ((getF (xs.drop k)).n : Int), .int .i64 (getF (xs.drop k)).c]) ∧
      w'.ownsRow W.heap.size 5 1 v (getF (xs.drop k)).f.b.length ((getF (xs.drop k)).f.b.map (Value.int .u8)) ∧ W.grownBy w' none :=
  fget_any (xs.drop k) (h.byt.drop k) _ _ _ W (by rw [List.length_drop, h.len]) (h.lies.cut k cap (by rw [h.len]; exact h.fits)) (cut_nil h.nil) (by have := h.fits; omega) (by have := h.sm; omega) h.tab

theorem OwnFrom_drew {β : Type} {J : β → World → Prop} (h : Stands J) {s : β} {W : World} (hs : J s W) : J s W.drew := h s W _ hs (grown_drew W none)

set_option maxRecDepth 100000 in
set_option maxHeartbeats 1000000 in
theorem row1_in (Kp : World → World → Prop) (n : Nat) (hn : 1 ≤ n) (l Bs Bb Be : Nat) (ao : Option Addr) (m cap : Nat) (xs : List Int) (E S : Int) (hKp : ∀ W W', Kp W W' → Keeps (itQ Bs Bb Be (liveA ao xs)) W W') (J Jx : List El → World → Prop) (hJ : Stands J) (N : Nat)
    (hY : ∀ pre x W, J pre W → ElV N E S xs pre x W → YieldAt Fence.wide (n - 1) Tryz.prog l x.enc W fun e W' =>
      (e = .returned (.bool true) ∧ J (pre ++ [x]) W' ∧ Kp W W') ∨ (e = .returned (.bool false) ∧ Jx (pre ++ [x]) W'))
    (W : World) (hI : ItF W Bs Bb Be ao m cap xs E S) (h0 : J [] W) (hN : N ≤ W.heap.size) :
    CallsIn Fence.wide n Tryz.prog 159 #[.func (.yield l) #[] #[], .pointer (some ⟨Bs, 0, none⟩), .pointer (some ⟨Bb, 0, none⟩), .pointer (some ⟨Be, 0, none⟩)] W fun e W' => (∃ v, e = .returned v) ∧
      ((∃ ys, frs ys = rowF E S xs ∧ J ys W') ∨ (∃ pre, Jx pre W')) := by
  refine callsIn_of_wp Tryz.func159 rfl trivial ?_ rfl
  simp only [Tryz.ntmps159, List.size_toArray, List.length_cons, List.length_nil, Nat.reduceAdd, Nat.reduceSub, Array.replicate_succ, Array.replicate_zero, List.push_toArray, List.append_toArray, List.nil_append, List.cons_append]
  have hc1 := hI.bs.cell
  have hcd : W.drew.cell? ⟨Bs, 0, none⟩ = some (.int .u64 S) := hc1
  refine wpIn_wide.2 (wp_scope_straight ((wpIn_wide (n := n)).1 ?_))
  gi_wp2
  gi_region
  gi_wp2
  refine wpIn_label ?_
  gi_wp2
  gi_loopw [5, 6] (fun q5 q6 wr => ∃ pre : List El, q5 = .int .i64 ((fend (frs pre) : Nat) : Int) ∧ q6 = .int .u64 (S + (pre.length : Int)) ∧ Hid (RowInv E S xs (frs pre)) ∧ J pre wr ∧ ItF wr Bs Bb Be ao m cap xs E S ∧ Hid (∀ y ∈ pre, y.hi ≤ wr.heap.size) ∧ N ≤ wr.heap.size) (fun q5 _ _ => leftF m q5)
  case atStart => exact ⟨[], rfl, by simp, hide (RowInv.start hI.s1), OwnFrom_drew hJ h0, hI.grown (grown_drew W none), hide (fun y hy => by cases hy), hN⟩
  case round =>
    obtain ⟨pre, rfl, rfl, hR, hJp, hIp, hH, hNp⟩ := hrel
    have hlen := frs_length pre
    have hRt := hR.out.top
    have hRf := hR.out.fits
    rw [hlen] at hRt
    rw [hIp.len] at hRf
    have hs0 := hIp.s0
    have hm := hIp.sm
    obtain ⟨T, hT⟩ : ∃ T, T = S + (pre.length : Int) := ⟨_, rfl⟩
    rw [← hT] at hRt ⊢
    have HT := hide hT
    have hT0 : 0 ≤ T := by omega
    clear hT hs0
    obtain ⟨k, hk⟩ : ∃ k, k = fend (frs pre) := ⟨_, rfl⟩
    rw [← hk] at hRf ⊢
    have HK := hide hk
    clear hk hlen
    by_cases hmax : T = 18446744073709551615
    · have hend : frs pre = rowF E S xs := by
        refine (hR.out.stop (fun hg => ?_)).symm
        have := hg.2.2.2
        rw [frs_length, ← HT.out] at this
        omega
      have hbe : (T != 18446744073709551615) = false := by simpa using hmax
      clear hc1 hcd
      have HE := hide hend
      clear hend hmax
      gi_wp2
      rw [Exit.noGoto_normal]
      go_end0
      exact ⟨⟨_, rfl⟩, .inl ⟨pre, HE.out, hJp⟩⟩
    · have hbe : (T != 18446744073709551615) = true := by simpa using hmax
      have hTm : T < 18446744073709551615 := by omega
      have hsf := slice_from ao m cap k hRf
      have HG := hide (hIp.get k hRf)
      have hcb := hIp.bb.cell
      clear hc1 hcd hmax hRt
      gi_wp2_with fail
      refine ⟨trivial, ?_⟩
      refine (callsIn_wide.2 HG.out).mono ?_
      rintro e w1 ⟨v, rfl, hv, hg⟩
      obtain ⟨G, hG⟩ : ∃ G, G = getF (xs.drop k) := ⟨_, rfl⟩
      rw [← hG] at hv ⊢
      have HGd := hide hG
      obtain ⟨vo, vc, rfl⟩ := own_form hv
      have HV := hide (And.intro hv hg)
      rcases G with ⟨⟨e', s', b'⟩, gn, gc⟩
      clear hv hg hG HG hcb hsf hbe
      simp only at HV ⊢
      have hg2 := grown_trans HV.out.2 (World.grownBy_alloc w1 (.cells #[.int .u64 e', .int .u64 s', .slice vo b'.length vc] 104) none)
      have hI2 := hIp.grown hg2
      have hJ2 := hJ _ _ _ hJp hg2
      have hb2 := heap_alloc_new w1 (.cells [Value.int .u64 e', .int .u64 s', .slice vo b'.length vc].toArray 104)
      have hv2 := own_grown HV.out.1 (World.grownBy_alloc w1 (.cells #[.int .u64 e', .int .u64 s', .slice vo b'.length vc] 104) none)
      have HX := hide (And.intro hg2 (And.intro hb2 hv2))
      have hcE := hI2.be.cell
      have hstop : ∀ (h : ¬ Goes E T (xs.drop k)), frs pre = rowF E S xs := fun h => by
        refine (hR.out.stop ?_).symm
        rw [frs_length, ← HT.out, ← HK.out]
        exact h
      have HS := hide hstop
      unfold frV
      clear hg2 hb2 hv2 hstop
      by_cases hc0 : gc = 0
      · subst hc0
        by_cases he : e' = E
        · subst he
          by_cases hs : s' = T + 1
          · subst hs
            have hGo : Goes e' (S + ((frs pre).length : Int)) (xs.drop (fend (frs pre))) := by
              rw [frs_length, ← HT.out, ← HK.out]
              unfold Goes
              rw [← HGd.out]
              exact ⟨rfl, rfl, rfl, by omega⟩
            obtain ⟨r1, r2, r3, r4⟩ := hR.out.step hIp.byt hGo
            rw [← HK.out, ← HGd.out] at r1 r2 r3 r4
            simp only at r1 r2 r3 r4
            have hfit := r1.fits
            rw [fend_snoc, ← HK.out, hIp.len] at hfit
            simp only at hfit
            obtain ⟨w2, hw2⟩ : ∃ w2, w2 = w1.alloc (.cells #[.int .u64 e', .int .u64 (T + 1), .slice vo b'.length vc] 104) := ⟨_, rfl⟩
            have hXv : ElV N e' S xs pre ⟨k, ⟨e', T + 1, b'⟩, .slice vo b'.length vc, wr.heap.size, w2.heap.size⟩ w2 := by
              refine ⟨HK.out, r1, r2, r3, ⟨?_, ?_, Nat.le_refl _⟩, hH.out, hNp⟩
              · rw [hw2]; exact HX.out.2.2
              · intro j hj
                have := (HX.out.2.2.lt j hj).2
                rw [hw2]; exact this
            rw [← hw2] at hJ2
            obtain ⟨fn, tmps, assign, body, hy, hRd⟩ := hY pre _ w2 hJ2 hXv
            simp only [El.enc, frV] at hy
            have HR1 := hide r1
            have hbx := hide (And.intro r2 (And.intro hXv (And.intro hw2 r4)))
            have hgn : gn ≤ 54 := by omega
            have hkm : k + gn ≤ m := by omega
            have hgp : 0 < gn := by omega
            rw [hw2] at hy
            clear hGo r1 r2 r4 hXv HS
            gi_wp2
            rw [← hbx.out.2.2.1]
            refine hRd.mono ?_
            rintro e W3 (⟨rfl, hJ3, hk3⟩ | ⟨rfl, hJx3⟩)
            · have hK3 := hKp _ _ hk3
              have hI3 := (hbx.out.2.2.1 ▸ hI2 : ItF w2 Bs Bb Be ao m cap xs e' S).keeps hK3
              have hsz : Hid (wr.heap.size ≤ w2.heap.size ∧ w2.heap.size ≤ W3.heap.size) := ⟨by rw [hbx.out.2.2.1]; exact HX.out.1.size, hK3.1⟩
              clear hI2 hcE hy
              have hsum : Hid ((k : Int) + (gn : Int) = ((k + gn : Nat) : Int)) := by show _ = _; omega
              gi_wp2
              go_roundw
              case rel =>
                refine ⟨pre ++ [⟨k, ⟨e', T + 1, b'⟩, .slice vo b'.length vc, wr.heap.size, w2.heap.size⟩], ?_, ?_, ?_, hJ3, hI3, ?_, ?_⟩
                · rw [frs_snoc, fend_snoc, ← HK.out, hsum.out, hbx.out.2.2.2]
                · rw [HT.out]; simp; omega
                · rw [frs_snoc]; exact HR1
                · refine hide (fun y hy => ?_)
                  rcases List.mem_append.1 hy with h | h
                  · have := hH.out y h; have := hsz.out; omega
                  · simp at h; subst h; exact hsz.out.2
                · have := hsz.out; omega
              case measure =>
                rw [hsum.out, leftF_nat, leftF_nat]; omega
            · gi_wp2
              rw [Exit.noGoto_normal]
              go_end0
              exact ⟨⟨_, rfl⟩, .inr ⟨_, hJx3⟩⟩
          · have HE := hide (HS.out (fun h => hs (by have := h.2.2.1; rw [← HGd.out] at this; exact this)))
            have hne : (s' != T + 1) = true := by simpa using hs
            clear hs
            gi_wp2
            rw [Exit.noGoto_normal]
            go_end0
            exact ⟨⟨_, rfl⟩, .inl ⟨pre, HE.out, hJ2⟩⟩
        · have HE := hide (HS.out (fun h => he (by have := h.2.1; rw [← HGd.out] at this; exact this)))
          have hne : (e' != E) = true := by simpa using he
          clear he
          gi_wp2
          rw [Exit.noGoto_normal]
          go_end0
          exact ⟨⟨_, rfl⟩, .inl ⟨pre, HE.out, hJ2⟩⟩
      · have HE := hide (HS.out (fun h => hc0 (by have := h.1; rw [← HGd.out] at this; exact this)))
        have hne : (gc != 0) = true := by simpa using hc0
        clear hc0
        gi_wp2
        rw [Exit.noGoto_normal]
        go_end0
        exact ⟨⟨_, rfl⟩, .inl ⟨pre, HE.out, hJ2⟩⟩
end Go.Proofs.YtofdijaipjkfbaaGreatDoor.Fm
/- The contracts of rowOf, Each and Scan. -/
namespace Go.Proofs.YtofdijaipjkfbaaGreatDoor.Fm
open Go.RowKit Go.Shelf
attribute [local go_sem] Oper.semAt_some

/-- Bytes that are handed in: where they lie, how many, the table beside them. -/
structure Src (W : World) (ao : Option Addr) (n cap : Nat) (xs : List Int) : Prop where
  lies : At W ao xs
  len : xs.length = n
  nil : ao = none → n = 0 ∧ cap = 0
  fits : n ≤ cap
  byt : Byt xs
  sm : n ≤ 140737488355328
  tab : Tab W
theorem Src.grown {W W' : World} {ao : Option Addr} {n cap : Nat} {xs : List Int} (h : Src W ao n cap xs) (hg : W.grownBy W' none) : Src W' ao n cap xs :=
  ⟨h.lies.kept hg (fun _ _ e => by cases e), h.len, h.nil, h.fits, h.byt, h.sm, h.tab.grown hg⟩

/-- The function value of the iterator. -/
def itV (Bs Bb Be : Nat) : Value := .func (.func 159) #[] #[.pointer (some ⟨Bs, 0, none⟩), .pointer (some ⟨Bb, 0, none⟩), .pointer (some ⟨Be, 0, none⟩)]

set_option maxHeartbeats 400000 in
theorem rowOf_any (ao : Option Addr) (n cap : Nat) (xs : List Int) (E S : Int) (w : World) (h : Src w ao n cap xs) (hS0 : 0 ≤ S) (hS1 : S < 18446744073709551616) :
    Calls Tryz.prog 115 #[.slice ao n cap, .int .u64 E, .int .u64 S] w fun e w' => ∃ Bs Bb Be, e = .returned (itV Bs Bb Be) ∧ ItF w' Bs Bb Be ao n cap xs E S ∧ w.heap.size ≤ Bs ∧ w.heap.size ≤ Bb ∧ w.heap.size ≤ Be ∧ w.grownBy w' none := by
  unfold itV
  have H := hide h
  clear h
  go_enter Tryz.func115, Tryz.ntmps115
  go_wp2
  go_ret
  have g1 := World.grownBy_alloc w (.cells #[.slice ao n cap] 39) none
  have g2 := World.grownBy_alloc (w.alloc (.cells #[.slice ao n cap] 39)) (.cells #[.int .u64 E] 22) none
  have g3 := World.grownBy_alloc ((w.alloc (.cells #[.slice ao n cap] 39)).alloc (.cells #[.int .u64 E] 22)) (.cells #[.int .u64 S] 22) none
  have b1 := Boxed.new w 39 (.slice ao n cap)
  have b2 := Boxed.new (w.alloc (.cells #[.slice ao n cap] 39)) 22 (.int .u64 E)
  have b3 := Boxed.new ((w.alloc (.cells #[.slice ao n cap] 39)).alloc (.cells #[.int .u64 E] 22)) 22 (.int .u64 S)
  have b1' := (g3.block _ (by simp; omega) (by simp)).trans ((g2.block _ (by simp) (by simp)).trans b1)
  have b2' := (g3.block _ (by simp) (by simp)).trans b2
  have hs := H.out.grown (grown_trans g1 (grown_trans g2 g3))
  refine ⟨_, _, _, rfl, ⟨?_, b1', ?_, hs.lies, hs.len, hs.nil, hs.fits, hs.byt, hs.sm, hs.tab, hS0, hS1⟩, ?_, ?_, ?_, grown_trans g1 (grown_trans g2 g3)⟩
  · simpa using b3
  · rw [World.size_alloc] at b2'; exact b2'
  · omega
  · omega
  · omega

theorem Tryz.info104 : (Tryz.prog.info? 104).map (fun i => (i.zero, i.size, i.bytes)) = some (some (.agg #[.int .u64 0, .int .u64 0, .slice none 0 0]), 3, 40) := by kernel_rfl

/-- Frames as they lie in cells. -/
def fcl (l : List El) : List Value := l.flatMap fun x => [.int .u64 x.f.e, .int .u64 x.f.s, x.v]
theorem fcl_snoc (l : List El) (x : El) : fcl (l ++ [x]) = fcl l ++ [.int .u64 x.f.e, .int .u64 x.f.s, x.v] := by simp [fcl]
theorem fcl_length : ∀ (l : List El), (fcl l).length = l.length * 3
  | [] => rfl
  | x :: l => by have := fcl_length l; simp only [fcl, List.flatMap_cons, List.length_append, List.length_cons, List.length_nil] at this ⊢; omega
theorem fcl_at : ∀ (l : List El) (i : Nat) (x : El), l[i]? = some x → (fcl l)[3 * i]? = some (.int .u64 x.f.e) ∧ (fcl l)[3 * i + 1]? = some (.int .u64 x.f.s) ∧ (fcl l)[3 * i + 2]? = some x.v
  | [], i, x, h => by simp at h
  | y :: l, 0, x, h => by simp at h; subst h; exact ⟨rfl, rfl, rfl⟩
  | y :: l, i + 1, x, h => by
    have := fcl_at l i x (by simpa using h)
    have e : fcl (y :: l) = .int .u64 y.f.e :: .int .u64 y.f.s :: y.v :: fcl l := rfl
    rw [e, show 3 * (i + 1) = 3 * i + 1 + 1 + 1 by omega]
    simpa [Nat.add_assoc] using this

/-- A list of frames: its cells, the bodies, each in a block of its own. -/
structure FsAt (w : World) (base : Nat) (v : Value) (ys : List El) : Prop where
  own : w.ownsRow base 104 3 v ys.length (fcl ys)
  each : ∀ y ∈ ys, y.At w ∧ base ≤ y.lo ∧ y.f.Ok ∧ y.f.b.length ≤ 32
  apart : ys.Pairwise (fun x y => x.hi ≤ y.lo)
theorem FsAt.nil (w : World) (base : Nat) : FsAt w base (.slice none 0 0) [] := ⟨World.ownsRow_nil _ _ _ _, (fun y hy => by cases hy), List.Pairwise.nil⟩
theorem FsAt.grown {w w' : World} {base : Nat} {v : Value} {ys : List El} (h : FsAt w base v ys) (hg : w.grownBy w' none) : FsAt w' base v ys :=
  ⟨own_grown h.own hg, fun y hy => ⟨(h.each y hy).1.grown hg, (h.each y hy).2⟩, h.apart⟩
theorem FsAt.kept {w w' : World} {base : Nat} {v : Value} {ys : List El} {k : Nat} {c : Array Value} {t : TypeId} {fr : Nat × Nat} (h : FsAt w base v ys) (hg : w.grownBy w' (some k)) (hk : w.heap[k]? = some (.cells c t fr)) (h5 : t ≠ 5) (h25 : t ≠ 104) : FsAt w' base v ys :=
  ⟨own_kept h.own hg hk h25, fun y hy => ⟨(h.each y hy).1.kept hg hk h5, (h.each y hy).2⟩, h.apart⟩
theorem FsAt.own_from {base : Nat} {v : Value} (B : Nat) : OwnFrom B (fun (ys : List El) W => FsAt W base v ys) := fun ys W W' row h hg hr => by
  refine ⟨h.own.kept hg ?_, fun y hy => ⟨El.At.own_from y B () W W' row (h.each y hy).1 hg hr, (h.each y hy).2⟩, h.apart⟩
  rcases h.own.2 with ⟨e, _⟩ | ⟨g, cap, cur, e, _, hgg, _⟩
  · exact Or.inl (by rw [e]; rfl)
  · refine Or.inr (fun e' => ?_)
    rw [e] at e'
    obtain ⟨_, o, ho, hc⟩ := hr g e'.symm
    rw [hgg] at ho
    cases ho
    cases hc
theorem own_cells {w : World} {base n size : Nat} {e : TypeId} {v : Value} {xs : List Value} (h : w.ownsRow base e size v n xs) {k : Nat} (hk : v.ownBlock = some k) : ∃ c, w.heap[k]? = some (.cells c e (0, 0)) := by
  rcases h.2 with ⟨rfl, _⟩ | ⟨g, cap, cur, rfl, _, hgg, _⟩
  · simp [Value.ownBlock] at hk
  · simp [Value.ownBlock] at hk
    subst hk
    exact ⟨cur, hgg⟩
/-- One more frame behind them. -/
theorem FsAt.push {w w' : World} {base : Nat} {v v' : Value} {ys : List El} {x : El} (h : FsAt w base v ys) (ho : w'.ownsRow base 104 3 v' (ys.length + 1) (fcl ys ++ [.int .u64 x.f.e, .int .u64 x.f.s, x.v])) (hg : w.grownBy w' v.ownBlock)
    (hx : x.At w) (hl : base ≤ x.lo) (hok : x.f.Ok) (h32 : x.f.b.length ≤ 32) (hlat : ∀ y ∈ ys, y.hi ≤ x.lo) : FsAt w' base v' (ys ++ [x]) := by
  have hkeep : ∀ y : El, y.At w → y.At w' := fun y hy => by
    cases hb : v.ownBlock with
    | none => rw [hb] at hg; exact hy.grown hg
    | some k =>
      rw [hb] at hg
      obtain ⟨c, hc⟩ := own_cells h.own hb
      exact hy.kept hg hc (by decide)
  refine ⟨?_, ?_, ?_⟩
  · rw [List.length_append, fcl_snoc]; exact ho
  · intro y hy
    rcases List.mem_append.1 hy with h1 | h1
    · exact ⟨hkeep y (h.each y h1).1, (h.each y h1).2⟩
    · simp at h1; subst h1; exact ⟨hkeep _ hx, hl, hok, h32⟩
  · refine List.pairwise_append.2 ⟨h.apart, List.pairwise_singleton _ _, fun a ha b hb => ?_⟩
    simp at hb; subst hb; exact hlat a ha

theorem FsAt.base {w : World} {base base' : Nat} {v : Value} {ys : List El} (h : FsAt w base v ys) (hb : base' ≤ base) : FsAt w base' v ys :=
  ⟨own_base h.own hb, fun y hy => ⟨(h.each y hy).1, Nat.le_trans hb (h.each y hy).2.1, (h.each y hy).2.2⟩, h.apart⟩
/-- Inside Scan, between two frames: the row's box, the end's box. -/
structure ScI (w W : World) (B0 B8 B9 n : Nat) (pre : List El) : Prop where
  row : ∃ v, Boxed W B8 54 v ∧ FsAt W B0 v pre
  fin : Boxed W B9 3 (.int .i64 ((fend (frs pre) : Nat) : Int))
  gr : w.grownBy W none
  short : fend (frs pre) ≤ n

theorem ScI.own_from {w : World} {B0 B8 B9 n B : Nat} (hB : w.heap.size ≤ B) : OwnFrom B (fun pre W => ScI w W B0 B8 B9 n pre) := fun pre W W' row h hg hr => by
  obtain ⟨v, hb, hf⟩ := h.row
  have hnb : ∀ {k : Nat} {t : TypeId} {u : Value}, Boxed W k t u → row ≠ some k := fun hbx e => by
    obtain ⟨_, o, ho, hc⟩ := hr _ e
    rw [show W.heap[_]? = _ from hbx] at ho
    cases ho; cases hc
  exact ⟨⟨v, (hg.block B8 hb.lt (fun e => hnb hb e.symm)).trans hb, FsAt.own_from B pre W W' row hf hg hr⟩, (hg.block B9 h.fin.lt (fun e => hnb h.fin e.symm)).trans h.fin,
    grown_then h.gr hg (fun j e => Or.inl (Nat.le_trans hB (hr j e).1)), h.short⟩

theorem row_seqV (Kp : World → World → Prop) (n : Nat) (hn : 1 ≤ n) (Bs Bb Be : Nat) (ao : Option Addr) (m cap : Nat) (xs : List Int) (E S : Int) (hKp : ∀ W W', Kp W W' → Keeps (itQ Bs Bb Be (liveA ao xs)) W W') (N : Nat) (W : World) (hI : ItF W Bs Bb Be ao m cap xs E S) (hN : N ≤ W.heap.size) :
    SeqV Fence.wide n Tryz.prog 159 #[.pointer (some ⟨Bs, 0, none⟩), .pointer (some ⟨Bb, 0, none⟩), .pointer (some ⟨Be, 0, none⟩)] El.enc Kp (ElV N E S xs) (fun ys => frs ys = rowF E S xs) W := fun l J Jx hJ _ hY h0 =>
  row1_in Kp n hn l Bs Bb Be ao m cap xs E S hKp J Jx hJ N hY W hI h0 hN

theorem itQ_lt {W : World} {Bs Bb Be : Nat} {ao : Option Addr} {n cap : Nat} {xs : List Int} {E S : Int} (h : ItF W Bs Bb Be ao n cap xs E S) : ∀ k, itQ Bs Bb Be (liveA ao xs) k → k < W.heap.size := by
  rintro k (rfl | rfl | rfl | rfl | ⟨a, ha, rfl⟩)
  · exact h.bs.lt
  · exact h.bb.lt
  · exact h.be.lt
  · exact tab_lt h.tab
  · exact h.lies.live ha
theorem cells_own_from {β : Type} (B F : Nat) (c : Array Value) (t : TypeId) (fr : Nat × Nat) : OwnFrom B (fun (_ : β) (W : World) => W.heap[F]? = some (.cells c t fr)) := fun _ W W' row h hg hr => by
  refine (hg.block F (row_lt h) (fun e => ?_)).trans h
  obtain ⟨_, o, ho, hc⟩ := hr F e.symm
  rw [h] at ho
  cases ho
  cases hc
theorem cell3_new (W : World) (a b c : Value) (t : TypeId) : ∀ j u, [a, b, c][j]? = some u → (W.alloc (.cells #[a, b, c] t)).cell? ((⟨W.heap.size, 0, none⟩ : Addr).add j) = some u := by
  intro j u hu
  rw [Addr.add_lit, Nat.zero_add, cell_row (heap_alloc_new W (.cells [a, b, c].toArray t))]
  exact hu
theorem Boxed.set {W : World} {B : Nat} {t : TypeId} {v : Value} (h : Boxed W B t v) (u : Value) : Boxed (W.setCell ⟨B, 0, none⟩ u) B t u := by
  have := row_setCell (l := [v]) h 0 u
  exact this

set_option maxHeartbeats 400000 in
theorem size_same (k : Nat) (w : World) (h : k ≤ 32) : Calls Tryz.prog 91 #[.int .i64 (k : Int)] w fun e w' => e = .returned (.int .i64 ((22 + k : Nat) : Int)) ∧ w' = w := by
  go_enter Tryz.func91, Tryz.ntmps91
  go_wp2
  go_ret
  exact ⟨by go_num, rfl⟩
theorem keeps_own {W W' : World} {base n size : Nat} {e : TypeId} {v : Value} {xs : List Value} (ho : W.ownsRow base e size v n xs) (hg : W.grownBy W' v.ownBlock) : KeepsOthers W W' :=
  KeepsOthers.of_grownBy hg (fun j o hj hk => by obtain ⟨c, hc⟩ := own_cells ho hj; rw [hc] at hk; cases hk; rfl)

set_option maxRecDepth 100000 in
set_option maxHeartbeats 2000000 in
theorem scan_any (ao : Option Addr) (n cap : Nat) (xs : List Int) (E S : Int) (w : World) (h : Src w ao n cap xs) (hS0 : 0 ≤ S) (hS1 : S < 18446744073709551616) (hb : n ≤ 1099511627776) :
    Calls Tryz.prog 74 #[.slice ao n cap, .int .u64 E, .int .u64 S] w fun e w' => ∃ v ys, e = .returned (.tuple #[v, .int .i64 ((fend (rowF E S xs) : Nat) : Int)]) ∧ frs ys = rowF E S xs ∧ FsAt w' w.heap.size v ys ∧ w.grownBy w' none := by
  have H := hide h
  have h0 := tab_lt h.tab
  clear h
  refine (callsIn_wide (n := 6)).1 (callsIn_of_wp_marks Tryz.func74 rfl trivial ?_ rfl)
  simp only [Tryz.ntmps74, List.size_toArray, List.length_cons, List.length_nil, Nat.reduceAdd, Nat.reduceSub, Array.replicate_succ, Array.replicate_zero, List.push_toArray, List.append_toArray, List.nil_append, List.cons_append]
  refine wpIn_wide.2 ?_
  have hg1 : w.grownBy ((w.alloc (.cells #[.slice none 0 0] 54)).alloc (.cells #[.int .i64 0] 3)) none := grown_trans (World.grownBy_alloc w _ none) (World.grownBy_alloc _ _ none)
  have b8 : Boxed ((w.alloc (.cells #[.slice none 0 0] 54)).alloc (.cells #[.int .i64 0] 3)) w.heap.size 54 (.slice none 0 0) := (Below.heap_alloc _ _ _ (by simp)).trans (Boxed.new w 54 (.slice none 0 0))
  have b9 : Boxed ((w.alloc (.cells #[.slice none 0 0] 54)).alloc (.cells #[.int .i64 0] 3)) (w.heap.size + 1) 3 (.int .i64 0) := by
    have := Boxed.new (w.alloc (.cells #[.slice none 0 0] 54)) 3 (.int .i64 0)
    rwa [World.size_alloc] at this
  have H1 := hide (And.intro hg1 (And.intro b8 b9))
  clear hg1 b8 b9
  have hsz1 : ((w.alloc (.cells #[.slice none 0 0] 54)).alloc (.cells #[.int .i64 0] 3)).heap.size = w.heap.size + 2 := by simp
  go_wp2_with fail
  generalize ((w.alloc (.cells #[.slice none 0 0] 54)).alloc (.cells #[.int .i64 0] 3)) = w1 at *
  refine (rowOf_any ao n cap xs E S w1 (H.out.grown H1.out.1) hS0 hS1).mono ?_
  rintro e w2 ⟨Bs, Bb, Be, rfl, hI, h1, h2, h3, hg⟩
  have I0 : Hid (ScI w w2 w2.heap.size w.heap.size (w.heap.size + 1) n []) := ⟨⟨_, (hg.block _ (by omega) (by simp)).trans H1.out.2.1, FsAt.nil _ _⟩, (hg.block _ (by omega) (by simp)).trans H1.out.2.2, grown_trans H1.out.1 hg, by simp [fend, frs]⟩
  have hsz2 : w.heap.size + 2 ≤ w2.heap.size := by have := hg.size; omega
  have HI := hide hI
  clear hI hg H1
  unfold itV
  have HL2 : Hid (∀ k, itQ Bs Bb Be (liveA ao xs) k → k < w2.heap.size) := itQ_lt HI.out
  have HQ8 : Hid (¬ itQ Bs Bb Be (liveA ao xs) w.heap.size) := by
    rintro (e | e | e | e | ⟨a, ha, e⟩)
    · omega
    · omega
    · omega
    · omega
    · have := H.out.lies.live ha; omega
  have HQ9 : Hid (¬ itQ Bs Bb Be (liveA ao xs) (w.heap.size + 1)) := by
    rintro (e | e | e | e | ⟨a, ha, e⟩)
    · omega
    · omega
    · omega
    · omega
    · have := H.out.lies.live ha; omega
  obtain ⟨i0, hi, hz0, hz1, hz2⟩ := info_parts Tryz.info104
  have HI25 := hide (And.intro hi (And.intro hz0 (And.intro hz1 hz2)))
  clear hi hz0 hz1 hz2
  go_wp2
  refine (wpIn_wide (n := 6)).1 (wpIn_range_V (w := w2) rfl (by decide) (gf := 159) (lb := #[.pointer (some ⟨Bs, 0, none⟩), .pointer (some ⟨Bb, 0, none⟩), .pointer (some ⟨Be, 0, none⟩)]) rfl trivial (enters_of Tryz.func159 (by kernel_rfl) rfl)
    (encs := El.enc) (Kp := Keeps (itQ Bs Bb Be (liveA ao xs))) (V := ElV w2.heap.size E S xs) (S := fun ys => frs ys = rowF E S xs)
    (fun W hW => row_seqV _ 5 (by decide) Bs Bb Be ao n cap xs E S (fun _ _ h => h) w2.heap.size W (HI.out.grown hW) hW.size)
    (fun h k => h.trans k) (fun W l o hl => Keeps.putObj W l o (fun hq => by have := HL2.out l hq; omega)) (fun W W' _ hg => Keeps.of hg (fun _ e => by cases e)) (fun _ => rfl)
    (fun pre => ElV.own_from _ _ _ _ _ pre)
    (fun pre W => ScI w W w2.heap.size w.heap.size (w.heap.size + 1) n pre ∧ w2.heap.size ≤ W.heap.size) (fun _ _ _ => False)
    (fun s W W' row h hg hr => ⟨ScI.own_from (by omega) s W W' row h.1 hg hr, Nat.le_trans h.2 hg.size⟩) (fun _ _ _ _ _ h _ _ => h) ⟨I0.out, Nat.le_refl _⟩
    (fun x a' W => ∃ F v8, a' = { tmps := #[Value.slice ao n cap, Value.int .u64 E, Value.int .u64 S, undef, undef, undef,
          Value.slice none 0 0, Value.int .i64 0, Value.pointer (some ⟨w.heap.size, 0, none⟩),
          Value.pointer (some ⟨w.heap.size + 1, 0, none⟩), .int .i64 (x.at_ : Int), .pointer (some ⟨F, 0, none⟩), Value.slice ao n cap,
          Value.int .u64 E, Value.int .u64 S,
          Value.func (Fn.func 159) #[] #[Value.pointer (some ⟨Bs, 0, none⟩), Value.pointer (some ⟨Bb, 0, none⟩), Value.pointer (some ⟨Be, 0, none⟩)],
          .int .i64 (x.at_ : Int), frV x.f.e x.f.s x.v, undef, undef, undef, undef, undef, undef, undef, undef, undef, undef, undef, undef], defers := [] } ∧ W.heap[F]? = some (.cells [Value.int .u64 x.f.e, .int .u64 x.f.s, x.v].toArray 104 (0, 0)) ∧ w2.heap.size ≤ F ∧ Boxed W w.heap.size 54 v8 ∧ (∀ k, v8.ownBlock = some k → k ≠ F))
    (fun x a' W W' row h hg hr => by obtain ⟨F, v8, ha, hF, hl, hb, hk⟩ := h; exact ⟨F, v8, ha, cells_own_from (β := Unit) _ F _ 104 _ () W W' row hF hg hr, hl, cells_own_from (β := Unit) _ w.heap.size _ 54 _ () W W' row hb hg hr, hk⟩)
    ?assign ?body ?done (fun _ _ _ _ _ h _ => h.elim))
  case assign =>
    intro l pre x W K hI hV hK
    have hsz : w2.heap.size ≤ W.heap.size := hI.2
    obtain ⟨vo, vc, hvf⟩ := own_form hV.lies.own
    simp only [El.enc, frV]
    rw [hvf]
    gi_wp2
    rw [← hvf]
    obtain ⟨v8, hb8, hf8⟩ := hI.1.row
    refine hK _ _ (World.grownBy_alloc W _ none) ⟨_, v8, rfl, heap_alloc_new W _, hsz, (Below.heap_alloc _ _ _ hb8.lt).trans hb8, fun k hk => ?_⟩
    have := (hf8.own.lt k hk).2
    omega
  case body =>
    rintro l pre ⟨at_, ⟨e, s, b⟩, v, lo, hi⟩ a' W ⟨hI, hsz⟩ hV ⟨F, v8, rfl, hF, hFl, hb8', hk8⟩
    obtain ⟨vo, vc, hvf⟩ := own_form hV.lies.own
    simp only at hvf
    subst hvf
    obtain ⟨vr, hb8, hfs⟩ := hI.row
    obtain rfl : v8 = vr := by
      have := (show W.heap[w.heap.size]? = _ from hb8').symm.trans (show W.heap[w.heap.size]? = _ from hb8)
      simpa using this
    obtain ⟨ro, rc, rfl⟩ := own_form hfs.own
    have HK8 := hide hk8
    clear hb8' hk8
    have c8 := hb8.cell
    obtain ⟨d0, d1, d2⟩ := box_cells hF
    have h22 := fend_len (frs pre)
    rw [frs_length] at h22
    have hfit : pre.length * 22 ≤ n := by have := hI.short; omega
    have hat := hV.place
    simp only at hat
    have h32 := hV.short
    simp only at h32
    have HX := hide (And.intro hI (And.intro hV (And.intro hF (And.intro hb8 hfs))))
    simp only [frV]
    clear hI hV hF hb8 hfs
    gi_wp2_with (gi_at_builtin; refine wpListIn_append_own _ rfl (.tmp 18) (.tmp 20) 54 rfl w2.heap.size 104 i0 (.agg #[.int .u64 0, .int .u64 0, .slice none 0 0]) 3 40 Tryz.underlying54 HI25.out.1 HI25.out.2.1 HI25.out.2.2.1 HI25.out.2.2.2 rfl (by decide) (.slice ro pre.length rc) pre.length (fcl pre) rfl (own_grown HX.out.2.2.2.2.own (World.grownBy_alloc W _ none)) ⟨W.heap.size, 0, none⟩ 1 1 [.int .u64 e, .int .u64 s, .slice vo b.length vc] rfl rfl (cell3_new _ _ _ _ _) (by simp [Value.oneCell']) (by unfold maxLen; omega) (by omega) (by simp; omega) ?_)
    intro v' w1 ho hg hne
    obtain ⟨hI, hV, hF, hb8, hfs⟩ := HX.out
    have hga := World.grownBy_alloc W (.cells #[.int .u64 e, .int .u64 s, .slice vo b.length vc] 104) none
    have hrow : ∀ k, (Value.slice ro pre.length rc).ownBlock = some k → w2.heap.size ≤ k := fun k hk => (hfs.own.lt k hk).1
    have hp : FsAt w1 w2.heap.size v' (pre ++ [⟨at_, ⟨e, s, b⟩, .slice vo b.length vc, lo, hi⟩]) :=
      (hfs.grown hga).push (by exact ho) hg (hV.lies.grown hga) hV.lo hV.ok hV.short hV.later
    have hkeep : ∀ k, k < W.heap.size → (Value.slice ro pre.length rc).ownBlock ≠ some k → w1.heap[k]? = W.heap[k]? := fun k hk hne => (hg.block k (by simp; omega) (fun e => hne e.symm)).trans (hga.block k hk (by simp))
    have b8 : Boxed w1 w.heap.size 54 (.slice ro pre.length rc) := (hkeep _ hb8.lt (fun e => by have := hrow _ e; omega)).trans hb8
    have b9 : Boxed w1 (w.heap.size + 1) 3 (.int .i64 ((fend (frs pre) : Nat) : Int)) := (hkeep _ hI.fin.lt (fun e => by have := hrow _ e; omega)).trans hI.fin
    have hF1 := (hkeep F (row_lt hF) (fun e => HK8.out F e rfl)).trans hF
    obtain ⟨ro', rc', rfl⟩ := own_form ho
    have hs8 := grown_setCell w1 w.heap.size 0 (.slice ro' (pre.length + 1) rc')
    have hp2 := hp.kept hs8 b8 (by decide) (by decide)
    have b8' := b8.set (.slice ro' (pre.length + 1) rc')
    have b9' := b9.other (by omega) (B' := w.heap.size) (.slice ro' (pre.length + 1) rc')
    have hFne : F ≠ w.heap.size := by omega
    have hF2 := (hs8.block F (row_lt hF1) (by simpa using hFne)).trans hF1
    have hK2 : KeepsOthers W (w1.setCell ⟨w.heap.size, 0, none⟩ (.slice ro' (pre.length + 1) rc')) :=
      ((KeepsOthers.alloc W _).trans (keeps_own (hfs.grown hga).own hg)).trans (KeepsOthers.setCell _ _ _)
    have hKp2 : Keeps (itQ Bs Bb Be (liveA ao xs)) W (w1.setCell ⟨w.heap.size, 0, none⟩ (.slice ro' (pre.length + 1) rc')) := by
      refine ((Keeps.of hga (fun _ e => by cases e)).trans (Keeps.of hg (fun k hk hq => ?_))).trans (Keeps.of hs8 (fun k hk hq => by cases hk; exact HQ8.out hq))
      have := HL2.out k hq
      have := hrow k hk
      omega
    have hg2 : w.grownBy (w1.setCell ⟨w.heap.size, 0, none⟩ (.slice ro' (pre.length + 1) rc')) none :=
      grown_then (grown_then (grown_trans hI.gr hga) hg (fun j e => Or.inl (by have := hrow j e; omega))) hs8 (fun j e => by cases e; exact Or.inl (Nat.le_refl _))
    have c8 := b8.cell
    have f8 := b8.frozen
    have c9 := b9'.cell
    have f9 := b9'.frozen
    obtain ⟨e0, e1, e2⟩ := box_cells hF2
    have HY := hide (And.intro hp2 (And.intro b8' (And.intro b9' (And.intro hK2 (And.intro hKp2 (And.intro hg2 hV))))))
    have hb32 : b.length ≤ 32 := h32
    have hfe : fend (frs pre) ≤ n := hI.short
    have HSh : Hid (fend (frs pre) + (22 + b.length) ≤ n) := by
      have := hV.row.fits
      rw [fend_snoc, H.out.len] at this
      exact this
    clear hI hV hF hb8 hfs hga hrow hp hkeep b8 b9 hF1 hs8 hp2 b8' b9' hF2 hK2 hKp2 hg2 ho hg hne HX d0 d1 d2 h22 hfit
    generalize hW3 : w1.setCell ⟨w.heap.size, 0, none⟩ (.slice ro' (pre.length + 1) rc') = w3 at *
    gi_wp2_with fail
    refine ⟨trivial, ?_⟩
    refine (CallsIn.inRound l (callsIn_wide.2 (size_same b.length w3 hb32))).mono ?_
    rintro e' w4 ⟨rfl, rfl⟩
    gi_wp2
    obtain ⟨hp2, b8', b9', hK2, hKp2, hg2, hV⟩ := HY.out
    have hs9 := grown_setCell w4 (w.heap.size + 1) 0 (.int .i64 (((fend (frs pre) : Nat) : Int) + ((22 + b.length : Nat) : Int)))
    refine ⟨(hK2.trans (KeepsOthers.setCell _ _ _)).from _, hKp2.trans (Keeps.of hs9 (fun k hk hq => by cases hk; exact HQ9.out hq)), ⟨⟨_, b8'.other (by omega) _, hp2.kept hs9 b9' (by decide) (by decide)⟩, ?_, grown_then hg2 hs9 (fun j e => by cases e; exact Or.inl (by omega)), ?_⟩, ?_⟩
    · have := b9'.set (.int .i64 (((fend (frs pre) : Nat) : Int) + ((22 + b.length : Nat) : Int)))
      rw [frs_snoc, fend_snoc, Int.natCast_add]
      exact this
    · rw [frs_snoc, fend_snoc]; exact HSh.out
    · exact Nat.le_trans hsz (Nat.le_trans hK2.size (by simp [World.setCell]))
  case done =>
    rintro D ys W hD hys ⟨hI, hsz⟩ hK
    obtain ⟨v, hb8, hfs⟩ := hI.row
    have c8 := hb8.cell
    have c9 := hI.fin.cell
    have HX := hide (And.intro hI (And.intro hb8 (And.intro hfs (And.intro hK hys))))
    obtain ⟨ro, rc, rfl⟩ := own_form hfs.own
    clear hI hb8 hfs hK hys
    go_wp2
    go_quiet (fail)
    go_wp2
    obtain ⟨hI, hb8, hfs, hK, hys⟩ := HX.out
    have hKd : (W.drewN nq).heap[D]? = some (.deferred (some [])) := hK
    refine ⟨by simp, .inl ⟨_, _, rfl, run_takeDeferred hKd, ?_⟩⟩
    have hf2 := FsAt.own_from (B := w2.heap.size) ys (W.drewN nq) ((W.drewN nq).putObj D (.deferred none)) (some D) ((hfs.base (base' := w.heap.size) (by omega)).grown (grown_drewN W nq none)) (grownBy_putObj' _ D _) (fun r e => by cases e; exact ⟨hD, _, hKd, rfl⟩)
    refine ⟨_, results_tmp2 rfl _ _ _, _, ys, by rw [← hys]; rfl, hys, hf2, ?_⟩
    exact grown_then (grown_trans hI.gr (grown_drewN W nq none)) (grownBy_putObj' _ D _) (fun j e => by cases e; exact Or.inl (by omega))
end Go.Proofs.YtofdijaipjkfbaaGreatDoor.Fm
