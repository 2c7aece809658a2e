/- The contract of the iterator over a row of frames (rowOf's closure). -/
import Derived.Test.YtoeehajdmdmemabDoorFg
import Derived.Test.YtoeehajdmdmemabDoorRv
import Derived.Shelf.Abstract
import Derived.Shelf.RegionOpen
import Derived.OwnWalkIn
import Derived.TacticsInMore
import Derived.LoopNIn
import Derived.LoopIn
import Derived.RegionIn
import Derived.Scope
import Derived.WalkMore
import Derived.Maps.AppendAt
namespace Go.Proofs.YtoeehajdmdmemabDoor
open Go.RowKit Go.Shelf
attribute [local go_sem] Oper.semAt_some

theorem own_form {w : World} {base n size : Nat} {e : TypeId} {v : Value} {xs : List Value} (h : w.ownsRow base e size v n xs) : ∃ ao cap, v = .slice ao n cap := by
  rcases h.2 with ⟨rfl, rfl⟩ | ⟨g, cap, cur, rfl, _⟩
  · exact ⟨_, _, rfl⟩
  · exact ⟨_, _, rfl⟩
/-- Blocks of Q lie as they lay. -/
def Keeps (Q : Nat → Prop) (W W' : World) : Prop := W.heap.size ≤ W'.heap.size ∧ ∀ k, Q k → k < W.heap.size → W'.heap[k]? = W.heap[k]?
theorem Keeps.refl (Q : Nat → Prop) (W : World) : Keeps Q W W := ⟨Nat.le_refl _, fun _ _ _ => rfl⟩
theorem Keeps.trans {Q : Nat → Prop} {A B C : World} (h : Keeps Q A B) (k : Keeps Q B C) : Keeps Q A C :=
  ⟨Nat.le_trans h.1 k.1, fun i hq hi => (k.2 i hq (Nat.lt_of_lt_of_le hi h.1)).trans (h.2 i hq hi)⟩
theorem Keeps.of {Q : Nat → Prop} {W W' : World} {row : Option Nat} (h : W.grownBy W' row) (hr : ∀ k, row = some k → ¬ Q k) : Keeps Q W W' :=
  ⟨h.size, fun k hq hk => h.block k hk (fun e => hr k e.symm hq)⟩
theorem Keeps.putObj {Q : Nat → Prop} (W : World) (l : Nat) (o : Obj) (h : ¬ Q l) : Keeps Q W (W.putObj l o) :=
  ⟨by simp, fun k hq _ => World.putObj_heap_other (fun e => h (e ▸ hq))⟩

/-- The iterator's blocks. -/
def itQ (Bs Bb Be : Nat) (ao : Option Addr) (k : Nat) : Prop := k = Bs ∨ k = Bb ∨ k = Be ∨ k = 0 ∨ ∃ a, ao = some a ∧ k = a.block
/-- The iterator over the frames of xs, of the epoch E, behind S: its variables and what they lead to. -/
structure ItF (W : World) (Bs Bb Be : Nat) (ao : Option Addr) (n cap : Nat) (xs : List Int) (E S : Int) : Prop where
  bs : Boxed W Bs 23 (.int .u64 S)
  bb : Boxed W Bb 22 (.slice ao n cap)
  be : Boxed W Be 23 (.int .u64 E)
  lies : At W ao xs
  len : xs.length = n
  nil : ao = none → n = 0 ∧ cap = 0
  fits : n ≤ cap
  byt : Byt xs
  sm : n ≤ 140737488355328
  tab : Tab W
  s0 : 0 ≤ S
  s1 : S < 18446744073709551616
theorem tab_lt {W : World} (h : Tab W) : 0 < W.heap.size := by
  have := cells_of_cell (h 0 (by omega))
  obtain ⟨o, ho, _⟩ := this
  exact row_lt ho
theorem ItF.keeps {W W' : World} {Bs Bb Be : Nat} {ao : Option Addr} {n cap : Nat} {xs : List Int} {E S : Int} (h : ItF W Bs Bb Be ao n cap xs E S) (hk : Keeps (itQ Bs Bb Be (liveA ao xs)) W W') : ItF W' Bs Bb Be ao n cap xs E S := by
  refine ⟨(hk.2 Bs (Or.inl rfl) h.bs.lt).trans h.bs, (hk.2 Bb (Or.inr (Or.inl rfl)) h.bb.lt).trans h.bb, (hk.2 Be (Or.inr (Or.inr (Or.inl rfl))) h.be.lt).trans h.be, ?_, h.len, h.nil, h.fits, h.byt, h.sm, ?_, h.s0, h.s1⟩
  · intro j u hu
    obtain ⟨a, ha, hc⟩ := h.lies j u hu
    refine ⟨a, ha, ?_⟩
    obtain ⟨o, ho, _⟩ := cells_of_cell hc
    have hb : (a.add j).block = a.block := addr_add_block a j
    exact (World.cell?_of_block (w := W) (hk.2 _ (by rw [hb]; exact Or.inr (Or.inr (Or.inr (Or.inr ⟨a, by unfold liveA; rw [if_neg (fun e => by rw [e] at hu; simp at hu)]; exact ha, rfl⟩)))) (row_lt ho))).trans hc
  · intro j hj
    exact (World.cell?_of_block (w := W) (a := ⟨0, j, none⟩) (hk.2 0 (Or.inr (Or.inr (Or.inr (Or.inl rfl)))) (tab_lt h.tab))).trans (h.tab j hj)
theorem ItF.grown {W W' : World} {Bs Bb Be : Nat} {ao : Option Addr} {n cap : Nat} {xs : List Int} {E S : Int} (h : ItF W Bs Bb Be ao n cap xs E S) (hg : W.grownBy W' none) : ItF W' Bs Bb Be ao n cap xs E S :=
  h.keeps (Keeps.of hg (fun _ e => by cases e))

/-- What is handed on: the place, the frame, its body's value, and between which blocks that lies. -/
structure El where
  at_ : Nat
  f : Fr
  v : Value
  lo : Nat
  hi : Nat
def El.enc (x : El) : Array Value := #[.int .i64 (x.at_ : Int), frV x.f.e x.f.s x.v]
def frs (l : List El) : List Fr := l.map El.f
theorem frs_snoc (l : List El) (x : El) : frs (l ++ [x]) = frs l ++ [x.f] := by simp [frs]
theorem frs_length (l : List El) : (frs l).length = l.length := by simp [frs]
/-- The body's value leads to the body's bytes, in a block of its own. -/
structure El.At (x : El) (W : World) : Prop where
  own : W.ownsRow x.lo 5 1 x.v x.f.b.length (x.f.b.map (Value.int .u8))
  top : ∀ k, x.v.ownBlock = some k → k < x.hi
  size : x.hi ≤ W.heap.size
/-- What is so of an element when it is handed on. -/
structure ElV (N : Nat) (E S : Int) (xs : List Int) (pre : List El) (x : El) (W : World) : Prop where
  place : x.at_ = fend (frs pre)
  row : RowInv E S xs (frs pre ++ [x.f])
  ok : x.f.Ok
  short : x.f.b.length ≤ 32
  lies : x.At W
  later : ∀ y ∈ pre, y.hi ≤ x.lo
  lo : N ≤ x.lo
theorem El.At.grown {x : El} {W W' : World} (h : x.At W) (hg : W.grownBy W' none) : x.At W' := ⟨own_grown h.own hg, h.top, Nat.le_trans h.size hg.size⟩
theorem El.At.kept {x : El} {W W' : World} {k : Nat} {c : Array Value} {t : TypeId} {fr : Nat × Nat} (h : x.At W) (hg : W.grownBy W' (some k)) (hk : W.heap[k]? = some (.cells c t fr)) (hne : t ≠ 5) : x.At W' := ⟨own_kept h.own hg hk hne, h.top, Nat.le_trans h.size hg.size⟩
theorem El.At.own_from (x : El) (B : Nat) : OwnFrom B (fun (_ : Unit) W => x.At W) := fun _ W W' row h hg hr => by
  refine ⟨h.own.kept hg ?_, h.top, Nat.le_trans h.size hg.size⟩
  rcases h.own.2 with ⟨e, _⟩ | ⟨g, cap, cur, e, _, hgg, _⟩
  · exact Or.inl (by rw [e]; rfl)
  · refine Or.inr (fun e' => ?_)
    rw [e] at e'
    obtain ⟨_, o, ho, hc⟩ := hr g e'.symm
    rw [hgg] at ho
    cases ho
    cases hc
theorem ElV.own_from (B N : Nat) (E S : Int) (xs : List Int) (pre : List El) : OwnFrom B (ElV N E S xs pre) := fun x W W' row h hg hr =>
  ⟨h.place, h.row, h.ok, h.short, El.At.own_from x B () W W' row h.lies hg hr, h.later, h.lo⟩

def leftF (n : Nat) (v : Value) : Nat := n - (intOf v).toNat
theorem leftF_nat (n k : Nat) : leftF n (.int .i64 (k : Int)) = n - k := by simp [leftF, intOf]

theorem cut_nil {ao : Option Addr} {n cap k : Nat} (h : ao = none → n = 0 ∧ cap = 0) (he : cutA ao k cap = none) : n - k = 0 ∧ cap - k = 0 := by
  have : ao = none := by
    unfold cutA at he
    split at he
    · exact he
    · cases ao <;> simp_all
  have := h this
  omega
theorem ItF.get {W : World} {Bs Bb Be : Nat} {ao : Option Addr} {n cap : Nat} {xs : List Int} {E S : Int} (h : ItF W Bs Bb Be ao n cap xs E S) (k : Nat) (hk : k ≤ n) :
    Calls Tryd.prog 10 #[.slice (cutA ao k cap) (n - k) (cap - k)] W fun r w' => ∃ v, r = .returned (.tuple #[frV (getF (xs.drop k)).f.e (getF (xs.drop k)).f.s v, .int .i64 ((getF (xs.drop k)).n : Int), .int .i64 (getF (xs.drop k)).c]) ∧
      w'.ownsRow W.heap.size 5 1 v (getF (xs.drop k)).f.b.length ((getF (xs.drop k)).f.b.map (Value.int .u8)) ∧ W.grownBy w' none :=
  fget_any (xs.drop k) (h.byt.drop k) _ _ _ W (by rw [List.length_drop, h.len]) (h.lies.cut k cap (by rw [h.len]; exact h.fits)) (cut_nil h.nil) (by have := h.fits; omega) (by have := h.sm; omega) h.tab

theorem OwnFrom_drew {β : Type} {J : β → World → Prop} (h : Stands J) {s : β} {W : World} (hs : J s W) : J s W.drew := h s W _ hs (grown_drew W none)

set_option maxRecDepth 100000 in
set_option maxHeartbeats 1000000 in
theorem row1_in (Kp : World → World → Prop) (n : Nat) (hn : 1 ≤ n) (l Bs Bb Be : Nat) (ao : Option Addr) (m cap : Nat) (xs : List Int) (E S : Int) (hKp : ∀ W W', Kp W W' → Keeps (itQ Bs Bb Be (liveA ao xs)) W W') (J Jx : List El → World → Prop) (hJ : Stands J) (N : Nat)
    (hY : ∀ pre x W, J pre W → ElV N E S xs pre x W → YieldAt Fence.wide (n - 1) Tryd.prog l x.enc W fun e W' =>
      (e = .returned (.bool true) ∧ J (pre ++ [x]) W' ∧ Kp W W') ∨ (e = .returned (.bool false) ∧ Jx (pre ++ [x]) W'))
    (W : World) (hI : ItF W Bs Bb Be ao m cap xs E S) (h0 : J [] W) (hN : N ≤ W.heap.size) :
    CallsIn Fence.wide n Tryd.prog 31 #[.func (.yield l) #[] #[], .pointer (some ⟨Bs, 0, none⟩), .pointer (some ⟨Bb, 0, none⟩), .pointer (some ⟨Be, 0, none⟩)] W fun e W' => (∃ v, e = .returned v) ∧
      ((∃ ys, frs ys = rowF E S xs ∧ J ys W') ∨ (∃ pre, Jx pre W')) := by
  refine callsIn_of_wp Tryd.func31 rfl trivial ?_ rfl
  simp only [Tryd.ntmps31, List.size_toArray, List.length_cons, List.length_nil, Nat.reduceAdd, Nat.reduceSub, Array.replicate_succ, Array.replicate_zero, List.push_toArray, List.append_toArray, List.nil_append, List.cons_append]
  have hc1 := hI.bs.cell
  have hcd : W.drew.cell? ⟨Bs, 0, none⟩ = some (.int .u64 S) := hc1
  refine wpIn_wide.2 (wp_scope_straight ((wpIn_wide (n := n)).1 ?_))
  gi_wp2
  gi_region
  gi_wp2
  refine wpIn_label ?_
  gi_wp2
  gi_loopw [5, 6] (fun q5 q6 wr => ∃ pre : List El, q5 = .int .i64 ((fend (frs pre) : Nat) : Int) ∧ q6 = .int .u64 (S + (pre.length : Int)) ∧ Hid (RowInv E S xs (frs pre)) ∧ J pre wr ∧ ItF wr Bs Bb Be ao m cap xs E S ∧ Hid (∀ y ∈ pre, y.hi ≤ wr.heap.size) ∧ N ≤ wr.heap.size) (fun q5 _ _ => leftF m q5)
  case atStart => exact ⟨[], rfl, by simp, hide (RowInv.start hI.s1), OwnFrom_drew hJ h0, hI.grown (grown_drew W none), hide (fun y hy => by cases hy), hN⟩
  case round =>
    obtain ⟨pre, rfl, rfl, hR, hJp, hIp, hH, hNp⟩ := hrel
    have hlen := frs_length pre
    have hRt := hR.out.top
    have hRf := hR.out.fits
    rw [hlen] at hRt
    rw [hIp.len] at hRf
    have hs0 := hIp.s0
    have hm := hIp.sm
    obtain ⟨T, hT⟩ : ∃ T, T = S + (pre.length : Int) := ⟨_, rfl⟩
    rw [← hT] at hRt ⊢
    have HT := hide hT
    have hT0 : 0 ≤ T := by omega
    clear hT hs0
    obtain ⟨k, hk⟩ : ∃ k, k = fend (frs pre) := ⟨_, rfl⟩
    rw [← hk] at hRf ⊢
    have HK := hide hk
    clear hk hlen
    by_cases hmax : T = 18446744073709551615
    · have hend : frs pre = rowF E S xs := by
        refine (hR.out.stop (fun hg => ?_)).symm
        have := hg.2.2.2
        rw [frs_length, ← HT.out] at this
        omega
      have hbe : (T != 18446744073709551615) = false := by simpa using hmax
      clear hc1 hcd
      have HE := hide hend
      clear hend hmax
      gi_wp2
      rw [Exit.noGoto_normal]
      go_end0
      exact ⟨⟨_, rfl⟩, .inl ⟨pre, HE.out, hJp⟩⟩
    · have hbe : (T != 18446744073709551615) = true := by simpa using hmax
      have hTm : T < 18446744073709551615 := by omega
      have hsf := slice_from ao m cap k hRf
      have HG := hide (hIp.get k hRf)
      have hcb := hIp.bb.cell
      clear hc1 hcd hmax hRt
      gi_wp2_with fail
      refine ⟨trivial, ?_⟩
      refine (callsIn_wide.2 HG.out).mono ?_
      rintro e w1 ⟨v, rfl, hv, hg⟩
      obtain ⟨G, hG⟩ : ∃ G, G = getF (xs.drop k) := ⟨_, rfl⟩
      rw [← hG] at hv ⊢
      have HGd := hide hG
      obtain ⟨vo, vc, rfl⟩ := own_form hv
      have HV := hide (And.intro hv hg)
      rcases G with ⟨⟨e', s', b'⟩, gn, gc⟩
      clear hv hg hG HG hcb hsf hbe
      simp only at HV ⊢
      have hg2 := grown_trans HV.out.2 (World.grownBy_alloc w1 (.cells #[.int .u64 e', .int .u64 s', .slice vo b'.length vc] 34) none)
      have hI2 := hIp.grown hg2
      have hJ2 := hJ _ _ _ hJp hg2
      have hb2 := heap_alloc_new w1 (.cells [Value.int .u64 e', .int .u64 s', .slice vo b'.length vc].toArray 34)
      have hv2 := own_grown HV.out.1 (World.grownBy_alloc w1 (.cells #[.int .u64 e', .int .u64 s', .slice vo b'.length vc] 34) none)
      have HX := hide (And.intro hg2 (And.intro hb2 hv2))
      have hcE := hI2.be.cell
      have hstop : ∀ (h : ¬ Goes E T (xs.drop k)), frs pre = rowF E S xs := fun h => by
        refine (hR.out.stop ?_).symm
        rw [frs_length, ← HT.out, ← HK.out]
        exact h
      have HS := hide hstop
      unfold frV
      clear hg2 hb2 hv2 hstop
      by_cases hc0 : gc = 0
      · subst hc0
        by_cases he : e' = E
        · subst he
          by_cases hs : s' = T + 1
          · subst hs
            have hGo : Goes e' (S + ((frs pre).length : Int)) (xs.drop (fend (frs pre))) := by
              rw [frs_length, ← HT.out, ← HK.out]
              unfold Goes
              rw [← HGd.out]
              exact ⟨rfl, rfl, rfl, by omega⟩
            obtain ⟨r1, r2, r3, r4⟩ := hR.out.step hIp.byt hGo
            rw [← HK.out, ← HGd.out] at r1 r2 r3 r4
            simp only at r1 r2 r3 r4
            have hfit := r1.fits
            rw [fend_snoc, ← HK.out, hIp.len] at hfit
            simp only at hfit
            obtain ⟨w2, hw2⟩ : ∃ w2, w2 = w1.alloc (.cells #[.int .u64 e', .int .u64 (T + 1), .slice vo b'.length vc] 34) := ⟨_, rfl⟩
            have hXv : ElV N e' S xs pre ⟨k, ⟨e', T + 1, b'⟩, .slice vo b'.length vc, wr.heap.size, w2.heap.size⟩ w2 := by
              refine ⟨HK.out, r1, r2, r3, ⟨?_, ?_, Nat.le_refl _⟩, hH.out, hNp⟩
              · rw [hw2]; exact HX.out.2.2
              · intro j hj
                have := (HX.out.2.2.lt j hj).2
                rw [hw2]; exact this
            rw [← hw2] at hJ2
            obtain ⟨fn, tmps, assign, body, hy, hRd⟩ := hY pre _ w2 hJ2 hXv
            simp only [El.enc, frV] at hy
            have HR1 := hide r1
            have hbx := hide (And.intro r2 (And.intro hXv (And.intro hw2 r4)))
            have hgn : gn ≤ 54 := by omega
            have hkm : k + gn ≤ m := by omega
            have hgp : 0 < gn := by omega
            rw [hw2] at hy
            clear hGo r1 r2 r4 hXv HS
            gi_wp2
            rw [← hbx.out.2.2.1]
            refine hRd.mono ?_
            rintro e W3 (⟨rfl, hJ3, hk3⟩ | ⟨rfl, hJx3⟩)
            · have hK3 := hKp _ _ hk3
              have hI3 := (hbx.out.2.2.1 ▸ hI2 : ItF w2 Bs Bb Be ao m cap xs e' S).keeps hK3
              have hsz : Hid (wr.heap.size ≤ w2.heap.size ∧ w2.heap.size ≤ W3.heap.size) := ⟨by rw [hbx.out.2.2.1]; exact HX.out.1.size, hK3.1⟩
              clear hI2 hcE hy
              have hsum : Hid ((k : Int) + (gn : Int) = ((k + gn : Nat) : Int)) := by show _ = _; omega
              gi_wp2
              go_roundw
              case rel =>
                refine ⟨pre ++ [⟨k, ⟨e', T + 1, b'⟩, .slice vo b'.length vc, wr.heap.size, w2.heap.size⟩], ?_, ?_, ?_, hJ3, hI3, ?_, ?_⟩
                · rw [frs_snoc, fend_snoc, ← HK.out, hsum.out, hbx.out.2.2.2]
                · rw [HT.out]; simp; omega
                · rw [frs_snoc]; exact HR1
                · refine hide (fun y hy => ?_)
                  rcases List.mem_append.1 hy with h | h
                  · have := hH.out y h; have := hsz.out; omega
                  · simp at h; subst h; exact hsz.out.2
                · have := hsz.out; omega
              case measure =>
                rw [hsum.out, leftF_nat, leftF_nat]; omega
            · gi_wp2
              rw [Exit.noGoto_normal]
              go_end0
              exact ⟨⟨_, rfl⟩, .inr ⟨_, hJx3⟩⟩
          · have HE := hide (HS.out (fun h => hs (by have := h.2.2.1; rw [← HGd.out] at this; exact this)))
            have hne : (s' != T + 1) = true := by simpa using hs
            clear hs
            gi_wp2
            rw [Exit.noGoto_normal]
            go_end0
            exact ⟨⟨_, rfl⟩, .inl ⟨pre, HE.out, hJ2⟩⟩
        · have HE := hide (HS.out (fun h => he (by have := h.2.1; rw [← HGd.out] at this; exact this)))
          have hne : (e' != E) = true := by simpa using he
          clear he
          gi_wp2
          rw [Exit.noGoto_normal]
          go_end0
          exact ⟨⟨_, rfl⟩, .inl ⟨pre, HE.out, hJ2⟩⟩
      · have HE := hide (HS.out (fun h => hc0 (by have := h.1; rw [← HGd.out] at this; exact this)))
        have hne : (gc != 0) = true := by simpa using hc0
        clear hc0
        gi_wp2
        rw [Exit.noGoto_normal]
        go_end0
        exact ⟨⟨_, rfl⟩, .inl ⟨pre, HE.out, hJ2⟩⟩
end Go.Proofs.YtoeehajdmdmemabDoor
