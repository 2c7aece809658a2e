/- less is asked of those that are there. -/
import Derived.Test.YtkbhjdjdjfdikaaHa0
namespace Go.Proofs.Ytkbhjdjdjfdikaa
open Go.RowKit Ap
attribute [local go_sem ↓] Go.wp_at_zero Go.wp_at_succ
/-- Those that are there. -/
def PE (E : List (Nat × Int)) (a : Int) : Prop := ∃ e ∈ E, e.2 = a
/-- At a step: so many steps were gone. -/
structure AkS (w0 w : World) (ob mx mm h : Nat) (c : Nat) (E : List (Nat × Int)) (N : Nat) : Prop where
  ho : ∃ B Bm, B ≤ c ∧ Bm ≤ 2 * c ∧ HO w0 w (lsA ob mx mm (PE E) Bm) h E N B
  its : Its E (c : Int)
  few : N ≤ c
  len : E.length ≤ c
  own : w0.heap.size ≤ ob ∧ w0.heap.size ≤ mx ∧ w0.heap.size ≤ mm
section
variable {w0 w w' : World} {ob mx mm h : Nat} {E : List (Nat × Int)} {N B Bm : Nat} {P : Int → Prop}
/-- may[x] = y, and of whom may be asked then. -/
theorem HO.may (o : HO w0 w (lsA ob mx mm P Bm) h E N B) (hw : w0.heap.size ≤ mm) (hB : Bm ≤ 100000) (x : Int) (hx : I64 x) (y : Value) (Q : Int → Prop) (hQ : ∀ a, Q a → a ≠ x → P a) (hQx : Q x → y = .int .i64 1) (hE : ∀ e ∈ E, Q e.2) :
    ∃ w', (Instr.mapUpdate 55 (.map (some mm)) (.int .i64 x) y).run Try.prog w = .ok () w' ∧ HO w0 w' (lsA ob mx mm Q (Bm + 1)) h E N B := by
  obtain ⟨p, T, hp, h1, h2⟩ := o.hs
  obtain ⟨i1, i2, f, i3, i4⟩ := h1.at_.inv
  have k3 : Try.prog.underlying 3 = some (.int .i64) := by first | exact Try.underlying3 | kernel_rfl
  obtain ⟨w', hrun, hm, hg⟩ := i3.store k3 Try.underlying55 (by unfold maxLen; omega) (wf_i64 hx.1 hx.2) y
  obtain ⟨es, ck, hmb⟩ := i3.block
  have ho : ob ≠ mm := fun e => by rw [e, hmb] at i1; cases i1
  have hxm : mx ≠ mm := fun e => by rw [e, hmb] at i2; cases i2
  have k : Kept w w' (fun i => i = mm) := Kept.of hg (fun j e _ => (Option.some.inj e).symm)
  refine ⟨w', hrun, o.relab k (fun i e => .inr (.inr e)) (fun i e => by rw [e]; exact hw) rfl rfl rfl rfl ⟨k.at i1 ho, k.at i2 hxm, _, hm, fun a ha => ?_⟩ (fun e he => ⟨hE e he, (h1.ok e he).2⟩)⟩
  show (if a = x then some y else f a) = _
  split
  · rename_i e; rw [hQx (by rw [← e]; exact ha)]
  · rename_i e; exact i4 a (hQ a ha e)
theorem HO.mayCells (o : HO w0 w (lsA ob mx mm P Bm) h E N B) : w.cell? ⟨mx, 0, none⟩ = some (.map (some mm)) ∧ w.cell? ⟨ob, 0, none⟩ = some (.bool false) := by
  obtain ⟨p, T, hp, h1, h2⟩ := o.hs
  obtain ⟨i1, i2, f, i3, i4⟩ := h1.at_.inv
  exact ⟨cell_row (l := [Value.map (some mm)]) i2 0, cell_row (l := [Value.bool false]) i1 0⟩
theorem HO.okI (o : HO w0 w (lsA ob mx mm P Bm) h E N B) {i : Nat} (hi : i < E.length) : I64 (en E i).2 := by
  obtain ⟨p, T, hp, h1, h2⟩ := o.hs
  exact (h1.ok _ (en_mem hi)).2
end
set_option maxRecDepth 20000 in
set_option maxHeartbeats 8000000 in
theorem heapAsks_any (ao : Option Addr) (len cap : Nat) (os : List OpD) (w : World) (hl : os.length = len) (ho : OpsAt w ao os) (hok : ∀ o ∈ os, o.Ok) (hc : len ≤ cap) : Calls Try.prog 8 #[.slice ao len cap] w fun e w' => e = .returned (.bool true) ∧ w.grownBy w' none := by
  have haw := awake_any w
  have hmf : ∀ (fn : Fn) (first cap : Array Value) (w : World), (Instr.makeFunc fn first cap).run Try.prog w = .ok (.func fn first cap) w := fun _ _ _ _ => rfl
  have hmm := @run_makeMap Try.prog
  have HO' := hide (And.intro hl (And.intro ho hok))
  clear hl ho hok
  go_enter Try.func8, Try.ntmps8
  go_wp2_with fail
  refine haw.mono ?_
  clear haw
  rintro e w1 ⟨rfl, g1⟩
  have HG1 := hide g1
  clear g1
  go_wp2_with fail
  obtain ⟨w2, hw2⟩ : ∃ w2, w2 = ((w1.alloc (.cells #[.bool false] 4)).alloc (.map #[] 0)).alloc (.cells #[.map (some (w1.heap.size + 1))] 55) := ⟨_, rfl⟩
  have g12 : w1.grownBy w2 none := by rw [hw2]; exact grown_trans (grown_trans (World.grownBy_alloc w1 _ none) (World.grownBy_alloc _ _ none)) (World.grownBy_alloc _ _ none)
  have hI2 : (lsA w1.heap.size (w1.heap.size + 1 + 1) (w1.heap.size + 1) (PE []) 0).I w2 := by
    have g1 := World.grownBy_alloc w1 (.cells #[.bool false] 4) none
    have g2 := World.grownBy_alloc (w1.alloc (.cells #[.bool false] 4)) (.map #[] 0) none
    have g3 := World.grownBy_alloc ((w1.alloc (.cells #[.bool false] 4)).alloc (.map #[] 0)) (.cells #[.map (some (w1.heap.size + 1))] 55) none
    have s1 : (w1.alloc (.cells #[.bool false] 4)).heap.size = w1.heap.size + 1 := World.size_alloc ..
    have s2 : ((w1.alloc (.cells #[.bool false] 4)).alloc (.map #[] 0)).heap.size = w1.heap.size + 1 + 1 := by rw [World.size_alloc, s1]
    have b1 := heap_alloc_new w1 (.cells #[.bool false] 4)
    have b2 := heap_alloc_new (w1.alloc (.cells #[.bool false] 4)) (.map #[] 0)
    have b3 := heap_alloc_new ((w1.alloc (.cells #[.bool false] 4)).alloc (.map #[] 0)) (.cells #[.map (some (w1.heap.size + 1))] 55)
    have b1' := ((grown_trans g2 g3).block _ (row_lt b1) (by simp)).trans b1
    have b2' := (g3.block _ (row_lt b2) (by simp)).trans b2
    rw [s1] at b2'
    rw [s2] at b3
    rw [hw2]
    refine ⟨b1', b3, _, mapAt_made b2', fun a ha => ?_⟩
    obtain ⟨e, he, _⟩ := ha
    simp at he
  have hnew := ho_new (w0 := w) (lsA_ok _ _ _ _ _) hI2 (grown_trans HG1.out g12) (fun j e => e.elim)
  have hfw := few_any ao len cap hc
  rw [← hw2]
  have HS1 := hide HG1.out.size
  clear hI2 g12 hw2 HG1
  have hnew2 : Calls Try.prog 22 #[.func (.func 30) #[] #[.pointer (some ⟨w1.heap.size, 0, none⟩), .pointer (some ⟨w1.heap.size + 1 + 1, 0, none⟩)]] w2 fun e w' => ∃ h, e = .returned (.pointer (some ⟨h, 0, none⟩)) ∧ HO w w' (lsA w1.heap.size (w1.heap.size + 1 + 1) (w1.heap.size + 1) (PE []) 0) h [] 0 0 := hnew
  clear hnew
  refine hnew2.mono ?_
  clear hnew2
  rintro e w3 ⟨h, rfl, h3⟩
  obtain ⟨ob, hob⟩ : ∃ ob, ob = w1.heap.size := ⟨_, rfl⟩
  obtain ⟨mx, hmx⟩ : ∃ mx, mx = w1.heap.size + 1 + 1 := ⟨_, rfl⟩
  obtain ⟨mm, hmmb⟩ : ∃ mm, mm = w1.heap.size + 1 := ⟨_, rfl⟩
  have H3 : Hid (AkS w w3 ob mx mm h 0 [] 0) := ⟨⟨0, 0, by omega, by omega, by rw [hob, hmx, hmmb]; exact h3⟩, ⟨fun i j hi => by simp at hi, fun i hi => by simp at hi, fun i hi => by simp at hi⟩, by omega, by simp, by have := HS1.out; omega⟩
  rw [← hmx, ← hmmb, ← hob]
  clear h3 hob hmx hmmb HS1 hmm hmf w1
  have hf3 := hfw w3
  clear hfw
  generalize hK : min len 300 = K at *
  have HK := hide hK
  clear hK
  go_wp2_with fail
  refine hf3.mono ?_
  clear hf3
  rintro e w4 ⟨rfl, hw4⟩
  obtain rfl := hw4.symm
  go_wp2
  go_loopg [6, 7] K (fun q nx v wr => ∃ j N : Nat, v = .int .i64 (j : Int) ∧ nx = .int .i64 (N : Int) ∧ q = K - j ∧ j ≤ K ∧ Hid (∃ E, AkS w wr ob mx mm h j E N))
  case atStart => exact ⟨0, 0, rfl, rfl, rfl, by omega, [], H3.out⟩
  case round =>
    obtain ⟨j, N, rfl, rfl, hq, hj, HE⟩ := hrel
    have HQ := hide hq
    clear hq H3
    obtain ⟨E, hE⟩ := HE.out
    have HE1 := hide hE
    clear HE hE
    by_cases hlt : j < K
    · have hjl : j < os.length := by have := HK.out; have := HO'.out.1; omega
      obtain ⟨o, hoe⟩ : ∃ o, os[j]? = some o := ⟨_, List.getElem?_eq_getElem hjl⟩
      obtain ⟨B, Bm, hB, hBm, hO⟩ := HE1.out.ho
      obtain ⟨blk, off, hao, d0, d1, d2, d3⟩ := (HO'.out.2.1.grown hO.grown) j o hoe
      subst hao
      have hoO := HO'.out.2.2 o (List.mem_of_getElem? hoe)
      have hpk := pick_any o.N ((N : Int) + 1) (N + 1) wr (by omega) (by omega) (by have := HE1.out.few; have := HK.out; omega)
      have hr0 : 0 ≤ o.N % (((N + 1 : Nat)) : Int) := Int.emod_nonneg _ (by omega)
      have hr1 : o.N % (((N + 1 : Nat)) : Int) < (((N + 1 : Nat)) : Int) := Int.emod_lt_of_pos _ (by omega)
      generalize o.N % (((N + 1 : Nat)) : Int) = x at *
      have hN : N ≤ j := HE1.out.few
      have hjK : j < 300 := by have := HK.out; omega
      have HX : Hid (I64 x ∧ HO w wr (lsA ob mx mm (PE E) Bm) h E N B) := ⟨by unfold I64; omega, hO⟩
      clear hr0 hr1 hj
      have HJ := hide (And.intro hlt (And.intro hN (And.intro hjK (And.intro hB hBm))))
      have hdl : ((j : Int) < (K : Int)) = True := by simp; omega
      have hw1 : IntKind.i64.wrap ((N : Int) + 1) = (N : Int) + 1 := by rw [IntKind.wrap_i64]; omega
      have hw2 : IntKind.i64.wrap (1 + (j : Int)) = (j : Int) + 1 := by rw [IntKind.wrap_i64]; omega
      have hw3 : IntKind.i64.wrap ((j : Int) + 1) = (j : Int) + 1 := by rw [IntKind.wrap_i64]; omega
      have hKc : (j : Int).toNat = j := by omega
      have hkc : K ≤ cap := by have := HK.out; omega
      have hio := hO.mayCells
      obtain ⟨cx, -⟩ := hio
      clear hO hN hjK hB hBm
      go_wp2_with fail
      refine hpk.mono ?_
      clear hpk
      rintro e w5 ⟨rfl, hw5⟩
      obtain rfl := hw5.symm
      have HI1 : Hid (I64 ((j : Int) + 1)) := hide (by have := HJ.out.2.2.1; unfold I64; omega)
      have HBB : Hid (Bm ≤ 100000 ∧ N ≤ 100000 ∧ B ≤ 100000 ∧ E.length ≤ 300) := hide (by have := HJ.out; have := HE1.out.len; omega)
      clear d1 d2 d3 hoO
      generalize hkk : o.K = kk at *
      clear hkk
      by_cases h1 : kk = 1
      · subst h1
        obtain ⟨w6, hrun, h6⟩ := HX.out.2.may HE1.out.own.2.2 HBB.out.1 ((j : Int) + 1) HI1.out (.int .i64 1) (PE (E ++ [(N, (j : Int) + 1)])) (fun a ha hne => by
          obtain ⟨e, he, e2⟩ := ha
          rcases List.mem_append.1 he with h | h
          · exact ⟨e, h, e2⟩
          · simp at h; rw [h] at e2; exact absurd e2.symm hne) (fun _ => rfl) (fun e he => ⟨e, List.mem_append.2 (.inl he), rfl⟩)
        have hpu := ho_push (lsA_ok _ _ _ _ _) h6 (by have := HBB.out; omega) (by have := HBB.out; omega) (by have := HBB.out; omega) ((j : Int) + 1) ⟨⟨_, List.mem_append.2 (.inr (List.mem_singleton.2 rfl)), rfl⟩, HI1.out⟩
        clear h6
        go_wp2_with fail
        refine hpu.mono ?_
        clear hpu hrun
        rintro e w7 ⟨rfl, h7⟩
        have H7 : Hid (AkS w w7 ob mx mm h (j + 1) (E ++ [(N, (j : Int) + 1)]) (N + 1)) := ⟨⟨B + 1, Bm + 1, by have := HJ.out; omega, by have := HJ.out; omega, h7⟩, HE1.out.its.push N (by omega), by have := HJ.out; omega, by rw [List.length_append]; have := HE1.out.len; simp; omega, HE1.out.own⟩
        clear h7
        go_wp2
        go_roundg (K - (j + 1))
        case measure => have := HQ.out; have := HJ.out.1; omega
        case rel => exact ⟨j + 1, N + 1, by simp, by simp, rfl, by have := HJ.out.1; omega, _, H7.out⟩
      have n1 : (kk == 1) = false := by simpa using h1
      by_cases h2 : kk = 2
      · subst h2
        by_cases hz : 0 < E.length
        · have hpo := ho_pop (lsA_ok _ _ _ _ _) HX.out.2 hz (by have := HBB.out; omega) (by have := HBB.out; omega) (by have := HBB.out; omega)
          go_wp2_with fail
          refine hpo.mono ?_
          clear hpo
          rintro e w6 ⟨i, ht, rfl, h6⟩
          have hi := ht.lt hz
          obtain ⟨hit, hsub⟩ := HE1.out.its.out hi
          obtain ⟨w7, hrun, h7⟩ := h6.may HE1.out.own.2.2 HBB.out.1 (en E i).2 (HX.out.2.okI hi) (.int .i64 0) (PE (outE E i)) (fun a ha hne => by
            obtain ⟨e, he, e2⟩ := ha
            exact ⟨e, (hsub e he).1, e2⟩) (fun hq => by
            obtain ⟨e, he, e2⟩ := hq
            exact absurd e2 (hsub e he).2) (fun e he => ⟨e, he, rfl⟩)
          obtain ⟨cx6, -⟩ := h6.mayCells
          have H7 : Hid (AkS w w7 ob mx mm h (j + 1) (outE E i) N) := ⟨⟨B + 1, Bm + 1, by have := HJ.out; omega, by have := HJ.out; omega, h7⟩, hit.mono (by omega), by have := HJ.out; omega, by rw [outE_length]; have := HE1.out.len; omega, HE1.out.own⟩
          clear h6 h7 hit hsub ht hi cx
          generalize (en E i).2 = y at *
          generalize (en E i).1 = z at *
          go_wp2
          go_roundg (K - (j + 1))
          case measure => have := HQ.out; have := HJ.out.1; omega
          case rel => exact ⟨j + 1, N, by simp, rfl, rfl, by have := HJ.out.1; omega, _, H7.out⟩
        · have hpo := ho_pop_none (lsA_ok _ _ _ _ _) HX.out.2 (by omega) (by have := HBB.out; omega) (by have := HBB.out; omega)
          go_wp2_with fail
          refine hpo.mono ?_
          clear hpo
          rintro e w6 ⟨rfl, h6⟩
          have H7 : Hid (AkS w w6 ob mx mm h (j + 1) E N) := ⟨⟨B + 1, Bm, by have := HJ.out; omega, by have := HJ.out; omega, h6⟩, HE1.out.its.mono (by omega), by have := HJ.out; omega, by have := HE1.out.len; omega, HE1.out.own⟩
          clear h6
          go_wp2
          go_roundg (K - (j + 1))
          case measure => have := HQ.out; have := HJ.out.1; omega
          case rel => exact ⟨j + 1, N, by simp, rfl, rfl, by have := HJ.out.1; omega, _, H7.out⟩
      have n2 : (kk == 2) = false := by simpa using h2
      by_cases h3 : kk = 3
      · subst h3
        have hge := ho_get HX.out.2 x HX.out.1
        obtain ⟨w6, hrun, h6⟩ := HX.out.2.may HE1.out.own.2.2 HBB.out.1 ((j : Int) + 1) HI1.out (.int .i64 1) (fun a => PE E a ∨ a = (j : Int) + 1) (fun a ha hne => ha.resolve_right hne) (fun _ => rfl) (fun e he => .inl ⟨e, he, rfl⟩)
        have hse := ho_set (lsA_ok _ _ _ _ _) h6 (by have := HBB.out; omega) x ((j : Int) + 1) HX.out.1 ⟨.inr rfl, HI1.out⟩
        have H6 := hide h6
        clear h6
        cases hfx : fi E x with
        | none =>
          rw [hfx] at hge hse
          simp only [Option.isSome, Option.elim] at hge hse
          go_wp2_with fail
          refine hge.mono ?_
          clear hge
          rintro e w7 ⟨rfl, hw7⟩
          obtain rfl := hw7.symm
          go_wp2_with fail
          refine hse.mono ?_
          clear hse hrun
          rintro e w8 ⟨rfl, h8⟩
          obtain ⟨w9, hrun, h9⟩ := h8.may HE1.out.own.2.2 (by have := HJ.out; omega) ((j : Int) + 1) HI1.out (.int .i64 0) (PE E) (fun a ha hne => .inl ha) (fun hq => by
            obtain ⟨e, he, e2⟩ := hq
            obtain ⟨q, hq2, rfl⟩ := List.getElem_of_mem he
            have := HE1.out.its.hi q hq2
            unfold en at this
            rw [List.getElem?_eq_getElem hq2] at this
            simp only [Option.getD] at this
            omega) (fun e he => ⟨e, he, rfl⟩)
          obtain ⟨cx8, -⟩ := h8.mayCells
          have H9 : Hid (AkS w w9 ob mx mm h (j + 1) E N) := ⟨⟨B, Bm + 1 + 1, by have := HJ.out; omega, by have := HJ.out; omega, h9⟩, HE1.out.its.mono (by omega), by have := HJ.out; omega, by have := HE1.out.len; omega, HE1.out.own⟩
          clear h8 h9 cx
          go_wp2
          go_roundg (K - (j + 1))
          case measure => have := HQ.out; have := HJ.out.1; omega
          case rel => exact ⟨j + 1, N, by simp, rfl, rfl, by have := HJ.out.1; omega, _, H9.out⟩
        | some i =>
          have hi := (fi_lt hfx).1
          rw [hfx] at hge hse
          simp only [Option.isSome, Option.elim] at hge hse
          obtain ⟨hit, hsub⟩ := HE1.out.its.setI (by omega) hi
          have hle := HE1.out.its.hi i hi
          have hI := HX.out.2.okI hi
          have HF := hide (And.intro hit (And.intro hsub (And.intro hle hI)))
          clear hit hsub hle hI hfx
          generalize hy : (en E i).2 = y at *
          have HY := hide hy
          clear hy
          go_wp2_with fail
          refine hge.mono ?_
          clear hge
          rintro e w7 ⟨rfl, hw7⟩
          obtain rfl := hw7.symm
          go_wp2_with fail
          refine hse.mono ?_
          clear hse hrun
          rintro e w8 ⟨rfl, h8⟩
          obtain ⟨w9, hrun, h9⟩ := h8.may HE1.out.own.2.2 (by have := HJ.out; omega) y HF.out.2.2.2 (.int .i64 0) (PE (setI E i ((j : Int) + 1))) (fun a ha hne => by
            obtain ⟨e, he, e2⟩ := ha
            rcases HF.out.2.1 e he with ⟨⟨e', h1, h2⟩, _⟩ | h1
            · exact .inl ⟨e', h1, h2.trans e2⟩
            · exact .inr (e2.symm.trans h1)) (fun hq => by
            obtain ⟨e, he, e2⟩ := hq
            rcases HF.out.2.1 e he with ⟨_, h1⟩ | h1
            · exact absurd e2 h1
            · have := HF.out.2.2.1; omega) (fun e he => ⟨e, he, rfl⟩)
          obtain ⟨cx8, -⟩ := h8.mayCells
          have H9 : Hid (AkS w w9 ob mx mm h (j + 1) (setI E i ((j : Int) + 1)) N) := ⟨⟨B, Bm + 1 + 1, by have := HJ.out; omega, by have := HJ.out; omega, h9⟩, by have := HF.out.1; exact this, by have := HJ.out; omega, by rw [setI_length]; have := HE1.out.len; omega, HE1.out.own⟩
          clear h8 h9 cx
          go_wp2
          go_roundg (K - (j + 1))
          case measure => have := HQ.out; have := HJ.out.1; omega
          case rel => exact ⟨j + 1, N, by simp, rfl, rfl, by have := HJ.out.1; omega, _, H9.out⟩
      have n3 : (kk == 3) = false := by simpa using h3
      by_cases h4 : kk = 4
      · subst h4
        have hge := ho_get HX.out.2 x HX.out.1
        have hdr := ho_drop (lsA_ok _ _ _ _ _) HX.out.2 (by have := HBB.out; omega) (by have := HBB.out; omega) (by have := HBB.out; omega) x HX.out.1
        cases hfx : fi E x with
        | none =>
          rw [hfx] at hge hdr
          simp only [Option.isSome, Option.elim] at hge hdr
          go_wp2_with fail
          refine hge.mono ?_
          clear hge
          rintro e w7 ⟨rfl, hw7⟩
          obtain rfl := hw7.symm
          go_wp2_with fail
          refine hdr.mono ?_
          clear hdr
          rintro e w8 ⟨rfl, h8⟩
          have H9 : Hid (AkS w w8 ob mx mm h (j + 1) E N) := ⟨⟨B + 1, Bm, by have := HJ.out; omega, by have := HJ.out; omega, h8⟩, HE1.out.its.mono (by omega), by have := HJ.out; omega, by have := HE1.out.len; omega, HE1.out.own⟩
          clear h8
          go_wp2
          go_roundg (K - (j + 1))
          case measure => have := HQ.out; have := HJ.out.1; omega
          case rel => exact ⟨j + 1, N, by simp, rfl, rfl, by have := HJ.out.1; omega, _, H9.out⟩
        | some i =>
          have hi := (fi_lt hfx).1
          rw [hfx] at hge hdr
          simp only [Option.isSome, Option.elim] at hge hdr
          obtain ⟨hit, hsub⟩ := HE1.out.its.out hi
          have hI := HX.out.2.okI hi
          have HF := hide (And.intro hit (And.intro hsub hI))
          clear hit hsub hI hfx
          generalize hy : (en E i).2 = y at *
          have HY := hide hy
          clear hy
          go_wp2_with fail
          refine hge.mono ?_
          clear hge
          rintro e w7 ⟨rfl, hw7⟩
          obtain rfl := hw7.symm
          go_wp2_with fail
          refine hdr.mono ?_
          clear hdr
          rintro e w8 ⟨rfl, h8⟩
          obtain ⟨w9, hrun, h9⟩ := h8.may HE1.out.own.2.2 HBB.out.1 y HF.out.2.2 (.int .i64 0) (PE (outE E i)) (fun a ha hne => by
            obtain ⟨e, he, e2⟩ := ha
            exact ⟨e, (HF.out.2.1 e he).1, e2⟩) (fun hq => by
            obtain ⟨e, he, e2⟩ := hq
            exact absurd e2 (HF.out.2.1 e he).2) (fun e he => ⟨e, he, rfl⟩)
          obtain ⟨cx8, -⟩ := h8.mayCells
          have H9 : Hid (AkS w w9 ob mx mm h (j + 1) (outE E i) N) := ⟨⟨B + 1, Bm + 1, by have := HJ.out; omega, by have := HJ.out; omega, h9⟩, HF.out.1.mono (by omega), by have := HJ.out; omega, by rw [outE_length]; have := HE1.out.len; omega, HE1.out.own⟩
          clear h8 h9 cx
          go_wp2
          go_roundg (K - (j + 1))
          case measure => have := HQ.out; have := HJ.out.1; omega
          case rel => exact ⟨j + 1, N, by simp, rfl, rfl, by have := HJ.out.1; omega, _, H9.out⟩
      have n4 : (kk == 4) = false := by simpa using h4
      have H9 : Hid (AkS w wr ob mx mm h (j + 1) E N) := ⟨⟨B, Bm, by have := HJ.out; omega, by have := HJ.out; omega, HX.out.2⟩, HE1.out.its.mono (by omega), by have := HJ.out; omega, by have := HE1.out.len; omega, HE1.out.own⟩
      go_wp2
      go_roundg (K - (j + 1))
      case measure => have := HQ.out; have := HJ.out.1; omega
      case rel => exact ⟨j + 1, N, by simp, rfl, rfl, by have := HJ.out.1; omega, _, H9.out⟩
    · obtain ⟨B, Bm, hB, hBm, hO⟩ := HE1.out.ho
      obtain ⟨-, cb⟩ := hO.mayCells
      have HG := hide hO.grown
      clear hO hB hBm
      have hdl : decide ((j : Int) < (K : Int)) = false := by simp; omega
      clear hj
      go_wp2
      go_ret
      exact ⟨rfl, HG.out⟩
end Go.Proofs.Ytkbhjdjdjfdikaa
