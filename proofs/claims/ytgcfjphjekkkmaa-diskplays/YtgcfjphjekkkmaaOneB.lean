/- A call of a disk that is there tells what it should: Crash. -/
import Derived.Test.YtgcfjphjekkkmaaOneA
namespace Go.Proofs.Ytgcfjphjekkkmaa
open Go.RowKit Ap
attribute [local go_sem ↓] Go.wp_at_zero Go.wp_at_succ

theorem FatesAt.front {w : World} {fo : Option Addr} {F G : List (Int × Int)} (h : FatesAt w fo (F ++ G)) : FatesAt w fo F := by
  intro j p hj
  refine h j p ?_
  rw [List.getElem?_append_left (List.getElem?_eq_some_iff.1 hj).1]
  exact hj
theorem cell_kept {w w' : World} {T : Nat → Prop} {a : Addr} {v : Value} (hk : Kept w w' T) (hc : w.cell? a = some v) (hT : ¬ T a.block) : w'.cell? a = some v := by
  have hb : w'.heap[a.block]? = w.heap[a.block]? := hk.block a.block (cell_lt hc) hT
  rw [← hc]; simp [World.cell?, hb]
section
variable {w0 w : World} {n size : Nat} {p : Pr2} {d r : Nat}
set_option maxRecDepth 20000 in
set_option maxHeartbeats 4000000 in
theorem one_crash (hd : p.k.d = d) (hr : p.q.r = r) (h : Pair w0 w n size p) (hW : p.W.length ≤ 1000) (d0 d1 d2 d3 d4 : Int) (fo : Option Addr) (m c : Nat) (F : List (Int × Int)) (hm : F.length = m) (hF : FatesAt w fo F) (hnil : fo = none → m = 0 ∧ c = 0) (hb : m * 16 ≤ 140737488355000) (hlt : ∀ a, fo = some a → 0 < F.length → a.block < w0.heap.size) (h7 : d0 % 7 = 4) :
    Calls Try.prog 15 #[.pointer (some ⟨d, 0, none⟩), .pointer (some ⟨r, 0, none⟩), .agg #[.int .i64 d0, .int .i64 d1, .int .i64 d2, .int .i64 d3, .int .i64 d4, .slice fo m c]] w fun e w' => Told w0 w w' n size p e := by
  have HP : Hid (∀ w, Calls Try.prog 14 #[.int .i64 d0, .int .i64 7] w fun e w' => e = .returned (.int .i64 4) ∧ w' = w) := fun w => by have := pick_any d0 7 7 w rfl (by omega) (by omega); rw [show d0 % ((7 : Nat) : Int) = 4 from h7] at this; exact this
  have g0 := World.grownBy_alloc w (.cells #[.int .i64 d0, .int .i64 d1, .int .i64 d2, .int .i64 d3, .int .i64 d4, .slice fo m c] 37) none
  have b0 : (w.alloc (.cells #[.int .i64 d0, .int .i64 d1, .int .i64 d2, .int .i64 d3, .int .i64 d4, .slice fo m c] 37)).cell? ⟨w.heap.size, 0, none⟩ = some (.int .i64 d0) := cell_row (l := [Value.int .i64 d0, .int .i64 d1, .int .i64 d2, .int .i64 d3, .int .i64 d4, .slice fo m c]) (heap_alloc_new w _) 0
  have b5 : (w.alloc (.cells #[.int .i64 d0, .int .i64 d1, .int .i64 d2, .int .i64 d3, .int .i64 d4, .slice fo m c] 37)).cell? ⟨w.heap.size, 5, none⟩ = some (.slice fo m c) := cell_row (l := [Value.int .i64 d0, .int .i64 d1, .int .i64 d2, .int .i64 d3, .int .i64 d4, .slice fo m c]) (heap_alloc_new w _) 5
  have hlen := h.len
  have l2 : ∀ i, foot p.k p.W i → i < w.heap.size := h.z.d.disk.lt
  have l3 : ∀ i, rfoot p.q i → i < w.heap.size := fun i hi => (h.z.r.lt i hi).2
  have HL := hide (And.intro l2 (And.intro l3 hlt))
  have HH := hide (And.intro h (And.intro hd (And.intro hr (And.intro g0 (h.grown g0)))))
  have HF := hide (And.intro hm (And.intro (hF.grown g0) (And.intro hnil hb)))
  clear h hd hr g0 h7 hm hF hnil hb l2 l3 hlt
  go_enter Try.func15, Try.ntmps15
  go_wp2_with fail
  refine (HP.out _).mono ?_
  rintro e w' ⟨rfl, rfl⟩
  generalize w.alloc (.cells #[.int .i64 d0, .int .i64 d1, .int .i64 d2, .int .i64 d3, .int .i64 d4, .slice fo m c] 37) = wa at *
  obtain ⟨B, hB⟩ : ∃ B, B = w.heap.size := ⟨_, rfl⟩
  have HB := hide hB
  rw [← hB] at b0 b5 ⊢
  clear hB
  go_wp2_with fail
  refine (lentF_any fo m c F wa HF.out.1 HF.out.2.1 HF.out.2.2.1 HF.out.2.2.2).mono ?_
  rintro e w1 ⟨g, cap', rfl, o1, l1, l2, g1⟩
  have hgB := (own_block o1 g rfl).1
  have A1 := hide (And.intro o1 (And.intro l1 (And.intro l2 (And.intro g1 hgB))))
  have y5 := g1.cell b5 (by simp)
  clear o1 l1 l2 g1 hgB b5 b0
  have HW1 := hide (((Went.refl HH.out.1.z).new HH.out.2.2.2.1).new A1.out.2.2.2.1)
  have hsz := HH.out.2.2.2.1.size
  go_wp2_with fail
  refine (crash2 HH.out.2.1 HW1.out.z.d (some ⟨g, 0, none⟩) m cap' F HF.out.1 (own_fates A1.out.1).front (fun a e _ => by
    cases e
    have := HL.out.1 p.k.db (.inl (.inr (.inl rfl)))
    have := A1.out.2.2.2.2
    show g ≠ p.k.db
    omega)).mono ?_
  rintro e w2 ⟨rfl, s1, s2⟩
  have HW2 := hide (HW1.out.disk s1 (calm_moved s2))
  have HK2 := hide s2
  have z5 : w2.cell? ⟨B, 5, none⟩ = some (.slice fo m c) := cell_kept HK2.out y5 (by
    rintro (e | e | e)
    · have e : B = p.k.d := e
      have := HL.out.1 p.k.d (.inl (.inl rfl)); have := HB.out; omega
    · have e : B = p.k.db := e
      have := HL.out.1 p.k.db (.inl (.inr (.inl rfl))); have := HB.out; omega
    · have e : B = p.k.mb := e
      have := HL.out.1 p.k.mb (.inl (.inr (.inr (.inr rfl)))); have := HB.out; omega)
  have HFo : Hid (FatesAt w2 fo F) := (HF.out.2.1.grown A1.out.2.2.2.1).offT HK2.out (fun a e hl hT => by
    have h1 := HL.out.2.2 a e hl
    have h2 := HH.out.1.z.d.own
    have : w0.heap.size ≤ a.block := by
      rcases hT with e | e | e
      · exact h2 _ (.inl e)
      · exact h2 _ (.inr (.inl e))
      · exact h2 _ (.inr (.inr (.inr e)))
    omega)
  have HFg : Hid (FatesAt w2 (some ⟨g, 0, none⟩) (F ++ fmarks 12)) := (own_fates A1.out.1).offT HK2.out (fun a e hl hT => by
    cases e
    have hgB := A1.out.2.2.2.2
    have : g < w.heap.size := by
      rcases hT with e | e | e
      · have e : g = p.k.d := e
        rw [e]; exact HL.out.1 _ (.inl (.inl rfl))
      · have e : g = p.k.db := e
        rw [e]; exact HL.out.1 _ (.inl (.inr (.inl rfl)))
      · have e : g = p.k.mb := e
        rw [e]; exact HL.out.1 _ (.inl (.inr (.inr (.inr rfl))))
    omega)
  clear s1 s2 y5
  go_wp2_with fail
  refine (rcrash_any HH.out.2.2.1 HW2.out.z.r (by show p.q.V.length ≤ _; omega) fo m c F HF.out.1 (by have := HF.out.2.2.2; omega) HFo.out (fun a e hl hf => by
    have h1 := HL.out.2.2 a e hl
    have h2 := (HH.out.1.z.r.lt _ hf).1
    omega)).mono ?_
  rintro e w3 ⟨q', rfl, z1, z2, z3, z4, z6, z7⟩
  have HW3 := hide (HW2.out.ref (z1.trans HH.out.2.2.1.symm) z2 z6 (fun i hi => Or.inl (z7 i hi)))
  have HZ := hide (And.intro z3 z4)
  have HK3 := hide z6
  have x5 : w3.cell? ⟨B, 5, none⟩ = some (.slice fo m c) := cell_kept HK3.out z5 (fun e => by have := HL.out.2.1 B e; have := HB.out; omega)
  clear z1 z2 z3 z4 z6 z7 z5
  go_wp2_with fail
  refine (keptF_any g cap' fo m c F w3 HF.out.1 A1.out.2.1 A1.out.2.2.1 (HFg.out.offT HK3.out (fun a e hl hT => by
    cases e
    have : g < w.heap.size := HL.out.2.1 g hT
    have := A1.out.2.2.2.2
    omega)) (HFo.out.offT HK3.out (fun a e hl hT => by
    have h1 := HL.out.2.2 a e hl
    have h2 := (HH.out.1.z.r.lt _ hT).1
    omega)) (by have := HF.out.2.2.2; omega)).mono ?_
  rintro e w4 ⟨rfl, g4⟩
  have A4 := hide g4
  clear g4
  go_wp2
  go_ret
  refine ⟨rfl, _, HW3.out.new A4.out, ⟨?_, ?_⟩, by simp⟩
  · have e := HZ.out.2
    show secs n size (stl size (fun i => lasts (fateK F i) (fateA F i) size) p.D p.W p.W.length) = q'.S.map Bx.xs
    rw [e, secs_stl HH.out.1.z.d.disk.len HH.out.1.z.d.disk.fitsW, HH.out.1.same.rows, HH.out.1.same.waits]
    show stlR _ _ _ p.W.length = stlR _ (absV p.q.V) (p.q.S.map Bx.xs) p.q.V.length
    rw [hlen]
  · show abs [] = absV q'.V
    rw [HZ.out.1]; rfl
end
end Go.Proofs.Ytgcfjphjekkkmaa
