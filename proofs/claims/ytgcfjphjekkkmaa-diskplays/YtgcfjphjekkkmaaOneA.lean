/- A call of a disk that is there tells what it should: Read, Sync, what is asked, Image, Copy. -/
import Derived.Test.YtgcfjphjekkkmaaPair
import Derived.Test.YtgcfjphjekkkmaaRefY
import Derived.Test.YtgcfjphjekkkmaaNone2
namespace Go.Proofs.Ytgcfjphjekkkmaa
open Go.RowKit Ap
attribute [local go_sem ↓] Go.wp_at_zero Go.wp_at_succ

/-- What a call of one comes to. -/
def Told (w0 w w' : World) (n size : Nat) (p : Pr2) (e : Ending) : Prop := e = .returned (.bool true) ∧ ∃ p', Went w0 w w' n size p p' ∧ Same n size p' ∧ p'.W.length ≤ p.W.length + 1
theorem Told.still {w0 w w' : World} {n size : Nat} {p : Pr2} (h : Pair w0 w n size p) (hg : w.grownBy w' none) : Told w0 w w' n size p (.returned (.bool true)) := ⟨rfl, p, (Went.refl h.z).new hg, h.same, by omega⟩
section
variable {w0 w : World} {n size : Nat} {p : Pr2} {d r : Nat}
set_option maxRecDepth 20000 in
set_option maxHeartbeats 4000000 in
theorem one_copy (hd : p.k.d = d) (hr : p.q.r = r) (h : Pair w0 w n size p) (d0 d1 d2 d3 d4 : Int) (v : Value) (_hv : v.oneCell' = true) (h7 : d0 % 7 = 6) :
    Calls Try.prog 15 #[.pointer (some ⟨d, 0, none⟩), .pointer (some ⟨r, 0, none⟩), .agg #[.int .i64 d0, .int .i64 d1, .int .i64 d2, .int .i64 d3, .int .i64 d4, v]] w fun e w' => Told w0 w w' n size p e := by
  have HP : Hid (∀ w, Calls Try.prog 14 #[.int .i64 d0, .int .i64 7] w fun e w' => e = .returned (.int .i64 6) ∧ w' = w) := fun w => by have := pick_any d0 7 7 w rfl (by omega) (by omega); rw [show d0 % ((7 : Nat) : Int) = 6 from h7] at this; exact this
  have g0 := World.grownBy_alloc w (.cells #[.int .i64 d0, .int .i64 d1, .int .i64 d2, .int .i64 d3, .int .i64 d4, v] 37) none
  have b0 : (w.alloc (.cells #[.int .i64 d0, .int .i64 d1, .int .i64 d2, .int .i64 d3, .int .i64 d4, v] 37)).cell? ⟨w.heap.size, 0, none⟩ = some (.int .i64 d0) := cell_row (l := [Value.int .i64 d0, .int .i64 d1, .int .i64 d2, .int .i64 d3, .int .i64 d4, v]) (heap_alloc_new w _) 0
  have HH := hide (And.intro h (And.intro hd (And.intro hr (And.intro g0 (h.grown g0)))))
  have n0 : (0 : Int) < (n : Int) := by have := h.z.r.shape.n0; omega
  have n2 : 0 < n := by omega
  have n3 : decide (0 < n) = true := by simpa using n2
  clear h hd hr g0 h7
  go_enter Try.func15, Try.ntmps15
  go_wp2_with fail
  refine (HP.out _).mono ?_
  rintro e w' ⟨rfl, rfl⟩
  generalize w.alloc (.cells #[.int .i64 d0, .int .i64 d1, .int .i64 d2, .int .i64 d3, .int .i64 d4, v] 37) = wa at *
  generalize w.heap.size = B at *
  go_wp2_with fail
  rw [← HH.out.2.1]
  refine (copy_any HH.out.2.2.2.2.z.d.disk).mono ?_
  rintro e w1 ⟨k', rfl, c1, c2, c3⟩
  have A1 := hide c3
  clear c1 c2 c3
  go_wp2_with fail
  refine (rsectors_any HH.out.2.2.1 (HH.out.2.2.2.2.z.r.grown A1.out)).mono ?_
  rintro e w2 ⟨rfl, rfl⟩
  go_wp2
  go_ret
  exact Told.still HH.out.1 (grown_trans HH.out.2.2.2.1 A1.out)
set_option maxRecDepth 20000 in
set_option maxHeartbeats 4000000 in
theorem one_image (hd : p.k.d = d) (hr : p.q.r = r) (h : Pair w0 w n size p) (d0 d1 d2 d3 d4 : Int) (v : Value) (_hv : v.oneCell' = true) (h7 : d0 % 7 = 5) :
    Calls Try.prog 15 #[.pointer (some ⟨d, 0, none⟩), .pointer (some ⟨r, 0, none⟩), .agg #[.int .i64 d0, .int .i64 d1, .int .i64 d2, .int .i64 d3, .int .i64 d4, v]] w fun e w' => Told w0 w w' n size p e := by
  have HP : Hid (∀ w, Calls Try.prog 14 #[.int .i64 d0, .int .i64 7] w fun e w' => e = .returned (.int .i64 5) ∧ w' = w) := fun w => by have := pick_any d0 7 7 w rfl (by omega) (by omega); rw [show d0 % ((7 : Nat) : Int) = 5 from h7] at this; exact this
  have g0 := World.grownBy_alloc w (.cells #[.int .i64 d0, .int .i64 d1, .int .i64 d2, .int .i64 d3, .int .i64 d4, v] 37) none
  have b0 : (w.alloc (.cells #[.int .i64 d0, .int .i64 d1, .int .i64 d2, .int .i64 d3, .int .i64 d4, v] 37)).cell? ⟨w.heap.size, 0, none⟩ = some (.int .i64 d0) := cell_row (l := [Value.int .i64 d0, .int .i64 d1, .int .i64 d2, .int .i64 d3, .int .i64 d4, v]) (heap_alloc_new w _) 0
  have HH := hide (And.intro h (And.intro hd (And.intro hr (And.intro g0 (h.grown g0)))))
  clear h hd hr g0 h7
  go_enter Try.func15, Try.ntmps15
  go_wp2_with fail
  refine (HP.out _).mono ?_
  rintro e w' ⟨rfl, rfl⟩
  generalize w.alloc (.cells #[.int .i64 d0, .int .i64 d1, .int .i64 d2, .int .i64 d3, .int .i64 d4, v] 37) = wa at *
  generalize w.heap.size = B at *
  go_wp2_with fail
  rw [← HH.out.2.1]
  refine (image_any HH.out.2.2.2.2.z.d.disk).mono ?_
  rintro e w1 ⟨hs, rfl, c1, c2⟩
  have A1 := hide (And.intro c1 c2)
  clear c1 c2
  have HR := hide (HH.out.2.2.2.2.z.r.grown A1.out.2)
  go_wp2_with fail
  refine (rimage_row HR.out.rows HR.out.len.symm (by rw [← HH.out.2.2.1]; exact HR.out.c0) HR.out.shape.n1 (fun b hb => by rw [HR.out.sz b hb]; have := HR.out.shape.s0; have := HR.out.shape.s1; omega)).mono ?_
  rintro e w2 ⟨ao, cap, S', rfl, i1, i2, i3⟩
  have A2 := hide (And.intro i1 (And.intro i2 i3))
  clear i1 i2 i3
  have hl' : S'.length = n := by have := congrArg List.length A2.out.2.1; simp only [List.length_map] at this; rw [this]; exact HR.out.len
  obtain ⟨ao2, cap2, e2, hat⟩ := A2.out.1.rowsAt hl' (fun b hb => by
    have hm : b.xs ∈ p.q.S.map Bx.xs := by rw [← A2.out.2.1]; exact List.mem_map_of_mem hb
    obtain ⟨b', hb', e⟩ := List.mem_map.1 hm
    rw [← e, HR.out.sz b' hb']
    have := HR.out.shape.s1; omega)
  cases e2
  rw [A2.out.2.1, ← HH.out.1.same.rows] at hat
  have HA := hide hat
  have hn1 := HR.out.shape.n1
  clear hat hl'
  go_wp2_with fail
  refine (sameRows_eq (some ⟨wa.heap.size, 0, none⟩) ao n n cap (secs n size p.D) w2 (secs_length _ _ _) ((A1.out.1.grown A2.out.2.2).rowsAt HR.out.shape.s1) HA.out (by omega)).mono ?_
  rintro e w3 ⟨rfl, q3, rfl⟩
  go_wp2
  go_ret
  exact Told.still HH.out.1 (grown_trans (grown_trans (grown_trans HH.out.2.2.2.1 A1.out.2) A2.out.2.2) (grown_drewN _ _ _))
set_option maxRecDepth 20000 in
set_option maxHeartbeats 4000000 in
theorem one_ask (hd : p.k.d = d) (hr : p.q.r = r) (h : Pair w0 w n size p) (d0 d1 d2 d3 d4 : Int) (v : Value) (_hv : v.oneCell' = true) (h7 : d0 % 7 = 3) :
    Calls Try.prog 15 #[.pointer (some ⟨d, 0, none⟩), .pointer (some ⟨r, 0, none⟩), .agg #[.int .i64 d0, .int .i64 d1, .int .i64 d2, .int .i64 d3, .int .i64 d4, v]] w fun e w' => Told w0 w w' n size p e := by
  have HP : Hid (∀ w, Calls Try.prog 14 #[.int .i64 d0, .int .i64 7] w fun e w' => e = .returned (.int .i64 3) ∧ w' = w) := fun w => by have := pick_any d0 7 7 w rfl (by omega) (by omega); rw [show d0 % ((7 : Nat) : Int) = 3 from h7] at this; exact this
  have g0 := World.grownBy_alloc w (.cells #[.int .i64 d0, .int .i64 d1, .int .i64 d2, .int .i64 d3, .int .i64 d4, v] 37) none
  have b0 : (w.alloc (.cells #[.int .i64 d0, .int .i64 d1, .int .i64 d2, .int .i64 d3, .int .i64 d4, v] 37)).cell? ⟨w.heap.size, 0, none⟩ = some (.int .i64 d0) := cell_row (l := [Value.int .i64 d0, .int .i64 d1, .int .i64 d2, .int .i64 d3, .int .i64 d4, v]) (heap_alloc_new w _) 0
  have hlen := h.len
  have HH := hide (And.intro h (And.intro hd (And.intro hr (And.intro g0 (h.grown g0)))))
  clear h hd hr g0 h7
  go_enter Try.func15, Try.ntmps15
  go_wp2_with fail
  refine (HP.out _).mono ?_
  rintro e w' ⟨rfl, rfl⟩
  generalize w.alloc (.cells #[.int .i64 d0, .int .i64 d1, .int .i64 d2, .int .i64 d3, .int .i64 d4, v] 37) = wa at *
  generalize w.heap.size = B at *
  go_wp2_with fail
  rw [← HH.out.2.1]
  refine (waiting_any HH.out.2.2.2.2.z.d.disk).mono ?_
  rintro e w1 ⟨rfl, rfl⟩
  go_wp2_with fail
  refine (rwaiting_any HH.out.2.2.1 HH.out.2.2.2.2.z.r).mono ?_
  rintro e w2 ⟨rfl, rfl⟩
  rw [hlen]
  go_wp2_with fail
  refine (sectors_any HH.out.2.2.2.2.z.d.disk).mono ?_
  rintro e w1 ⟨rfl, q, rfl⟩
  have HG := hide (HH.out.2.2.2.2.grown (grown_drewN _ q none))
  go_wp2_with fail
  refine (rsectors_any HH.out.2.2.1 HG.out.z.r).mono ?_
  rintro e w1 ⟨rfl, rfl⟩
  go_wp2_with fail
  refine (size_any HG.out.z.d.disk).mono ?_
  rintro e w1 ⟨rfl, rfl⟩
  go_wp2_with fail
  refine (rsize_any HH.out.2.2.1 HG.out.z.r).mono ?_
  rintro e w1 ⟨rfl, rfl⟩
  go_wp2
  go_ret
  exact Told.still HH.out.1 (grown_trans HH.out.2.2.2.1 (grown_drewN _ _ _))
set_option maxRecDepth 20000 in
set_option maxHeartbeats 4000000 in
theorem one_sync (hd : p.k.d = d) (hr : p.q.r = r) (h : Pair w0 w n size p) (hW : p.W.length ≤ 1000) (d0 d1 d2 d3 d4 : Int) (v : Value) (_hv : v.oneCell' = true) (h7 : d0 % 7 = 2) :
    Calls Try.prog 15 #[.pointer (some ⟨d, 0, none⟩), .pointer (some ⟨r, 0, none⟩), .agg #[.int .i64 d0, .int .i64 d1, .int .i64 d2, .int .i64 d3, .int .i64 d4, v]] w fun e w' => Told w0 w w' n size p e := by
  have HP : Hid (∀ w, Calls Try.prog 14 #[.int .i64 d0, .int .i64 7] w fun e w' => e = .returned (.int .i64 2) ∧ w' = w) := fun w => by have := pick_any d0 7 7 w rfl (by omega) (by omega); rw [show d0 % ((7 : Nat) : Int) = 2 from h7] at this; exact this
  have g0 := World.grownBy_alloc w (.cells #[.int .i64 d0, .int .i64 d1, .int .i64 d2, .int .i64 d3, .int .i64 d4, v] 37) none
  have b0 : (w.alloc (.cells #[.int .i64 d0, .int .i64 d1, .int .i64 d2, .int .i64 d3, .int .i64 d4, v] 37)).cell? ⟨w.heap.size, 0, none⟩ = some (.int .i64 d0) := cell_row (l := [Value.int .i64 d0, .int .i64 d1, .int .i64 d2, .int .i64 d3, .int .i64 d4, v]) (heap_alloc_new w _) 0
  have hlen := h.len
  have HH := hide (And.intro h (And.intro hd (And.intro hr (And.intro g0 (h.grown g0)))))
  clear h hd hr g0 h7
  go_enter Try.func15, Try.ntmps15
  go_wp2_with fail
  refine (HP.out _).mono ?_
  rintro e w' ⟨rfl, rfl⟩
  generalize w.alloc (.cells #[.int .i64 d0, .int .i64 d1, .int .i64 d2, .int .i64 d3, .int .i64 d4, v] 37) = wa at *
  generalize w.heap.size = B at *
  go_wp2_with fail
  refine (syncS HH.out.2.1 HH.out.2.2.2.2.z.d).mono ?_
  rintro e w1 ⟨rfl, s1, s2⟩
  have HW := hide ((((Went.refl HH.out.1.z).new HH.out.2.2.2.1)).disk s1 (calm_moved s2))
  clear s1 s2
  go_wp2_with fail
  refine (rsync_any HH.out.2.2.1 HW.out.z.r (by show p.q.V.length ≤ _; omega)).mono ?_
  rintro e w2 ⟨q', rfl, z1, z2, z3, z4, z5, z6⟩
  have HV := hide (HW.out.ref (z1.trans HH.out.2.2.1.symm) z2 z5 (fun i hi => Or.inl (z6 i hi)))
  have HZ := hide (And.intro z3 z4)
  clear z1 z2 z3 z4 z5 z6
  go_wp2
  go_ret
  refine ⟨rfl, _, HV.out, ⟨?_, ?_⟩, by simp⟩
  · have e := HZ.out.2
    show secs n size (stl size (fun _ => size) p.D p.W p.W.length) = q'.S.map Bx.xs
    rw [e, secs_stl HH.out.1.z.d.disk.len HH.out.1.z.d.disk.fitsW, HH.out.1.same.rows, HH.out.1.same.waits]
    show stlR _ _ _ p.W.length = stlR _ (absV p.q.V) (p.q.S.map Bx.xs) p.q.V.length
    rw [hlen]
  · show abs [] = absV q'.V
    rw [HZ.out.1]; rfl
set_option maxRecDepth 20000 in
set_option maxHeartbeats 4000000 in
theorem one_read (hd : p.k.d = d) (hr : p.q.r = r) (h : Pair w0 w n size p) (hW : p.W.length ≤ 1000) (d0 d1 d2 d3 d4 : Int) (v : Value) (_hv : v.oneCell' = true) (h7 : d0 % 7 = 1) :
    Calls Try.prog 15 #[.pointer (some ⟨d, 0, none⟩), .pointer (some ⟨r, 0, none⟩), .agg #[.int .i64 d0, .int .i64 d1, .int .i64 d2, .int .i64 d3, .int .i64 d4, v]] w fun e w' => Told w0 w w' n size p e := by
  have HP : Hid (∀ w, Calls Try.prog 14 #[.int .i64 d0, .int .i64 7] w fun e w' => e = .returned (.int .i64 1) ∧ w' = w) := fun w => by have := pick_any d0 7 7 w rfl (by omega) (by omega); rw [show d0 % ((7 : Nat) : Int) = 1 from h7] at this; exact this
  have g0 := World.grownBy_alloc w (.cells #[.int .i64 d0, .int .i64 d1, .int .i64 d2, .int .i64 d3, .int .i64 d4, v] 37) none
  have b0 : (w.alloc (.cells #[.int .i64 d0, .int .i64 d1, .int .i64 d2, .int .i64 d3, .int .i64 d4, v] 37)).cell? ⟨w.heap.size, 0, none⟩ = some (.int .i64 d0) := cell_row (l := [Value.int .i64 d0, .int .i64 d1, .int .i64 d2, .int .i64 d3, .int .i64 d4, v]) (heap_alloc_new w _) 0
  have b2 : (w.alloc (.cells #[.int .i64 d0, .int .i64 d1, .int .i64 d2, .int .i64 d3, .int .i64 d4, v] 37)).cell? ⟨w.heap.size, 2, none⟩ = some (.int .i64 d2) := cell_row (l := [Value.int .i64 d0, .int .i64 d1, .int .i64 d2, .int .i64 d3, .int .i64 d4, v]) (heap_alloc_new w _) 2
  have hlen := h.len
  have s1 := h.z.r.shape.s1
  have HH := hide (And.intro h (And.intro hd (And.intro hr (And.intro g0 (h.grown g0)))))
  clear h hd hr g0 h7
  by_cases ha : 0 ≤ d2 ∧ d2 < (n : Int)
  · obtain ⟨s, rfl⟩ := Int.eq_ofNat_of_zero_le ha.1
    have hs : s < n := by omega
    have HRD := hide (readS HH.out.2.1 HH.out.2.2.2.2.z.d s hs)
    have HRR := hide (fun w' (hg : World.grownBy _ w' none) => rread_any HH.out.2.2.1 (HH.out.2.2.2.2.z.r.grown hg) (by omega) s hs)
    clear ha
    go_enter Try.func15, Try.ntmps15
    go_wp2_with fail
    refine (HP.out _).mono ?_
    rintro e w' ⟨rfl, rfl⟩
    generalize w.alloc (.cells #[.int .i64 d0, .int .i64 d1, .int .i64 (s : Int), .int .i64 d3, .int .i64 d4, v] 37) = wa at *
    generalize w.heap.size = B at *
    go_wp2_with fail
    refine HRD.out.mono ?_
    rintro e w1 ⟨rfl, r1, g1⟩
    have A1 := hide (And.intro r1 g1)
    have b2' := g1.cell b2 (by simp)
    clear r1 g1
    go_wp2_with fail
    refine (HRR.out w1 A1.out.2).mono ?_
    rintro e w2 ⟨g, c, rfl, o2, g2⟩
    have A2 := hide (And.intro o2 g2)
    clear o2 g2
    have hf : found size p.D p.W s = finds (absV p.q.V) (p.q.S.map Bx.xs) s := found_ref hs HH.out.1.same.waits HH.out.1.same.rows
    have hfl : (found size p.D p.W s).length = size := found_length HH.out.1.z.d.disk.len HH.out.1.z.d.disk.fitsW s hs
    have HF := hide (And.intro hf hfl)
    clear hf hfl
    go_wp2_with fail
    refine (sameBytes_eq (some ⟨wa.heap.size, 0, none⟩) (some ⟨g, 0, none⟩) size size c (found size p.D p.W s) w2 HF.out.2 (at_row ((A2.out.2.block _ (row_lt A1.out.1) (by simp)).trans A1.out.1)) (by rw [HF.out.1]; exact A2.out.1.at_) (by omega)).mono ?_
    rintro e w3 ⟨rfl, q3, rfl⟩
    go_wp2
    go_ret
    exact Told.still HH.out.1 (grown_trans (grown_trans (grown_trans HH.out.2.2.2.1 A1.out.2) A2.out.2) (grown_drewN _ _ _))
  · have HA := hide ha
    have ha' : d2 < 0 ∨ (n : Int) ≤ d2 := by omega
    have HRR := hide (fun w' (hg : World.grownBy _ w' none) => rread_bad HH.out.2.2.1 (HH.out.2.2.2.2.z.r.grown hg) d2 ha')
    clear ha ha'
    go_enter Try.func15, Try.ntmps15
    go_wp2_with fail
    refine (HP.out _).mono ?_
    rintro e w' ⟨rfl, rfl⟩
    generalize w.alloc (.cells #[.int .i64 d0, .int .i64 d1, .int .i64 d2, .int .i64 d3, .int .i64 d4, v] 37) = wa at *
    generalize w.heap.size = B at *
    go_wp2_with fail
    rw [← HH.out.2.1]
    refine (read_far HH.out.2.2.2.2.z.d.disk d2 HA.out).mono ?_
    rintro e w1 ⟨rfl, g1⟩
    have A1 := hide g1
    have b2' := g1.cell b2 (by simp)
    clear g1
    go_wp2_with fail
    refine (HRR.out w1 A1.out).mono ?_
    rintro e w2 ⟨rfl, rfl⟩
    go_wp2_with fail
    refine (sameBytes_eq none none 0 0 0 [] w2 rfl (At.nil _ _) (At.nil _ _) (by omega)).mono ?_
    rintro e w3 ⟨rfl, q3, rfl⟩
    go_wp2
    go_ret
    exact Told.still HH.out.1 (grown_trans (grown_trans HH.out.2.2.2.1 A1.out) (grown_drewN _ _ _))
end
end Go.Proofs.Ytgcfjphjekkkmaa
