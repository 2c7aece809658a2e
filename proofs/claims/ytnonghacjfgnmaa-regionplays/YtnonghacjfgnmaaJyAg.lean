/- Texts joined: Wo7, ArgW. -/
import Derived.Test.YtnonghacjfgnmaaJyAc
import Derived.Test.YtnonghacjfgnmaaJyAf
import Derived.Test.YtnonghacjfgnmaaJbAo
/- Two regions of one device, any script: as the document says. -/
namespace Go.Proofs.Ytnonghacjfgnmaa
open Go.RowKit Ap
attribute [local go_sem ↓] Go.wp_at_zero Go.wp_at_succ

section
variable {w0 w : World} {n size g : Nat} {p : Px} {x y : Option Pl}
/-- A step's answer is the document's. -/
theorem plays_any (h : St w0 w n size g p x y) (hn9 : n ≤ 9) (hW : p.W.length ≤ 5000) (hcn : p.s.cnt ≤ 9000) (o : Stp) (bo : Option Addr) (bc : Nat) (fo : Option Addr) (fc : Nat) (hs : SIn w0 o bo bc fo fc) :
    Calls Try.prog 21 #[.pointer (some ⟨g, 0, none⟩), .agg #[.int .i64 o.kind, .bool o.ot, .int .i64 o.at_, .int .i64 o.n, .slice bo o.B.length bc, .int .i64 o.F, .int .i64 o.C, .slice fo o.fs.length fc]] w fun e w' => Played w0 w' n size g p e := by
  obtain ⟨kd, ot, at_, nn, B, F, C, fs⟩ := o
  by_cases h4 : kd = 4
  · subst h4; exact play_arm h hn9 hW hcn ot at_ nn F C B fs bo bc fo fc hs
  by_cases h5 : kd = 5
  · subst h5; exact play_again h hn9 hW hcn ot at_ nn F C B fs bo bc fo fc hs
  by_cases h6 : kd = 6
  · subst h6; exact play_takes h hn9 hW hcn ot at_ nn F C B fs bo bc fo fc hs
  obtain ⟨z, hz⟩ : ∃ z, (if ot then y else x) = z := ⟨_, rfl⟩
  cases z with
  | none => exact play_nil h hn9 hW hcn kd h4 h5 h6 ot at_ nn F C B fs bo bc fo fc hs hz
  | some o =>
    by_cases h1 : kd = 1
    · subst h1; exact play_read h hn9 hW hcn ot at_ nn F C B fs bo bc fo fc hs o hz
    by_cases h2 : kd = 2
    · subst h2; exact play_write h hn9 hW hcn ot at_ nn F C B fs bo bc fo fc hs o hz
    by_cases h3 : kd = 3
    · subst h3; exact play_sync h hn9 hW hcn ot at_ nn F C B fs bo bc fo fc hs o hz
    exact play_other h hn9 hW hcn kd h4 h5 h6 h1 h2 h3 ot at_ nn F C B fs bo bc fo fc hs o hz
end
structure StpAt (w : World) (b off : Nat) (o : Stp) (bo : Option Addr) (bc : Nat) (fo : Option Addr) (fc : Nat) : Prop where
  c0 : w.cell? ⟨b, off, none⟩ = some (.int .i64 o.kind)
  c1 : w.cell? ⟨b, off + 1, none⟩ = some (.bool o.ot)
  c2 : w.cell? ⟨b, off + 2, none⟩ = some (.int .i64 o.at_)
  c3 : w.cell? ⟨b, off + 3, none⟩ = some (.int .i64 o.n)
  c4 : w.cell? ⟨b, off + 4, none⟩ = some (.slice bo o.B.length bc)
  c5 : w.cell? ⟨b, off + 5, none⟩ = some (.int .i64 o.F)
  c6 : w.cell? ⟨b, off + 6, none⟩ = some (.int .i64 o.C)
  c7 : w.cell? ⟨b, off + 7, none⟩ = some (.slice fo o.fs.length fc)
  sin : SIn w o bo bc fo fc
theorem SIn.grown {w w' : World} {o : Stp} {bo fo : Option Addr} {bc fc : Nat} (h : SIn w o bo bc fo fc) (hg : w.grownBy w' none) : SIn w' o bo bc fo fc :=
  ⟨h.b.grown hg, ⟨h.f.at_.grown hg, h.f.nil, h.f.size, fun a e l => Nat.lt_of_lt_of_le (h.f.lt a e l) hg.size⟩, h.h1, h.h2, h.h3, fun a e l => Nat.lt_of_lt_of_le (h.lt a e l) hg.size⟩
theorem StpAt.grown {w w' : World} {b off : Nat} {o : Stp} {bo fo : Option Addr} {bc fc : Nat} (h : StpAt w b off o bo bc fo fc) (hg : w.grownBy w' none) : StpAt w' b off o bo bc fo fc :=
  ⟨hg.cell h.c0 (by simp), hg.cell h.c1 (by simp), hg.cell h.c2 (by simp), hg.cell h.c3 (by simp), hg.cell h.c4 (by simp), hg.cell h.c5 (by simp), hg.cell h.c6 (by simp), hg.cell h.c7 (by simp), h.sin.grown hg⟩
def StsAt (w : World) (ao : Option Addr) (os : List Stp) : Prop := ∀ j o, os[j]? = some o → ∃ b off bo bc fo fc, ao = some ⟨b, off, none⟩ ∧ StpAt w b (off + j * 8) o bo bc fo fc
theorem StsAt.grown {w w' : World} {ao : Option Addr} {os : List Stp} (h : StsAt w ao os) (hg : w.grownBy w' none) : StsAt w' ao os := by
  intro j o hj
  obtain ⟨b, off, bo, bc, fo, fc, e, ho⟩ := h j o hj
  exact ⟨b, off, bo, bc, fo, fc, e, ho.grown hg⟩
theorem secs_le {n size : Nat} {D : List Nat} (hD : D.length = n * size) (hs : size ≤ 4096) : ∀ xs ∈ secs n size D, xs.length ≤ 4611686018427387904 := by
  intro xs hx
  obtain ⟨i, hi⟩ := List.getElem?_of_mem hx
  have hl := (List.getElem?_eq_some_iff.1 hi).1
  rw [secs_length] at hl
  rw [secs_get _ _ _ _ hl] at hi
  cases hi
  rw [secOf_length hD hl]; omega
theorem rowsOf {w : World} {lo n cap : Nat} {ao : Option Addr} {S : List Bx} {R : List (List Nat)} (h : RowAt w lo (.slice ao n cap) S) (e : S.map Bx.xs = R) (hR : ∀ xs ∈ R, xs.length ≤ 4611686018427387904) : RowsAt w ao R := by
  subst e
  obtain ⟨ao', cap', e, hr⟩ := h.rowsAt (n := S.length) rfl (fun b hb => hR _ (List.mem_map.2 ⟨b, hb, rfl⟩))
  cases e
  exact hr
theorem fate_new (w : World) : FatesAt (w.alloc (.cells #[.int .i64 1, .int .i64 0] 63)) (some ⟨w.heap.size, 0, none⟩) [(1, 0)] := by
  intro j p hj
  have hr : (w.alloc (.cells #[.int .i64 1, .int .i64 0] 63)).heap[w.heap.size]? = some (.cells [.int .i64 1, .int .i64 0].toArray 63 (0, 0)) := heap_alloc_new w _
  have hj0 : j = 0 := by have := (List.getElem?_eq_some_iff.1 hj).1; simp at this; omega
  subst hj0
  simp at hj
  subst hj
  exact ⟨_, _, rfl, cell_row hr 0, cell_row hr 1⟩
set_option maxRecDepth 20000 in
set_option maxHeartbeats 16000000 in
theorem regionPlays_any (a b F0 C0 F1 C1 : Int) (hF0 : F0 ≤ 9223372036854775807) (hF1 : F1 ≤ 9223372036854775807) (ao : Option Addr) (m cap : Nat) (os : List Stp) (w : World) (hm : os.length = m) (ho : StsAt w ao os) (hmm : m ≤ 140737488355328) :
    Calls Try.prog 4 #[.int .i64 a, .int .i64 b, .agg #[.int .i64 F0, .int .i64 C0], .agg #[.int .i64 F1, .int .i64 C1], .slice ao m cap] w fun e w' => e = .returned (.bool true) ∧ w.grownBy w' none := by
  have g1 := World.grownBy_alloc w (.cells #[.int .i64 F0, .int .i64 C0] 25) none
  have g2 := World.grownBy_alloc (w.alloc (.cells #[.int .i64 F0, .int .i64 C0] 25)) (.cells #[.int .i64 F1, .int .i64 C1] 25) none
  have hz1 : (w.alloc (.cells #[.int .i64 F0, .int .i64 C0] 25)).heap.size = w.heap.size + 1 := Array.size_push ..
  have s1 := span_new w F0 C0
  have s2 := span_new (w.alloc (.cells #[.int .i64 F0, .int .i64 C0] 25)) F1 C1
  rw [hz1] at s2
  have e0 := g2.cell s1.1 (by simp)
  have e1 := g2.cell s1.2 (by simp)
  have HE := hide (And.intro e0 (And.intro e1 s2))
  have G1 := hide (grown_trans g1 g2)
  have HO := hide (And.intro hm (ho.grown G1.out))
  clear g1 g2 hz1 s1 s2 e0 e1 hm ho
  go_enter Try.func4, Try.ntmps4
  go_wp2_with fail
  generalize (w.alloc (.cells #[.int .i64 F0, .int .i64 C0] 25)).alloc (.cells #[.int .i64 F1, .int .i64 C1] 25) = w1 at *
  generalize w.heap.size + 1 = z1 at *
  generalize w.heap.size = z0 at *
  refine (device_any w1 w1 a b (grown_refl _ _)).mono ?_
  rintro e w2 ⟨p, rfl, p1, p2, ⟨p3, p4, p5, p6, p7⟩, p8, p9⟩
  have N9 := (nOf_pos a).2
  generalize nOf a = N at *
  generalize szOf b = SZ at *
  have g3 := World.grownBy_alloc w2 (.cells #[.pointer (some ⟨p.b, 0, none⟩), .pointer (some ⟨p.c, 0, none⟩), .pointer none, .pointer none, .pointer none, .pointer none] 54) none
  have HS : Hid (St w1 (w2.alloc (.cells #[.pointer (some ⟨p.b, 0, none⟩), .pointer (some ⟨p.c, 0, none⟩), .pointer none, .pointer none, .pointer none, .pointer none] 54)) N SZ w2.heap.size p none none) := ⟨p1.then g3, p2, heap_alloc_new w2 _, p9.size, (fun o e => by cases e), (fun o e => by cases e)⟩
  have HPW : Hid (p.W.length = 0 ∧ p.s.cnt = 0) := ⟨by rw [p3]; rfl, by rw [p5]; rfl⟩
  have e0 := (grown_trans p9 g3).cell HE.out.1 (by simp)
  have e1 := (grown_trans p9 g3).cell HE.out.2.1 (by simp)
  clear p1 p2 p3 p4 p5 p6 p7 p8 p9 g3
  go_wp2_with fail
  generalize w2.alloc (.cells #[.pointer (some ⟨p.b, 0, none⟩), .pointer (some ⟨p.c, 0, none⟩), .pointer none, .pointer none, .pointer none, .pointer none] 54) = w3 at *
  generalize w2.heap.size = g at *
  refine (takes_any HS.out false F0 C0 hF0).mono ?_
  rintro e w4 ⟨rfl, x4, y4, h4⟩
  have H4 := hide h4
  have f0 := h4.px.dev.disk.grown.cell HE.out.2.2.1 (by simp)
  have f1 := h4.px.dev.disk.grown.cell HE.out.2.2.2 (by simp)
  clear h4 e0 e1
  go_wp2_with fail
  refine (takes_any H4.out true F1 C1 hF1).mono ?_
  rintro e w5 ⟨rfl, x5, y5, h5⟩
  have H5 := hide h5
  clear h5 f0 f1
  go_wp2
  go_loopg [15] (min m 200) (fun q i wr => ∃ j : Nat, q + j = min m 200 ∧ i = .int .i64 j ∧ Hid (∃ p x y, St w1 wr N SZ g p x y ∧ p.W.length ≤ 9 * j ∧ p.s.cnt ≤ 18 * j))
  case atStart => exact ⟨0, by omega, rfl, hide ⟨p, x5, y5, H5.out, by have := HPW.out; omega, by have := HPW.out; omega⟩⟩
  case round =>
    clear H5 H4 HS HE HPW
    obtain ⟨j, hkj, rfl, HR⟩ := hrel
    by_cases hk : 0 < gk
    · have hj : j < m ∧ j < 200 := by omega
      obtain ⟨o, hoj⟩ : ∃ o, os[j]? = some o := ⟨_, List.getElem?_eq_getElem (by have := HO.out.1; omega)⟩
      obtain ⟨pj, xj, yj, hB, hWj, hcj⟩ := HR.out
      obtain ⟨bb, off, bo, bc, fo, fc, hao, hst⟩ := HO.out.2 j o hoj
      subst hao
      have hstr := hst.grown hB.px.dev.disk.grown
      have c0 := hstr.c0
      have c1 := hstr.c1
      have c2 := hstr.c2
      have c3 := hstr.c3
      have c4 := hstr.c4
      have c5 := hstr.c5
      have c6 := hstr.c6
      have c7 := hstr.c7
      have SI := hide hst.sin
      have BB := hide hB
      have hj0 : (0 : Int) ≤ (j : Int) := by omega
      have hj1 : (j : Int) < (m : Int) := by omega
      have hj2 : (j : Int) < 200 := by omega
      clear hstr hst hB hoj HR
      go_wp2_with fail
      refine (plays_any BB.out N9 (by omega) (by omega) o bo bc fo fc SI.out).mono ?_
      rintro e w6 ⟨rfl, p6, x6, y6, h6, l1, l2⟩
      have H6 := hide h6
      clear h6 c0 c1 c2 c3 c4 c5 c6 c7
      go_wp2_with fail
      refine (stands_any H6.out).mono ?_
      rintro e w7 ⟨rfl, g7⟩
      have H7 := hide (H6.out.then g7)
      clear g7
      go_wp2
      go_roundg (gk - 1)
      case measure => omega
      case rel => exact ⟨j + 1, by omega, by go_num, hide ⟨p6, x6, y6, H7.out, by omega, by omega⟩⟩
    · obtain ⟨pe, xe, ye, hB, hWj, hcj⟩ := HR.out
      have BB := hide hB
      have hWe : pe.W.length ≤ 1800 := by omega
      clear HR hB hWj hcj
      have SH := hide BB.out.px.dev.disk.disk.shape
      have NA := hide BB.out.off
      have HLT := hide BB.out.px.lt
      have hg1 := World.grownBy_alloc wr (.cells #[.int .i64 1, .int .i64 0] 63) none
      have d0 := hg1.cell BB.out.c0 (by simp)
      have c0 := BB.out.c0
      have FN := hide (fate_new wr)
      have A1 := hide ((PxW.refl BB.out.px).new hg1)
      have d1 := hg1.cell BB.out.c1 (by simp)
      clear hg1
      by_cases hjm : (j : Int) < (m : Int)
      · have hj2 : ¬ ((j : Int) < 200) := by omega
        go_wp2_with fail
        generalize wr.alloc (.cells #[.int .i64 1, .int .i64 0] 63) = wa at *
        refine (restart_any A1.out.z.dev (some ⟨wr.heap.size, 0, none⟩) 1 1 [(1, 0)] rfl FN.out (fun a e _ => by cases e; have h1 := HLT.out pe.k.db (.inl (.inl (.inr (.inl rfl)))); have h2 := HLT.out pe.b (.inr (.inr (.inl rfl))); constructor <;> (show wr.heap.size ≠ _) <;> omega)).mono ?_
        rintro e wb ⟨rfl, D8, d8, m8, a8⟩
        have H8 := hide (A1.out.dev d8 m8)
        have E8 := hide a8
        have hg2 := World.grownBy_alloc wb (.cells #[.int .i64 1, .int .i64 0] 63) none
        have u0 := hg2.cell (keep_d (p := pe) m8 d0 NA.out) (by simp)
        have u1 := hg2.cell (keep_d (p := pe) m8 d1 NA.out) (by simp)
        have c1 := keep_d (p := pe) m8 d1 NA.out
        have FN2 := hide (fate_new wb)
        have A2 := hide (H8.out.new hg2)
        have hbl : Hid (wr.heap.size ≤ wb.heap.size) := H8.out.mv.kept.size
        clear d8 m8 a8 d0 d1 c0 hg2 FN
        go_wp2_with fail
        generalize wb.alloc (.cells #[.int .i64 1, .int .i64 0] 63) = wc at *
        refine (rdrestart_any A2.out.z.rd (by have := BB.out.same.len; show pe.q.V.length ≤ _; omega) (some ⟨wb.heap.size, 0, none⟩) 1 1 [(1, 0)] rfl (by omega) FN2.out (fun a e _ hT => by cases e; have h1 := HLT.out wb.heap.size (.inr (.inl hT)); have := hbl.out; omega)).mono ?_
        rintro e wd ⟨rfl, q9, d9, m9, a9⟩
        have H9 := hide (A2.out.ref d9 m9)
        have SE := hide (BB.out.moved H9.out (same_crash (p := pe) BB.out.same BB.out.px.dev.disk.disk E8.out a9))
        clear d9 m9 a9 u0 u1 c1 A1 A2 H8 H9 FN2 BB NA HLT hbl
        have c0 : wd.cell? ⟨g, 0, none⟩ = some (.pointer (some ⟨pe.b, 0, none⟩)) := SE.out.c0
        have c1 : wd.cell? ⟨g, 1, none⟩ = some (.pointer (some ⟨pe.c, 0, none⟩)) := SE.out.c1
        have s1 := SH.out.s1
        have n1 := SH.out.n1
        go_wp2_with fail
        go_region_held3 (fun w' => w'.cell? ⟨g, 0, none⟩ = some (.pointer (some ⟨pe.b, 0, none⟩)) ∧ w'.cell? ⟨g, 1, none⟩ = some (.pointer (some ⟨pe.c, 0, none⟩))) (first | exact ⟨c0, c1⟩ | assumption | go_keep) (first
          | (go_at_call 26; refine (dimage_any (SE.out.px.dev.then (grown_drew _ _))).mono ?_; rintro e w2 ⟨rfl, hs2, i2, g2⟩; have g2' := grown_trans (grown_drew wd none) g2; have hS2 : w2.cell? ⟨g, 0, none⟩ = some (.pointer (some ⟨pe.b, 0, none⟩)) ∧ w2.cell? ⟨g, 1, none⟩ = some (.pointer (some ⟨pe.c, 0, none⟩)) := ⟨g2'.cell c0 (by simp), g2'.cell c1 (by simp)⟩; have I2 := hide (And.intro i2 g2'); clear i2 g2 g2')
          | (go_at_call 27; refine (rdimage_any (SE.out.px.rd.then I2.out.2)).mono ?_; rintro e w3 ⟨ao3, cap3, rfl, S3, r3, e3, g3⟩; have hS3 : w3.cell? ⟨g, 0, none⟩ = some (.pointer (some ⟨pe.b, 0, none⟩)) ∧ w3.cell? ⟨g, 1, none⟩ = some (.pointer (some ⟨pe.c, 0, none⟩)) := ⟨g3.cell hS2.1 (by simp), g3.cell hS2.2 (by simp)⟩; have I3 := hide (And.intro r3 (And.intro e3 g3)); clear r3 e3 g3)
          | (go_at_call 25; refine (sameRows_eq _ ao3 N N cap3 (secs N SZ D8) w3 (secs_length _ _ _) ((I2.out.1.grown I3.out.2.2).rowsAt s1) (rowsOf (I3.out.1) (I3.out.2.1.trans SE.out.same.rows.symm) (fun xs hx => secs_le SE.out.px.dev.disk.disk.len s1 xs hx)) (by omega)).mono ?_; rintro e w4 ⟨rfl, q4, rfl⟩; have hS4 : (w3.drewN q4).cell? ⟨g, 0, none⟩ = some (.pointer (some ⟨pe.b, 0, none⟩)) ∧ (w3.drewN q4).cell? ⟨g, 1, none⟩ = some (.pointer (some ⟨pe.c, 0, none⟩)) := hS3; have I4 := hide (grown_trans I2.out.2 (grown_trans I3.out.2.2 (grown_drewN w3 q4 none))))
          | (go_at_call 19; refine (awake_any _).mono ?_; rintro e w5 ⟨rfl, g5⟩; have hS5 : w5.cell? ⟨g, 0, none⟩ = some (.pointer (some ⟨pe.b, 0, none⟩)) ∧ w5.cell? ⟨g, 1, none⟩ = some (.pointer (some ⟨pe.c, 0, none⟩)) := ⟨g5.cell hS4.1 (by simp), g5.cell hS4.2 (by simp)⟩; have I5 := hide (grown_trans I4.out g5); clear g5))
        go_wp2
        go_ret
        exact ⟨rfl, grown_trans G1.out (grown_trans SE.out.px.dev.disk.grown I5.out)⟩
      · go_wp2_with fail
        generalize wr.alloc (.cells #[.int .i64 1, .int .i64 0] 63) = wa at *
        refine (restart_any A1.out.z.dev (some ⟨wr.heap.size, 0, none⟩) 1 1 [(1, 0)] rfl FN.out (fun a e _ => by cases e; have h1 := HLT.out pe.k.db (.inl (.inl (.inr (.inl rfl)))); have h2 := HLT.out pe.b (.inr (.inr (.inl rfl))); constructor <;> (show wr.heap.size ≠ _) <;> omega)).mono ?_
        rintro e wb ⟨rfl, D8, d8, m8, a8⟩
        have H8 := hide (A1.out.dev d8 m8)
        have E8 := hide a8
        have hg2 := World.grownBy_alloc wb (.cells #[.int .i64 1, .int .i64 0] 63) none
        have u0 := hg2.cell (keep_d (p := pe) m8 d0 NA.out) (by simp)
        have u1 := hg2.cell (keep_d (p := pe) m8 d1 NA.out) (by simp)
        have c1 := keep_d (p := pe) m8 d1 NA.out
        have FN2 := hide (fate_new wb)
        have A2 := hide (H8.out.new hg2)
        have hbl : Hid (wr.heap.size ≤ wb.heap.size) := H8.out.mv.kept.size
        clear d8 m8 a8 d0 d1 c0 hg2 FN
        go_wp2_with fail
        generalize wb.alloc (.cells #[.int .i64 1, .int .i64 0] 63) = wc at *
        refine (rdrestart_any A2.out.z.rd (by have := BB.out.same.len; show pe.q.V.length ≤ _; omega) (some ⟨wb.heap.size, 0, none⟩) 1 1 [(1, 0)] rfl (by omega) FN2.out (fun a e _ hT => by cases e; have h1 := HLT.out wb.heap.size (.inr (.inl hT)); have := hbl.out; omega)).mono ?_
        rintro e wd ⟨rfl, q9, d9, m9, a9⟩
        have H9 := hide (A2.out.ref d9 m9)
        have SE := hide (BB.out.moved H9.out (same_crash (p := pe) BB.out.same BB.out.px.dev.disk.disk E8.out a9))
        clear d9 m9 a9 u0 u1 c1 A1 A2 H8 H9 FN2 BB NA HLT hbl
        have c0 : wd.cell? ⟨g, 0, none⟩ = some (.pointer (some ⟨pe.b, 0, none⟩)) := SE.out.c0
        have c1 : wd.cell? ⟨g, 1, none⟩ = some (.pointer (some ⟨pe.c, 0, none⟩)) := SE.out.c1
        have s1 := SH.out.s1
        have n1 := SH.out.n1
        go_wp2_with fail
        go_region_held3 (fun w' => w'.cell? ⟨g, 0, none⟩ = some (.pointer (some ⟨pe.b, 0, none⟩)) ∧ w'.cell? ⟨g, 1, none⟩ = some (.pointer (some ⟨pe.c, 0, none⟩))) (first | exact ⟨c0, c1⟩ | assumption | go_keep) (first
          | (go_at_call 26; refine (dimage_any (SE.out.px.dev.then (grown_drew _ _))).mono ?_; rintro e w2 ⟨rfl, hs2, i2, g2⟩; have g2' := grown_trans (grown_drew wd none) g2; have hS2 : w2.cell? ⟨g, 0, none⟩ = some (.pointer (some ⟨pe.b, 0, none⟩)) ∧ w2.cell? ⟨g, 1, none⟩ = some (.pointer (some ⟨pe.c, 0, none⟩)) := ⟨g2'.cell c0 (by simp), g2'.cell c1 (by simp)⟩; have I2 := hide (And.intro i2 g2'); clear i2 g2 g2')
          | (go_at_call 27; refine (rdimage_any (SE.out.px.rd.then I2.out.2)).mono ?_; rintro e w3 ⟨ao3, cap3, rfl, S3, r3, e3, g3⟩; have hS3 : w3.cell? ⟨g, 0, none⟩ = some (.pointer (some ⟨pe.b, 0, none⟩)) ∧ w3.cell? ⟨g, 1, none⟩ = some (.pointer (some ⟨pe.c, 0, none⟩)) := ⟨g3.cell hS2.1 (by simp), g3.cell hS2.2 (by simp)⟩; have I3 := hide (And.intro r3 (And.intro e3 g3)); clear r3 e3 g3)
          | (go_at_call 25; refine (sameRows_eq _ ao3 N N cap3 (secs N SZ D8) w3 (secs_length _ _ _) ((I2.out.1.grown I3.out.2.2).rowsAt s1) (rowsOf (I3.out.1) (I3.out.2.1.trans SE.out.same.rows.symm) (fun xs hx => secs_le SE.out.px.dev.disk.disk.len s1 xs hx)) (by omega)).mono ?_; rintro e w4 ⟨rfl, q4, rfl⟩; have hS4 : (w3.drewN q4).cell? ⟨g, 0, none⟩ = some (.pointer (some ⟨pe.b, 0, none⟩)) ∧ (w3.drewN q4).cell? ⟨g, 1, none⟩ = some (.pointer (some ⟨pe.c, 0, none⟩)) := hS3; have I4 := hide (grown_trans I2.out.2 (grown_trans I3.out.2.2 (grown_drewN w3 q4 none))))
          | (go_at_call 19; refine (awake_any _).mono ?_; rintro e w5 ⟨rfl, g5⟩; have hS5 : w5.cell? ⟨g, 0, none⟩ = some (.pointer (some ⟨pe.b, 0, none⟩)) ∧ w5.cell? ⟨g, 1, none⟩ = some (.pointer (some ⟨pe.c, 0, none⟩)) := ⟨g5.cell hS4.1 (by simp), g5.cell hS4.2 (by simp)⟩; have I5 := hide (grown_trans I4.out g5); clear g5))
        go_wp2
        go_ret
        exact ⟨rfl, grown_trans G1.out (grown_trans SE.out.px.dev.disk.grown I5.out)⟩
end Go.Proofs.Ytnonghacjfgnmaa
/- Steps of region's scripts and spans that came in, opened. -/
namespace Go.Proofs.Ytnonghacjfgnmaa
open Go.ChangeShapes Go.WideShapes Go.ChangeAt Go.RowKit Go.Deep Ap

theorem Try.cells59 : Try.prog.cellsOf 59 = 8 := by kernel_rfl
theorem Try.bytes59 : Try.prog.bytesOf 59 = 96 := by kernel_rfl
theorem Try.cells4b : Try.prog.cellsOf 4 = 1 := by kernel_rfl
theorem Try.cells25 : Try.prog.cellsOf 25 = 2 := by kernel_rfl
theorem list8 {α : Type} {l : List α} (h : l.length = 8) : ∃ a b c d e f g i, l = [a, b, c, d, e, f, g, i] := by
  match l, h with
  | [a, b, c, d, e, f, g, i], _ => exact ⟨a, b, c, d, e, f, g, i, rfl⟩
theorem list7 {α : Type} {l : List α} (h : l.length = 7) : ∃ a b c d e f g, l = [a, b, c, d, e, f, g] := by
  match l, h with
  | [a, b, c, d, e, f, g], _ => exact ⟨a, b, c, d, e, f, g, rfl⟩
theorem at_lt {w : World} {ao : Option Addr} {xs : List Nat} (h : At w ao xs) : ∀ a, ao = some a → 0 < xs.length → a.block < w.heap.size := by
  intro a e hl
  obtain ⟨b, e', c1⟩ := h 0 xs[0] (List.getElem?_eq_getElem hl)
  rw [e] at e'
  cases e'
  have := cell_lt c1
  rw [addr_add_block] at this
  exact this
section
variable {H : Type} {enc : TypeId × Value → H}
theorem open_spanc {w : World} {base fuel : Nat} {spare : Nat → Bool} {held : Bool} {cs : List Value} {x : DataW H × List MemPlace} (h : DataW.trod enc Try.prog w base spare held fuel 25 cs = some x) :
    ∃ F C : Int, cs = [.int .i64 F, .int .i64 C] ∧ F ≤ 9223372036854775807 := by
  obtain ⟨xs, n, _, rfl, hl, hsz, hf⟩ := DataW.trod_struct Try.underlying25 h
  rw [Try.cells25] at hl
  obtain ⟨v0, v1, rfl⟩ := list2 hl
  obtain ⟨y0, y1, rfl⟩ := list2 (show xs.length = 2 from hsz)
  have f0 : DataW.trod enc Try.prog w base spare held n 3 [v0] = some y0 := by simpa [Try.cells3] using hf 0 _ rfl
  have f1 : DataW.trod enc Try.prog w base spare held n 3 [v1] = some y1 := by simpa [Try.cells3] using hf 1 _ rfl
  obtain ⟨a0, e0, rfl, w0⟩ := DataW.trod_int Try.underlying3 f0
  obtain ⟨a1, e1, rfl, _⟩ := DataW.trod_int Try.underlying3 f1
  simp only [List.cons.injEq, and_true] at e0 e1
  exact ⟨a0, a1, by rw [e0, e1], (bounds_i64 w0).2⟩
set_option maxRecDepth 100000 in
theorem open_span {w : World} {base : Nat} {r : Reach} {b0 : Nat} {spare : Nat → Bool} {held : Bool} {v : Value} {d : DataW H} {ps : List MemPlace} (hval : Value.okWide Try.prog w r b0 25 v) (hd : DataW.Trod enc Try.prog w base spare held 25 v d ps) :
    ∃ F C : Int, v = .agg #[.int .i64 F, .int .i64 C] ∧ F ≤ 9223372036854775807 := by
  obtain ⟨cs, rfl, _⟩ := okWide_struct Try.underlying25 hval
  obtain ⟨fuel, h⟩ := hd
  have h : DataW.trod enc Try.prog w base spare held fuel 25 cs.toList = some (d, ps) := h
  obtain ⟨F, C, e, hF⟩ := open_spanc h
  refine ⟨F, C, ?_, hF⟩
  congr 1
  cases cs
  simp only at e
  rw [e]
theorem open_stpc {w : World} {base fuel : Nat} {spare : Nat → Bool} {held : Bool} {cs : List Value} {x : DataW H × List MemPlace} (h : DataW.trod enc Try.prog w base spare held fuel 59 cs = some x) (hz : ∀ n ∈ x.1.weights Try.prog 59, n ≤ reachBytes) :
    ∃ (o : Stp) (bo : Option Addr) (bc : Nat) (fo : Option Addr) (fc : Nat), cs = ocells o bo bc fo fc ∧ SIn w o bo bc fo fc := by
  obtain ⟨xs, n, _, rfl, hl, hsz, hf⟩ := DataW.trod_struct Try.underlying59 h
  rw [Try.cells59] at hl
  obtain ⟨v0, v1, v2, v3, v4, v5, v6, v7, rfl⟩ := list8 hl
  obtain ⟨y0, y1, y2, y3, y4, y5, y6, rfl⟩ := list7 (show xs.length = 7 from hsz)
  have f0 : DataW.trod enc Try.prog w base spare held n 3 [v0] = some y0 := by simpa [Try.cells3] using hf 0 _ rfl
  have f1 : DataW.trod enc Try.prog w base spare held n 4 [v1] = some y1 := by simpa [Try.cells4b] using hf 1 _ rfl
  have f2 : DataW.trod enc Try.prog w base spare held n 3 [v2] = some y2 := by simpa [Try.cells3] using hf 2 _ rfl
  have f3 : DataW.trod enc Try.prog w base spare held n 3 [v3] = some y3 := by simpa [Try.cells3] using hf 3 _ rfl
  have f4 : DataW.trod enc Try.prog w base spare held n 31 [v4] = some y4 := by simpa [Try.cells46] using hf 4 _ rfl
  have f5 : DataW.trod enc Try.prog w base spare held n 25 [v5, v6] = some y5 := by simpa [Try.cells25] using hf 5 _ rfl
  have f6 : DataW.trod enc Try.prog w base spare held n 57 [v7] = some y6 := by simpa [Try.cells35] using hf 6 _ rfl
  obtain ⟨a0, e0, rfl, _⟩ := DataW.trod_int Try.underlying3 f0
  obtain ⟨a1, e1, rfl⟩ := DataW.trod_bool Try.underlying4 f1
  obtain ⟨a2, e2, rfl, w2⟩ := DataW.trod_int Try.underlying3 f2
  obtain ⟨a3, e3, rfl, w3⟩ := DataW.trod_int Try.underlying3 f3
  obtain ⟨bo, bc, B, e4, hB⟩ := open_bytesC f4 (fun n hn => hz n (by
    simp only [DataW.weights, Try.underlying59]
    simp [DataW.weightsEach, DataW.weights, hn]))
  obtain ⟨F, C, e5, hF⟩ := open_spanc f5
  obtain ⟨fo, cap, fs, e6, hfs⟩ := open_fates f6 (fun n hn => hz n (by
    simp only [DataW.weights, Try.underlying59]
    simp [DataW.weightsEach, DataW.weights, hn]))
  simp only [List.cons.injEq, and_true] at e0 e1 e2 e3 e4 e5 e6
  exact ⟨⟨a0, a1, a2, a3, B, F, C, fs⟩, bo, bc, fo, cap, by rw [e0, e1, e2, e3, e4, e5.1, e5.2, e6]; rfl, ⟨hB, hfs, (bounds_i64 w2).2, (bounds_i64 w3).2, hF, at_lt hB.at_⟩⟩
/-- A script that came in. -/
theorem open_stps {w : World} {base fuel : Nat} {spare : Nat → Bool} {held : Bool} {cs : List Value} {x : DataW H × List MemPlace} (h : DataW.trod enc Try.prog w base spare held fuel 48 cs = some x) (hz : ∀ n ∈ x.1.weights Try.prog 48, n ≤ reachBytes) :
    ∃ ao cap os, cs = [.slice ao os.length cap] ∧ StsAt w ao os ∧ os.length ≤ cap ∧ os.length ≤ 140737488355328 := by
  rcases open_slice Try.underlying48 h with ⟨rfl, rfl⟩ | ⟨a, len, cap, m, n, D, Pl, rfl, hb, hl, hm, hmm, rfl, hx⟩
  · exact ⟨none, 0, [], rfl, fun j p hj => by simp at hj, by simp, by simp⟩
  · have hlm : len ≤ m := by rw [hmm]; split <;> omega
    have hw : ∀ i, i < len → ∀ n ∈ (D i).weights Try.prog 59, n ≤ reachBytes := fun i hi n hn => hz n (by
      simp only [DataW.weights, Try.underlying48]
      exact List.mem_cons_of_mem _ (List.mem_append_left _ (weights_all_mem (d := D i) (List.mem_map.2 ⟨i, by simpa using hi, rfl⟩) n hn)))
    have hsz : len * 96 ≤ reachBytes := by
      have := hz ((((List.range len).map D).length + ((List.range (m - len)).map fun j => D (len + j)).length) * Try.prog.bytesOf 59) (by simp [DataW.weights, Try.underlying48])
      rw [Try.bytes59] at this
      simp at this
      omega
    have hex : ∀ i, i < len → ∃ o : Stp, ∃ b off bo bc fo fc, some a = some (⟨b, off, none⟩ : Addr) ∧ StpAt w b (off + i * 8) o bo bc fo fc := by
      intro i hi
      rw [Try.cells59] at hx
      have key : ∀ i, i < len → ∃ (o : Stp) (bo : Option Addr) (bc : Nat) (fo : Option Addr) (fc : Nat), SIn w o bo bc fo fc ∧ ∀ (j : Nat) (v : Value), (ocells o bo bc fo fc)[j]? = some v → w.cell? ((a.add (i * 8)).add j) = some v := by
        intro i hi
        obtain ⟨cs', hc, ht⟩ := hx i (by omega)
        obtain ⟨_, hlen, hcell⟩ := World.cells?_some hc
        obtain ⟨o, bo, bc, fo, fc, rfl, hF⟩ := open_stpc ht (hw i hi)
        refine ⟨o, bo, bc, fo, fc, hF, fun j v hv => ?_⟩
        have hj : j < 8 := (List.getElem?_eq_some_iff.1 hv).1
        have := hcell j hj
        rw [this]
        simpa using hv
      obtain ⟨o0, b0, bc0, f0, c0, _, k0⟩ := key 0 (by omega)
      have ha : a = ⟨a.block, a.off, none⟩ := addr_plain (by simpa [Addr.add] using k0 0 _ rfl) (fun _ _ _ => trivial) ⟨_, _, rfl⟩
      obtain ⟨o, bo, bc, fo, fc, hF, k⟩ := key i hi
      rw [ha] at k
      simp only [Addr.add_lit] at k
      exact ⟨o, a.block, a.off, bo, bc, fo, fc, by rw [← ha], ⟨k 0 _ rfl, k 1 _ rfl, k 2 _ rfl, k 3 _ rfl, k 4 _ rfl, k 5 _ rfl, k 6 _ rfl, k 7 _ rfl, hF⟩⟩
    obtain ⟨os, hF1, hF2⟩ : ∃ os : List Stp, os.length = len ∧ StsAt w (some a) os := by
      clear hsz hx hz h hlm hmm hl hw
      induction len with
      | zero => exact ⟨[], rfl, fun j p hj => by simp at hj⟩
      | succ k ih =>
        obtain ⟨F, f1, f2⟩ := ih (fun i hi => hex i (by omega))
        obtain ⟨p, g1⟩ := hex k (by omega)
        refine ⟨F ++ [p], by simp [f1], ?_⟩
        intro j q hj
        by_cases hjk : j < F.length
        · rw [List.getElem?_append_left hjk] at hj; exact f2 j q hj
        · have hlt := (List.getElem?_eq_some_iff.1 hj).1
          have hjk2 : j = k := by simp at hlt; omega
          subst hjk2
          rw [List.getElem?_append_right (by omega), f1, Nat.sub_self] at hj
          simp at hj
          subst hj
          exact g1
    exact ⟨some a, cap, os, by rw [hF1], hF2, by rw [hF1]; omega, by rw [hF1]; unfold reachBytes at hsz; omega⟩
end
end Go.Proofs.Ytnonghacjfgnmaa
