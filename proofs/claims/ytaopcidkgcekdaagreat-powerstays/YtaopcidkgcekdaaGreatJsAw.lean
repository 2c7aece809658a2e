/- Texts joined: Stay. -/
import Derived.Test.YtaopcidkgcekdaaGreatJsAv
/- The contract of PowerStays. -/
namespace Go.Proofs.YtaopcidkgcekdaaGreat
open Go.RowKit Ap
attribute [local go_sem ↓] Go.wp_at_zero Go.wp_at_succ

theorem stepped_same {w0 w w' : World} {n size : Nat} {p : Px} {e : Ending} {M : Nat} (h : Stepped w0 w w' n size p e) (hs : PxSame n size p) (hl : Lens p M) : e = .returned (.bool true) ∧ ∃ p', PxW w0 w w' n size p p' ∧ PxSame n size p' ∧ Lens p' (M + 1) := by
  obtain ⟨B, rfl, p', h1, h2, h3⟩ := h
  obtain ⟨rfl, h4⟩ := h3 hs
  exact ⟨rfl, p', h1, h4, ⟨by have := hl.1; omega, by have := hl.2.1; omega, by have := hl.2.2.1; omega, by have := hl.2.2.2; omega⟩⟩
theorem few_sts {w : World} {ao : Option Addr} {os : List Stp} (h : StsAt w ao os) : StsAt w ao (os.take 80) := fun j o hj => by
  rw [List.getElem?_take] at hj
  split at hj
  · exact h j o hj
  · cases hj
set_option maxRecDepth 20000 in
set_option maxHeartbeats 16000000 in
theorem stays_any (x z : Int) (ao : Option Addr) (m cap : Nat) (os : List Stp) (ao2 : Option Addr) (m2 cap2 : Nat) (os2 : List Stp) (w : World) (hm : os.length = m) (hc : m ≤ cap) (ho : StsAt w ao os) (hm2 : os2.length = m2) (hc2 : m2 ≤ cap2) (ho2 : StsAt w ao2 os2) :
    Calls Tryz.prog 4 #[.int .i64 x, .int .i64 z, .slice ao m cap, .slice ao2 m2 cap2] w fun e w' => e = .returned (.bool true) ∧ w.grownBy w' none := by
  have HI := hide (And.intro hm (And.intro hc (And.intro ho (And.intro hm2 (And.intro hc2 ho2)))))
  clear hm hc ho hm2 hc2 ho2
  obtain ⟨NN, hNN⟩ : ∃ NN, NN = nOf x := ⟨_, rfl⟩
  obtain ⟨SZ, hSZ⟩ : ∃ SZ, SZ = szOf z := ⟨_, rfl⟩
  have HFR : Hid (∀ w0 w : World, w0.grownBy w none → Calls Tryz.prog 5 #[.int .i64 x, .int .i64 z] w fun e w' => Freshed w0 w w' NN SZ e) := fun w0 w hg => by rw [hNN, hSZ]; exact fresh_any w0 w x z hg
  clear hNN hSZ
  go_enter Tryz.func4, Tryz.ntmps4
  go_wp2_with fail
  refine (awake_any _).mono ?_
  rintro e w1 ⟨rfl, g1⟩
  have G1 := hide g1
  clear g1
  go_wp2_with fail
  refine (HFR.out w w1 G1.out).mono ?_
  rintro e w2 ⟨p, rfl, f1, f2, f3, f4, f5⟩
  obtain ⟨b, hb⟩ : ∃ b, b = p.b := ⟨_, rfl⟩
  obtain ⟨U, hU⟩ : ∃ U, U = p.k.d := ⟨_, rfl⟩
  obtain ⟨c, hcc⟩ : ∃ c, c = p.c := ⟨_, rfl⟩
  rw [← hb, ← hU, ← hcc]
  have P2 := hide (And.intro f1 (And.intro f2 (And.intro (show Lens p 0 from ⟨by rw [f3.1]; simp, by rw [f3.2.1]; simp, by rw [f3.2.2.1]; exact Nat.le_refl _, by rw [f3.2.2.2]; exact Nat.le_refl _⟩) (And.intro hb hcc))))
  clear f1 f2 f3 f4 f5 hb hU hcc G1 HFR
  have g3 := World.grownBy_alloc w2 (.cells #[.pointer (some ⟨b, 0, none⟩), .pointer (some ⟨U, 0, none⟩), .pointer (some ⟨c, 0, none⟩)] 27) none
  have T3 : Hid ((w2.alloc (.cells #[.pointer (some ⟨b, 0, none⟩), .pointer (some ⟨U, 0, none⟩), .pointer (some ⟨c, 0, none⟩)] 27)).heap[w2.heap.size]? = some (.cells [.pointer (some ⟨b, 0, none⟩), .pointer (some ⟨U, 0, none⟩), .pointer (some ⟨c, 0, none⟩)].toArray 27 (0, 0))) := heap_alloc_new w2 _
  have P3 := hide (P2.out.1.then g3)
  have T0 : Hid (w.heap.size ≤ w2.heap.size) := P2.out.1.dev.disk.grown.size
  clear g3
  go_wp2_with fail
  generalize w2.alloc (.cells #[.pointer (some ⟨b, 0, none⟩), .pointer (some ⟨U, 0, none⟩), .pointer (some ⟨c, 0, none⟩)] 27) = w3 at *
  generalize w2.heap.size = T at *
  refine (few_any ao m cap os w3 HI.out.1 HI.out.2.1 (HI.out.2.2.1.grown P3.out.dev.disk.grown)).mono ?_
  rintro e w4 ⟨m', rfl, hm', -, hl', e4⟩
  subst e4
  go_wp2_with fail
  refine (few_any ao2 m2 cap2 os2 w4 HI.out.2.2.2.1 HI.out.2.2.2.2.1 (HI.out.2.2.2.2.2.grown P3.out.dev.disk.grown)).mono ?_
  rintro e w5 ⟨m2', rfl, hm2', -, hl2', e5⟩
  subst e5
  have HQ := hide (And.intro (few_sts HI.out.2.2.1) (And.intro hl' (And.intro (few_sts HI.out.2.2.2.2.2) hl2')))
  clear hl' hl2' HI
  generalize os.take 80 = qs at *
  generalize os2.take 80 = ms at *
  go_wp2
  go_loopg [11] m' (fun q i wr => ∃ j : Nat, q + j = m' ∧ i = .int .i64 (j : Int) ∧ Hid (∃ p, PxAt w wr NN SZ p ∧ PxSame NN SZ p ∧ Lens p j ∧ p.b = b ∧ p.c = c ∧ wr.heap[T]? = some (.cells [.pointer (some ⟨b, 0, none⟩), .pointer (some ⟨U, 0, none⟩), .pointer (some ⟨c, 0, none⟩)].toArray 27 (0, 0))))
  case atStart => exact ⟨0, by omega, rfl, hide ⟨p, P3.out, P2.out.2.1, P2.out.2.2.1, P2.out.2.2.2.1.symm, P2.out.2.2.2.2.symm, T3.out⟩⟩
  case round =>
    clear P2 P3 T3 p
    obtain ⟨j, hkj, rfl, HR⟩ := hrel
    by_cases hk : 0 < gk
    · have hjm : (j : Int) < (m' : Int) := by omega
      have hj0 : (0 : Int) ≤ (j : Int) := by omega
      obtain ⟨o, hoj⟩ : ∃ o, qs[j]? = some o := ⟨_, List.getElem?_eq_getElem (by have := HQ.out.2.1; omega)⟩
      obtain ⟨bb, off, bo, bc, fo, fc, hao, hst⟩ := HQ.out.1 j o hoj
      subst hao
      obtain ⟨p, i1, i2, i3, i4, i5, i6⟩ := HR.out
      have hstr := hst.grown i1.dev.disk.grown
      have hst0 := hide hst
      have c0 := hstr.c0
      have c1 := hstr.c1
      have c2 := hstr.c2
      have c3 := hstr.c3
      have c4 := hstr.c4
      have c5 := hstr.c5
      have t0 : wr.cell? ⟨T, 0, none⟩ = some (.pointer (some ⟨b, 0, none⟩)) := cell_row i6 0
      have t1 : wr.cell? ⟨T, 1, none⟩ = some (.pointer (some ⟨U, 0, none⟩)) := cell_row i6 1
      have t2 : wr.cell? ⟨T, 2, none⟩ = some (.pointer (some ⟨c, 0, none⟩)) := cell_row i6 2
      have HP := hide (And.intro i1 (And.intro i2 (And.intro i3 (And.intro i4 (And.intro i5 i6)))))
      have HS := hide (And.intro hstr.sin hst.sin)
      clear i1 i2 i3 i4 i5 i6 hstr hst hoj HR
      by_cases h7 : o.kd = 7
      · rw [h7] at c0
        go_wp2
        go_roundg (gk - 1)
        case measure => omega
        case rel => exact ⟨j + 1, by omega, by go_num, hide ⟨p, HP.out.1, HP.out.2.1, HP.out.2.2.1.mono (by omega), HP.out.2.2.2⟩⟩
      · by_cases h8 : o.kd = 8
        · rw [h8] at c0
          go_wp2
          go_roundg (gk - 1)
          case measure => omega
          case rel => exact ⟨j + 1, by omega, by go_num, hide ⟨p, HP.out.1, HP.out.2.1, HP.out.2.2.1.mono (by omega), HP.out.2.2.2⟩⟩
        · have n7 : (o.kd != 7) = true := by simpa using h7
          have n8 : (o.kd != 8) = true := by simpa using h8
          go_wp2_with fail
          go_region_held3 (fun w' => w'.cell? ⟨T, 0, none⟩ = some (.pointer (some ⟨b, 0, none⟩)) ∧ w'.cell? ⟨T, 1, none⟩ = some (.pointer (some ⟨U, 0, none⟩)) ∧ w'.cell? ⟨T, 2, none⟩ = some (.pointer (some ⟨c, 0, none⟩)) ∧ w'.cell? ⟨bb, off + j * 6, none⟩ = some (.int .i64 o.kd) ∧ w'.cell? ⟨bb, off + j * 6 + 1, none⟩ = some (.int .i64 o.on) ∧ w'.cell? ⟨bb, off + j * 6 + 2, none⟩ = some (.int .i64 o.at_) ∧ w'.cell? ⟨bb, off + j * 6 + 3, none⟩ = some (.slice bo o.B.length bc) ∧ w'.cell? ⟨bb, off + j * 6 + 4, none⟩ = some (.bool o.raw) ∧ w'.cell? ⟨bb, off + j * 6 + 5, none⟩ = some (.slice fo o.F.length fc)) (first | exact ⟨t0, t1, t2, c0, c1, c2, c3, c4, c5⟩ | assumption | go_keep) (first
            | (go_at_call 9; have hst9 := step_any (HP.out.1.then (grown_drew _ _)) (HP.out.2.2.1.px (by omega)) (some ⟨U, 0, none⟩) o bo bc fo fc (HS.out.1.grown (grown_drew _ _)) HS.out.2.fin.lt HP.out.2.1 h7 h8; rw [HP.out.2.2.2.1, HP.out.2.2.2.2.1] at hst9; refine hst9.mono ?_; clear hst9; rintro e w6 hq; obtain ⟨rfl, p6, q1, q2, q3⟩ := stepped_same hq HP.out.2.1 HP.out.2.2.1; have rT := q1.mv.at HP.out.2.2.2.2.2 (fun e => HP.out.1.off HP.out.2.2.2.2.2 (.inl rfl) (Px.own_all e)); have s6 := HS.out.2; have P6 := hide (And.intro q1 (And.intro q2 (And.intro q3 rT))); have hh := hst0.out.grown q1.z.dev.disk.grown; have hS6 := And.intro (cell_row rT 0) (And.intro (cell_row rT 1) (And.intro (cell_row rT 2) (And.intro hh.c0 (And.intro hh.c1 (And.intro hh.c2 (And.intro hh.c3 (And.intro hh.c4 hh.c5))))))); clear hq q1 q2 q3 rT s6 hh))
          clear t0 t1 t2 c0 c1 c2 c3 c4 c5 hS6
          go_wp2
          go_roundg (gk - 1)
          case measure => omega
          case rel => exact ⟨j + 1, by omega, by go_num, hide ⟨p6, P6.out.1.z, P6.out.2.1, P6.out.2.2.1, P6.out.1.mv.eb.trans HP.out.2.2.2.1, P6.out.1.mv.ec.trans HP.out.2.2.2.2.1, P6.out.2.2.2⟩⟩
    · have hj : j = m' := by omega
      subst hj
      have hjm : ¬ (j : Int) < (j : Int) := by omega
      obtain ⟨p, i1, i2, i3, i4, i5, i6⟩ := HR.out
      have t0 : wr.cell? ⟨T, 0, none⟩ = some (.pointer (some ⟨b, 0, none⟩)) := cell_row i6 0
      have HC := hide (dcopy_any i1.dev)
      rw [i4] at HC
      have HP := hide (And.intro i1 (And.intro i2 (And.intro i3 (And.intro i4 (And.intro i5 i6)))))
      have hoffT := hide (i1.off i6 (.inl rfl))
      clear i1 i2 i3 i4 i5 i6 HR
      go_wp2_with fail
      refine HC.out.mono ?_
      rintro e w6 ⟨bx, rfl, kx, d6, l6, o6, g6⟩
      have X6 := hide (And.intro (HP.out.1.then g6) (And.intro d6 (And.intro l6 (And.intro o6 ((g6.block T (row_lt HP.out.2.2.2.2.2) (by simp)).trans HP.out.2.2.2.2.2)))))
      have a0 := g6.cell t0 (by simp)
      have z6 := g6.size
      have G6 := hide g6
      clear d6 l6 o6 g6 t0 HC
      go_wp2_with fail
      go_region_held3 (fun w' => w'.cell? ⟨T, 0, none⟩ = some (.pointer (some ⟨b, 0, none⟩))) (first | exact a0 | assumption | go_keep) (first
        | (go_at_call 12; have hi7 := dimage_any (X6.out.1.dev.then (grown_drew _ _)); rw [HP.out.2.2.2.1] at hi7; refine hi7.mono ?_; clear hi7; rintro e w7 ⟨rfl, hs, i7, g7⟩; have g7' := grown_trans (grown_drew w6 none) g7; have a1 := g7'.cell a0 (by simp); have I7 := hide (And.intro i7 g7'); have HD7 := hide (X6.out.1.dev.then g7'); rw [HP.out.2.2.2.1] at HD7; clear i7 g7 g7')
        | (go_at_call 13; refine (dwaiting_any HD7.out).mono ?_; rintro e w8 ⟨rfl, rfl⟩)
        | (go_at_call 14; refine (count_any HD7.out.dev).mono ?_; rintro e w9 ⟨rfl, rfl⟩)
        | (go_at_call 15; refine (down_any HD7.out.dev).mono ?_; rintro e w10 ⟨rfl, rfl⟩))
      have AW := hide (aw_of (U := U) HP.out.1 HP.out.2.1 G6.out X6.out.2.1 X6.out.2.2.1 X6.out.2.2.2.1 (by rw [HP.out.2.2.2.1, HP.out.2.2.2.2.1]; exact HP.out.2.2.2.2.2) I7.out.2 I7.out.1)
      rw [HP.out.2.2.2.1, HP.out.2.2.2.2.1] at AW
      have LOW : Hid (∀ i, foot p.k p.W i ∨ i = b → i < w6.heap.size) := by
        rintro i (e | e)
        · have := HP.out.1.lt i (.inl e); omega
        · have := HP.out.1.lt i (.inr (.inr (.inl (e.trans HP.out.2.2.2.1.symm)))); omega
      have LN : Hid (Lens ⟨bx, p.s, kx, p.D, p.W, c, p.t, p.q⟩ j) := HP.out.2.2.1
      have HC9 : Hid (p.s.cnt ≤ 80) := by have := HP.out.2.2.1.2.2.1; show _ ≤ _; omega
      have HW9 : Hid (p.W.length ≤ 80) := by have := HP.out.2.2.1.1; show _ ≤ _; omega
      have HSH : Hid (Shape NN SZ) := HP.out.1.dev.disk.disk.shape
      clear a0 a1 I7 HD7 X6 G6 z6 HP hoffT
      generalize w6.heap.size = gI at *
      go_wp2
      go_loopg [17] m2' (fun q i wr => ∃ j2 : Nat, q + j2 = m2' ∧ i = .int .i64 (j2 : Int) ∧ Hid (∃ p2, Aw w wr NN SZ b p.s p.k p.D p.W T U c gI gI hs p2 ∧ Lens p2 (j + j2) ∧ p2.b = bx ∧ p2.c = c))
      case atStart => exact ⟨0, by omega, rfl, hide ⟨_, AW.out, LN.out, rfl, rfl⟩⟩
      case round =>
        clear AW LN
        obtain ⟨j2, hkj2, rfl, HR⟩ := hrel
        by_cases hk2 : 0 < gk
        · have hjm2 : (j2 : Int) < (m2' : Int) := by omega
          have hj02 : (0 : Int) ≤ (j2 : Int) := by omega
          obtain ⟨o, hoj⟩ : ∃ o, ms[j2]? = some o := ⟨_, List.getElem?_eq_getElem (by have := HQ.out.2.2.2; omega)⟩
          obtain ⟨bb, off, bo, bc, fo, fc, hao, hst⟩ := HQ.out.2.2.1 j2 o hoj
          subst hao
          obtain ⟨p2, i1, i2, i3, i4⟩ := HR.out
          have gX := World.grownBy_alloc wr (.cells #[.pointer (some ⟨bx, 0, none⟩), .pointer none, .pointer (some ⟨c, 0, none⟩)] 27) none
          have rX : (wr.alloc (.cells #[.pointer (some ⟨bx, 0, none⟩), .pointer none, .pointer (some ⟨c, 0, none⟩)] 27)).heap[wr.heap.size]? = some (.cells [.pointer (some ⟨bx, 0, none⟩), .pointer none, .pointer (some ⟨c, 0, none⟩)].toArray 27 (0, 0)) := heap_alloc_new wr _
          have hstr := hst.grown (i1.grown gX).dev.disk.grown
          have hst0 := hide hst
          have c0 := hstr.c0
          have c1 := hstr.c1
          have c2 := hstr.c2
          have c3 := hstr.c3
          have c4 := hstr.c4
          have c5 := hstr.c5
          have t2 : wr.cell? ⟨T, 2, none⟩ = some (.pointer (some ⟨c, 0, none⟩)) := cell_row i1.tw 2
          have x0 : (wr.alloc (.cells #[.pointer (some ⟨bx, 0, none⟩), .pointer none, .pointer (some ⟨c, 0, none⟩)] 27)).cell? ⟨wr.heap.size, 0, none⟩ = some (.pointer (some ⟨bx, 0, none⟩)) := cell_row rX 0
          have x1 : (wr.alloc (.cells #[.pointer (some ⟨bx, 0, none⟩), .pointer none, .pointer (some ⟨c, 0, none⟩)] 27)).cell? ⟨wr.heap.size, 1, none⟩ = some (.pointer none) := cell_row rX 1
          have x2 : (wr.alloc (.cells #[.pointer (some ⟨bx, 0, none⟩), .pointer none, .pointer (some ⟨c, 0, none⟩)] 27)).cell? ⟨wr.heap.size, 2, none⟩ = some (.pointer (some ⟨c, 0, none⟩)) := cell_row rX 2
          have HP := hide (And.intro (i1.grown gX) (And.intro i2 (And.intro i3 i4)))
          have HS := hide (And.intro hstr.sin hst.sin)
          have RX := hide rX
          clear i1 i2 i3 i4 hstr hst hoj HR rX gX
          by_cases h7 : o.kd = 7
          · rw [h7] at c0
            go_wp2
            go_roundg (gk - 1)
            case measure => omega
            case rel => exact ⟨j2 + 1, by omega, by go_num, hide ⟨p2, HP.out.1, HP.out.2.1.mono (by omega), HP.out.2.2⟩⟩
          · by_cases h8 : o.kd = 8
            · rw [h8] at c0
              go_wp2
              go_roundg (gk - 1)
              case measure => omega
              case rel => exact ⟨j2 + 1, by omega, by go_num, hide ⟨p2, HP.out.1, HP.out.2.1.mono (by omega), HP.out.2.2⟩⟩
            · have n7 : (o.kd != 7) = true := by simpa using h7
              have n8 : (o.kd != 8) = true := by simpa using h8
              go_wp2_with fail
              generalize wr.alloc (.cells #[.pointer (some ⟨bx, 0, none⟩), .pointer none, .pointer (some ⟨c, 0, none⟩)] 27) = wx at *
              generalize wr.heap.size = XB at *
              go_region_held3 (fun w' => w'.cell? ⟨XB, 0, none⟩ = some (.pointer (some ⟨bx, 0, none⟩)) ∧ w'.cell? ⟨XB, 1, none⟩ = some (.pointer none) ∧ w'.cell? ⟨XB, 2, none⟩ = some (.pointer (some ⟨c, 0, none⟩)) ∧ w'.cell? ⟨bb, off + j2 * 6, none⟩ = some (.int .i64 o.kd) ∧ w'.cell? ⟨bb, off + j2 * 6 + 1, none⟩ = some (.int .i64 o.on) ∧ w'.cell? ⟨bb, off + j2 * 6 + 2, none⟩ = some (.int .i64 o.at_) ∧ w'.cell? ⟨bb, off + j2 * 6 + 3, none⟩ = some (.slice bo o.B.length bc) ∧ w'.cell? ⟨bb, off + j2 * 6 + 4, none⟩ = some (.bool o.raw) ∧ w'.cell? ⟨bb, off + j2 * 6 + 5, none⟩ = some (.slice fo o.F.length fc)) (first | exact ⟨x0, x1, x2, c0, c1, c2, c3, c4, c5⟩ | assumption | go_keep) (first
                | (go_at_call 9; have hst9 := step_any (HP.out.1.px.then (grown_drew _ _)) (HP.out.2.1.px (by omega)) none o bo bc fo fc (HS.out.1.grown (grown_drew _ _)) HS.out.2.fin.lt HP.out.1.same h7 h8; rw [HP.out.2.2.1, HP.out.2.2.2] at hst9; refine hst9.mono ?_; clear hst9; rintro e w6 hq; obtain ⟨rfl, p6, q1, q2, q3⟩ := stepped_same hq HP.out.1.same HP.out.2.1; have rT := q1.mv.at RX.out (fun e => HP.out.1.px.off RX.out (.inl rfl) (Px.own_all e)); have P6 := hide (And.intro ((HP.out.1.grown (grown_drew _ _)).step q1 q2) (And.intro q3 q1.mv)); have hh := hst0.out.grown q1.z.dev.disk.grown; have hS6 := And.intro (cell_row rT 0) (And.intro (cell_row rT 1) (And.intro (cell_row rT 2) (And.intro hh.c0 (And.intro hh.c1 (And.intro hh.c2 (And.intro hh.c3 (And.intro hh.c4 hh.c5))))))); clear hq q1 q2 q3 rT hh))
              clear x0 x1 x2 c0 c1 c2 c3 c4 c5 hS6 t2
              go_wp2
              go_roundg (gk - 1)
              case measure => omega
              case rel => exact ⟨j2 + 1, by omega, by go_num, hide ⟨p6, P6.out.1, P6.out.2.1.mono (by omega), P6.out.2.2.eb.trans HP.out.2.2.1, P6.out.2.2.ec.trans HP.out.2.2.2⟩⟩
        · have hj2 : j2 = m2' := by omega
          subst hj2
          have hjm2 : ¬ (j2 : Int) < (j2 : Int) := by omega
          obtain ⟨p2, i1, i2, i3, i4⟩ := HR.out
          have t0 : wr.cell? ⟨T, 0, none⟩ = some (.pointer (some ⟨b, 0, none⟩)) := cell_row i1.tw 0
          have A2 := hide i1
          clear i1 i2 i3 i4 HR
          go_wp2_with fail
          have hD := A2.out.dw LOW.out (Nat.le_refl _)
          have D2 := hide hD
          clear A2 hD
          refine (dimage_any D2.out.dev).mono ?_
          rintro e w7 ⟨rfl, hs2, i7, g7⟩
          have D7 := hide (D2.out.grown g7)
          have I7 := hide i7
          have a0 := g7.cell t0 (by simp)
          clear i7 g7 t0
          have n1 := HSH.out.n1
          go_wp2_with fail
          refine (sameRows_eq (some ⟨wr.heap.size, 0, none⟩) (some ⟨gI, 0, none⟩) NN NN NN (secs NN SZ p.D) w7 (secs_length _ _ _) (I7.out.rowsAt HSH.out.s1) (D7.out.img.rowsAt HSH.out.s1) (by omega)).mono ?_
          rintro e w8 ⟨rfl, q8, rfl⟩
          have D8 := hide (D7.out.grown (grown_drewN _ q8 none))
          have b0 := (grown_drewN w7 q8 none).cell a0 (by simp)
          generalize w7.drewN q8 = w8 at *
          clear a0 I7 D7
          go_wp2_with fail
          refine (dwaiting_any D8.out.dev).mono ?_
          rintro e w9 ⟨rfl, rfl⟩
          go_wp2_with fail
          refine (count_any D8.out.dev.dev).mono ?_
          rintro e w9 ⟨rfl, rfl⟩
          go_wp2_with fail
          refine (down_any D8.out.dev.dev).mono ?_
          rintro e w9 ⟨rfl, rfl⟩
          obtain ⟨LW, hLW⟩ : ∃ LW, LW = p.W.length := ⟨_, rfl⟩
          obtain ⟨CN, hCN⟩ : ∃ CN, CN = p.s.cnt := ⟨_, rfl⟩
          rw [← hLW, ← hCN]
          have HLW := hide hLW
          have HCN := hide hCN
          clear hLW hCN
          obtain ⟨of, hof⟩ : ∃ of, of = p.s.off := ⟨_, rfl⟩
          rw [← hof]
          have HOF := hide hof
          clear hof
          cases of with
          | true =>
            have E9 : Hid (∃ sD kD WD, sD.off = true ∧ sD.cnt = CN ∧ WD.length = LW ∧ Dw w w9 NN SZ b sD kD p.D WD T U c gI gI hs) := ⟨p.s, p.k, p.W, HOF.out.symm, HCN.out.symm, HLW.out.symm, D8.out⟩
            clear D8
            obtain ⟨sD, kD, WD, h1, h2, h3, h4⟩ := E9.out
            have D9 := hide h4
            have hso := hide (And.intro h1 (And.intro h2 h3))
            have t0 : w9.cell? ⟨T, 0, none⟩ = some (.pointer (some ⟨b, 0, none⟩)) := cell_row h4.tw 0
            clear h1 h2 h3 h4 E9
            go_wp2_with fail
            have hcn := count_any D9.out.dev.dev
            rw [hso.out.2.1] at hcn
            refine hcn.mono ?_
            rintro e wC ⟨rfl, rfl⟩
            clear hcn t0
            go_wp2
            go_loopg [19] j2 (fun q i wr => ∃ j3 : Nat, q + j3 = j2 ∧ i = .int .i64 (j3 : Int) ∧ Hid (∃ k3 W3, Dw w wr NN SZ b sD k3 p.D W3 T U c gI gI hs ∧ W3.length = LW))
            case atStart => exact ⟨0, by omega, rfl, hide ⟨kD, WD, D9.out, hso.out.2.2⟩⟩
            case round =>
              clear D9
              obtain ⟨j3, hkj3, rfl, HR⟩ := hrel
              have hsD : Hid (sD.goes = false ∧ sD.next = sD ∧ sD.upc = 60 ∧ (∀ m, sD.armed m = sD) ∧ ∀ m, sD.code m = 60) := by
                have h := hso.out.1
                have hg := Dv.goes_off h
                exact ⟨hg.1, hg.2, by simp [Dv.upc, h], fun m => by simp [Dv.armed, h], fun m => by simp [Dv.code, hg.1]⟩
              by_cases hk3 : 0 < gk
              · have hjm3 : (j3 : Int) < (j2 : Int) := by omega
                have hj03 : (0 : Int) ≤ (j3 : Int) := by omega
                obtain ⟨o, hoj⟩ : ∃ o, ms[j3]? = some o := ⟨_, List.getElem?_eq_getElem (by have := HQ.out.2.2.2; omega)⟩
                obtain ⟨bb, off, bo, bc, fo, fc, hao, hst⟩ := HQ.out.2.2.1 j3 o hoj
                subst hao
                obtain ⟨k3, W3, i1, i2⟩ := HR.out
                have hstr := hst.grown i1.dev.disk.grown
                have c0 := hstr.c0
                have c1 := hstr.c1
                have c2 := hstr.c2
                have c3 := hstr.c3
                have c4 := hstr.c4
                have c5 := hstr.c5
                have SI := hide hstr.sin
                have HP := hide (And.intro i1 i2)
                have t0 : wr.cell? ⟨T, 0, none⟩ = some (.pointer (some ⟨b, 0, none⟩)) := cell_row i1.tw 0
                clear hstr hst hoj HR i1 i2
                obtain ⟨kd, on, at_, Bs, raw, F⟩ := o
                simp only at c0 c1 c2 c3 c4 c5
                rcases (show kd = 1 ∨ kd = 2 ∨ (kd ≠ 1 ∧ kd ≠ 2) by omega) with rfl | rfl | ⟨hk1, hk2⟩
                · have gA := World.grownBy_alloc wr (.cells #[.int .i64 1, .int .i64 on, .int .i64 at_, .slice bo Bs.length bc, .bool raw, .slice fo F.length fc] 35) none
                  have rA : (wr.alloc (.cells #[.int .i64 1, .int .i64 on, .int .i64 at_, .slice bo Bs.length bc, .bool raw, .slice fo F.length fc] 35)).heap[wr.heap.size]? = some (.cells (scells ⟨1, on, at_, Bs, raw, F⟩ bo bc fo fc).toArray 35 (0, 0)) := heap_alloc_new wr _
                  have t1 := gA.cell t0 (by simp)
                  have HA := hide (And.intro (HP.out.1.grown gA) HP.out.2)
                  have HCS : Hid (sD.cnt < 100000) := by have := HC9.out; have := hso.out.2.1; have := HCN.out; show _ < _; omega
                  have SA : Hid (SIn (wr.alloc (.cells #[.int .i64 1, .int .i64 on, .int .i64 at_, .slice bo Bs.length bc, .bool raw, .slice fo F.length fc] 35)) ⟨1, on, at_, Bs, raw, F⟩ bo bc fo fc) := ⟨SI.out.bin.grown gA, SI.out.fin.grown gA, SI.out.hi⟩
                  have RA := hide rA
                  clear gA rA
                  go_wp2_with fail
                  generalize wr.alloc (.cells #[.int .i64 1, .int .i64 on, .int .i64 at_, .slice bo Bs.length bc, .bool raw, .slice fo F.length fc] 35) = wA2 at *
                  generalize wr.heap.size = BA at *
                  clear c0 c1 c2 c3 c4 c5 t0
                  have hask := asks_write HA.out.1.dev (by rw [HA.out.2]; have := HW9.out; have := HLW.out; omega) HCS.out on at_ Bs raw F bo bc fo fc SA.out
                  refine hask.mono ?_
                  clear hask
                  rintro e wB2 ⟨v, rfl, gv, kB2, DB2, WB2, dB2, mB2, eB2, lB2⟩
                  rw [hsD.out.1] at gv eB2
                  rw [hsD.out.2.1] at dB2
                  rw [hsD.out.2.2.2.2]
                  have eB3 : (DB2, abs WB2) = (p.D, abs W3) := eB2
                  obtain ⟨e1, e2⟩ := Prod.mk.inj eB3
                  subst e1
                  have hlen : WB2.length = W3.length := by have := congrArg List.length e2; simpa [abs] using this
                  have hv : v = .slice none 0 0 := by
                    rcases gv with ⟨hv, _⟩ | ⟨g, _, _, _, h4⟩
                    · exact hv
                    · have := HSH.out.s0; simp at h4; omega
                  subst hv
                  have DB3 := hide (And.intro (HA.out.1.step dB2 mB2) (hlen.trans HA.out.2))
                  have u0 : wB2.cell? ⟨T, 0, none⟩ = some (.pointer (some ⟨b, 0, none⟩)) := cell_row DB3.out.1.tw 0
                  have rB2 : wB2.heap[BA]? = some (.cells (scells ⟨1, on, at_, Bs, raw, F⟩ bo bc fo fc).toArray 35 (0, 0)) := mB2.kept.at RA.out (by
                    rintro (e | e)
                    · exact HA.out.1.dev.disk.disk.other_off RA.out (by decide) (by decide) (by decide) e
                    · have e : BA = b := e
                      have h2 := HA.out.1.dev.dev.head
                      rw [← e, RA.out] at h2
                      simp at h2)
                  have u2 : wB2.cell? ⟨BA, 2, none⟩ = some (.int .i64 at_) := cell_row rB2 2
                  clear dB2 mB2 eB2 lB2 gv eB3 e2 hlen rB2 t1
                  go_wp2_with fail
                  have harm := arm_any DB3.out.1.dev.dev at_ SA.out.hi
                  rw [hsD.out.2.2.1, hsD.out.2.2.2.1] at harm
                  refine harm.mono ?_
                  clear harm
                  rintro e wD ⟨rfl, dD, gD⟩
                  have DD := hide (DB3.out.1.step (DB3.out.1.dev.dset gD dD) (DvM.row gD))
                  clear dD gD u0 u2
                  go_wp2
                  go_roundg (gk - 1)
                  case measure => omega
                  case rel => exact ⟨j3 + 1, by omega, by go_num, hide ⟨kB2, WB2, DD.out, DB3.out.2⟩⟩
                · have gA := World.grownBy_alloc wr (.cells #[.int .i64 2, .int .i64 on, .int .i64 at_, .slice bo Bs.length bc, .bool raw, .slice fo F.length fc] 35) none
                  have rA : (wr.alloc (.cells #[.int .i64 2, .int .i64 on, .int .i64 at_, .slice bo Bs.length bc, .bool raw, .slice fo F.length fc] 35)).heap[wr.heap.size]? = some (.cells (scells ⟨2, on, at_, Bs, raw, F⟩ bo bc fo fc).toArray 35 (0, 0)) := heap_alloc_new wr _
                  have t1 := gA.cell t0 (by simp)
                  have HA := hide (And.intro (HP.out.1.grown gA) HP.out.2)
                  have HCS : Hid (sD.cnt < 100000) := by have := HC9.out; have := hso.out.2.1; have := HCN.out; show _ < _; omega
                  have SA : Hid (SIn (wr.alloc (.cells #[.int .i64 2, .int .i64 on, .int .i64 at_, .slice bo Bs.length bc, .bool raw, .slice fo F.length fc] 35)) ⟨2, on, at_, Bs, raw, F⟩ bo bc fo fc) := ⟨SI.out.bin.grown gA, SI.out.fin.grown gA, SI.out.hi⟩
                  have RA := hide rA
                  clear gA rA
                  go_wp2_with fail
                  generalize wr.alloc (.cells #[.int .i64 2, .int .i64 on, .int .i64 at_, .slice bo Bs.length bc, .bool raw, .slice fo F.length fc] 35) = wA2 at *
                  generalize wr.heap.size = BA at *
                  clear c0 c1 c2 c3 c4 c5 t0
                  have hask := asks_read HA.out.1.dev HCS.out on at_ Bs raw F bo bc fo fc
                  refine hask.mono ?_
                  clear hask
                  rintro e wB2 ⟨v, rfl, gv, kB2, DB2, WB2, dB2, mB2, eB2, lB2⟩
                  rw [hsD.out.1] at gv eB2
                  rw [hsD.out.2.1] at dB2
                  rw [hsD.out.2.2.2.2]
                  have eB3 : (DB2, abs WB2) = (p.D, abs W3) := eB2
                  obtain ⟨e1, e2⟩ := Prod.mk.inj eB3
                  subst e1
                  have hlen : WB2.length = W3.length := by have := congrArg List.length e2; simpa [abs] using this
                  have hv : v = .slice none 0 0 := by
                    rcases gv with ⟨hv, _⟩ | ⟨g, _, _, _, h4⟩
                    · exact hv
                    · have := HSH.out.s0; simp at h4; omega
                  subst hv
                  have DB3 := hide (And.intro (HA.out.1.step dB2 mB2) (hlen.trans HA.out.2))
                  have u0 : wB2.cell? ⟨T, 0, none⟩ = some (.pointer (some ⟨b, 0, none⟩)) := cell_row DB3.out.1.tw 0
                  have rB2 : wB2.heap[BA]? = some (.cells (scells ⟨2, on, at_, Bs, raw, F⟩ bo bc fo fc).toArray 35 (0, 0)) := mB2.kept.at RA.out (by
                    rintro (e | e)
                    · exact HA.out.1.dev.disk.disk.other_off RA.out (by decide) (by decide) (by decide) e
                    · have e : BA = b := e
                      have h2 := HA.out.1.dev.dev.head
                      rw [← e, RA.out] at h2
                      simp at h2)
                  have u2 : wB2.cell? ⟨BA, 2, none⟩ = some (.int .i64 at_) := cell_row rB2 2
                  clear dB2 mB2 eB2 lB2 gv eB3 e2 hlen rB2 t1
                  go_wp2_with fail
                  have harm := arm_any DB3.out.1.dev.dev at_ SA.out.hi
                  rw [hsD.out.2.2.1, hsD.out.2.2.2.1] at harm
                  refine harm.mono ?_
                  clear harm
                  rintro e wD ⟨rfl, dD, gD⟩
                  have DD := hide (DB3.out.1.step (DB3.out.1.dev.dset gD dD) (DvM.row gD))
                  clear dD gD u0 u2
                  go_wp2
                  go_roundg (gk - 1)
                  case measure => omega
                  case rel => exact ⟨j3 + 1, by omega, by go_num, hide ⟨kB2, WB2, DD.out, DB3.out.2⟩⟩
                · have hb1 : (kd != 1) = true := by simpa using hk1
                  have hb2 : (kd != 2) = true := by simpa using hk2
                  have gA := World.grownBy_alloc wr (.cells #[.int .i64 3, .int .i64 on, .int .i64 at_, .slice bo Bs.length bc, .bool raw, .slice fo F.length fc] 35) none
                  have rA : (wr.alloc (.cells #[.int .i64 3, .int .i64 on, .int .i64 at_, .slice bo Bs.length bc, .bool raw, .slice fo F.length fc] 35)).heap[wr.heap.size]? = some (.cells (scells ⟨3, on, at_, Bs, raw, F⟩ bo bc fo fc).toArray 35 (0, 0)) := heap_alloc_new wr _
                  have t1 := gA.cell t0 (by simp)
                  have HA := hide (And.intro (HP.out.1.grown gA) HP.out.2)
                  have HCS : Hid (sD.cnt < 100000) := by have := HC9.out; have := hso.out.2.1; have := HCN.out; show _ < _; omega
                  have SA : Hid (SIn (wr.alloc (.cells #[.int .i64 3, .int .i64 on, .int .i64 at_, .slice bo Bs.length bc, .bool raw, .slice fo F.length fc] 35)) ⟨3, on, at_, Bs, raw, F⟩ bo bc fo fc) := ⟨SI.out.bin.grown gA, SI.out.fin.grown gA, SI.out.hi⟩
                  have RA := hide rA
                  clear gA rA
                  go_wp2_with fail
                  generalize wr.alloc (.cells #[.int .i64 3, .int .i64 on, .int .i64 at_, .slice bo Bs.length bc, .bool raw, .slice fo F.length fc] 35) = wA2 at *
                  generalize wr.heap.size = BA at *
                  clear c0 c1 c2 c3 c4 c5 t0
                  have hask := asks_sync HA.out.1.dev HCS.out on at_ Bs raw F bo bc fo fc
                  refine hask.mono ?_
                  clear hask
                  rintro e wB2 ⟨v, rfl, gv, kB2, DB2, WB2, dB2, mB2, eB2, lB2⟩
                  rw [hsD.out.1] at gv eB2
                  rw [hsD.out.2.1] at dB2
                  rw [hsD.out.2.2.2.2]
                  have eB3 : (DB2, abs WB2) = (p.D, abs W3) := eB2
                  obtain ⟨e1, e2⟩ := Prod.mk.inj eB3
                  subst e1
                  have hlen : WB2.length = W3.length := by have := congrArg List.length e2; simpa [abs] using this
                  have hv : v = .slice none 0 0 := by
                    rcases gv with ⟨hv, _⟩ | ⟨g, _, _, _, h4⟩
                    · exact hv
                    · have := HSH.out.s0; simp at h4; omega
                  subst hv
                  have DB3 := hide (And.intro (HA.out.1.step dB2 mB2) (hlen.trans HA.out.2))
                  have u0 : wB2.cell? ⟨T, 0, none⟩ = some (.pointer (some ⟨b, 0, none⟩)) := cell_row DB3.out.1.tw 0
                  have rB2 : wB2.heap[BA]? = some (.cells (scells ⟨3, on, at_, Bs, raw, F⟩ bo bc fo fc).toArray 35 (0, 0)) := mB2.kept.at RA.out (by
                    rintro (e | e)
                    · exact HA.out.1.dev.disk.disk.other_off RA.out (by decide) (by decide) (by decide) e
                    · have e : BA = b := e
                      have h2 := HA.out.1.dev.dev.head
                      rw [← e, RA.out] at h2
                      simp at h2)
                  have u2 : wB2.cell? ⟨BA, 2, none⟩ = some (.int .i64 at_) := cell_row rB2 2
                  clear dB2 mB2 eB2 lB2 gv eB3 e2 hlen rB2 t1
                  go_wp2_with fail
                  have harm := arm_any DB3.out.1.dev.dev at_ SA.out.hi
                  rw [hsD.out.2.2.1, hsD.out.2.2.2.1] at harm
                  refine harm.mono ?_
                  clear harm
                  rintro e wD ⟨rfl, dD, gD⟩
                  have DD := hide (DB3.out.1.step (DB3.out.1.dev.dset gD dD) (DvM.row gD))
                  clear dD gD u0 u2
                  go_wp2
                  go_roundg (gk - 1)
                  case measure => omega
                  case rel => exact ⟨j3 + 1, by omega, by go_num, hide ⟨kB2, WB2, DD.out, DB3.out.2⟩⟩
              · have hj3 : j3 = j2 := by omega
                subst hj3
                have hjm3 : ¬ (j3 : Int) < (j3 : Int) := by omega
                obtain ⟨k3, W3, i1, i2⟩ := HR.out
                have t0 : wr.cell? ⟨T, 0, none⟩ = some (.pointer (some ⟨b, 0, none⟩)) := cell_row i1.tw 0
                have HP := hide (And.intro i1 i2)
                clear i1 i2 HR
                go_wp2_with fail
                have hdn := down_any HP.out.1.dev.dev
                rw [hso.out.1] at hdn
                refine hdn.mono ?_
                rintro e wE ⟨rfl, rfl⟩
                clear hdn
                go_wp2_with fail
                refine (dimage_any HP.out.1.dev).mono ?_
                rintro e wF ⟨rfl, hs3, iF, gF⟩
                have DF := hide (HP.out.1.grown gF)
                have IF := hide iF
                have t1 := gF.cell t0 (by simp)
                clear iF gF t0
                go_wp2_with fail
                refine (sameRows_eq _ (some ⟨gI, 0, none⟩) NN NN NN (secs NN SZ p.D) wF (secs_length _ _ _) (IF.out.rowsAt HSH.out.s1) (DF.out.img.rowsAt HSH.out.s1) (by omega)).mono ?_
                rintro e wG ⟨rfl, qG, rfl⟩
                have DG := hide (DF.out.grown (grown_drewN _ qG none))
                have t2 := (grown_drewN wF qG none).cell t1 (by simp)
                generalize wF.drewN qG = wG at *
                clear t1 IF DF
                go_wp2_with fail
                have hwt := dwaiting_any DG.out.dev
                rw [HP.out.2] at hwt
                refine hwt.mono ?_
                rintro e wH ⟨rfl, rfl⟩
                clear hwt
                go_wp2_with fail
                have hcn := count_any DG.out.dev.dev
                rw [hso.out.2.1] at hcn
                refine hcn.mono ?_
                rintro e wH ⟨rfl, rfl⟩
                clear hcn
                go_wp2
                go_ret
                exact ⟨rfl, DG.out.dev.disk.grown⟩
          | false =>
            have hsne : p.s = ⟨false, p.s.arm, p.s.cnt⟩ := by
              have := HOF.out
              cases hp : p.s with
              | mk o a n => rw [hp] at this; simp at this; simp [this]
            have eA : Hid (p.s.armed 0 = ⟨false, 0, p.s.cnt⟩) := by show _ = _; rw [hsne]; rfl
            clear hsne
            go_wp2_with fail
            refine (arm_any D8.out.dev.dev 0 (by omega)).mono ?_
            rintro e wA ⟨rfl, dA, gA⟩
            rw [eA.out] at dA
            have DA := hide (D8.out.step (D8.out.dev.dset gA dA) (DvM.row gA))
            clear dA gA D8
            have c0 : wA.cell? ⟨T, 0, none⟩ = some (.pointer (some ⟨b, 0, none⟩)) := cell_row DA.out.tw 0
            clear b0
            go_wp2_with fail
            refine (dsync_any DA.out.dev (by have := HC9.out; show p.s.cnt < _; omega)).mono ?_
            rintro e wB ⟨rfl, kB, DB, WB, dB, mB, eB, lB⟩
            have eB' : (DB, abs WB) = (p.D, abs p.W) := eB
            obtain ⟨e1, e2⟩ := Prod.mk.inj eB'
            subst e1
            have hlen : WB.length = p.W.length := by have := congrArg List.length e2; simpa [abs] using this
            have E9 : Hid (∃ sD kD WD, sD.off = true ∧ sD.cnt = CN ∧ WD.length = LW ∧ Dw w wB NN SZ b sD kD p.D WD T U c gI gI hs) := ⟨⟨true, -1, p.s.cnt⟩, kB, WB, rfl, HCN.out.symm, hlen.trans HLW.out.symm, DA.out.step dB mB⟩
            clear dB mB eB lB eB' e2 hlen DA c0 eA
            generalize Dv.upc p.s = upv at *
            generalize (Dv.mk false 0 p.s.cnt).code 0 = cdv at *
            obtain ⟨sD, kD, WD, h1, h2, h3, h4⟩ := E9.out
            have D9 := hide h4
            have hso := hide (And.intro h1 (And.intro h2 h3))
            have t0 : wB.cell? ⟨T, 0, none⟩ = some (.pointer (some ⟨b, 0, none⟩)) := cell_row h4.tw 0
            clear h1 h2 h3 h4 E9
            go_wp2_with fail
            have hcn := count_any D9.out.dev.dev
            rw [hso.out.2.1] at hcn
            refine hcn.mono ?_
            rintro e wC ⟨rfl, rfl⟩
            clear hcn t0
            go_wp2
            go_loopg [19] j2 (fun q i wr => ∃ j3 : Nat, q + j3 = j2 ∧ i = .int .i64 (j3 : Int) ∧ Hid (∃ k3 W3, Dw w wr NN SZ b sD k3 p.D W3 T U c gI gI hs ∧ W3.length = LW))
            case atStart => exact ⟨0, by omega, rfl, hide ⟨kD, WD, D9.out, hso.out.2.2⟩⟩
            case round =>
              clear D9
              obtain ⟨j3, hkj3, rfl, HR⟩ := hrel
              have hsD : Hid (sD.goes = false ∧ sD.next = sD ∧ sD.upc = 60 ∧ (∀ m, sD.armed m = sD) ∧ ∀ m, sD.code m = 60) := by
                have h := hso.out.1
                have hg := Dv.goes_off h
                exact ⟨hg.1, hg.2, by simp [Dv.upc, h], fun m => by simp [Dv.armed, h], fun m => by simp [Dv.code, hg.1]⟩
              by_cases hk3 : 0 < gk
              · have hjm3 : (j3 : Int) < (j2 : Int) := by omega
                have hj03 : (0 : Int) ≤ (j3 : Int) := by omega
                obtain ⟨o, hoj⟩ : ∃ o, ms[j3]? = some o := ⟨_, List.getElem?_eq_getElem (by have := HQ.out.2.2.2; omega)⟩
                obtain ⟨bb, off, bo, bc, fo, fc, hao, hst⟩ := HQ.out.2.2.1 j3 o hoj
                subst hao
                obtain ⟨k3, W3, i1, i2⟩ := HR.out
                have hstr := hst.grown i1.dev.disk.grown
                have c0 := hstr.c0
                have c1 := hstr.c1
                have c2 := hstr.c2
                have c3 := hstr.c3
                have c4 := hstr.c4
                have c5 := hstr.c5
                have SI := hide hstr.sin
                have HP := hide (And.intro i1 i2)
                have t0 : wr.cell? ⟨T, 0, none⟩ = some (.pointer (some ⟨b, 0, none⟩)) := cell_row i1.tw 0
                clear hstr hst hoj HR i1 i2
                obtain ⟨kd, on, at_, Bs, raw, F⟩ := o
                simp only at c0 c1 c2 c3 c4 c5
                rcases (show kd = 1 ∨ kd = 2 ∨ (kd ≠ 1 ∧ kd ≠ 2) by omega) with rfl | rfl | ⟨hk1, hk2⟩
                · have gA := World.grownBy_alloc wr (.cells #[.int .i64 1, .int .i64 on, .int .i64 at_, .slice bo Bs.length bc, .bool raw, .slice fo F.length fc] 35) none
                  have rA : (wr.alloc (.cells #[.int .i64 1, .int .i64 on, .int .i64 at_, .slice bo Bs.length bc, .bool raw, .slice fo F.length fc] 35)).heap[wr.heap.size]? = some (.cells (scells ⟨1, on, at_, Bs, raw, F⟩ bo bc fo fc).toArray 35 (0, 0)) := heap_alloc_new wr _
                  have t1 := gA.cell t0 (by simp)
                  have HA := hide (And.intro (HP.out.1.grown gA) HP.out.2)
                  have HCS : Hid (sD.cnt < 100000) := by have := HC9.out; have := hso.out.2.1; have := HCN.out; show _ < _; omega
                  have SA : Hid (SIn (wr.alloc (.cells #[.int .i64 1, .int .i64 on, .int .i64 at_, .slice bo Bs.length bc, .bool raw, .slice fo F.length fc] 35)) ⟨1, on, at_, Bs, raw, F⟩ bo bc fo fc) := ⟨SI.out.bin.grown gA, SI.out.fin.grown gA, SI.out.hi⟩
                  have RA := hide rA
                  clear gA rA
                  go_wp2_with fail
                  generalize wr.alloc (.cells #[.int .i64 1, .int .i64 on, .int .i64 at_, .slice bo Bs.length bc, .bool raw, .slice fo F.length fc] 35) = wA2 at *
                  generalize wr.heap.size = BA at *
                  clear c0 c1 c2 c3 c4 c5 t0
                  have hask := asks_write HA.out.1.dev (by rw [HA.out.2]; have := HW9.out; have := HLW.out; omega) HCS.out on at_ Bs raw F bo bc fo fc SA.out
                  refine hask.mono ?_
                  clear hask
                  rintro e wB2 ⟨v, rfl, gv, kB2, DB2, WB2, dB2, mB2, eB2, lB2⟩
                  rw [hsD.out.1] at gv eB2
                  rw [hsD.out.2.1] at dB2
                  rw [hsD.out.2.2.2.2]
                  have eB3 : (DB2, abs WB2) = (p.D, abs W3) := eB2
                  obtain ⟨e1, e2⟩ := Prod.mk.inj eB3
                  subst e1
                  have hlen : WB2.length = W3.length := by have := congrArg List.length e2; simpa [abs] using this
                  have hv : v = .slice none 0 0 := by
                    rcases gv with ⟨hv, _⟩ | ⟨g, _, _, _, h4⟩
                    · exact hv
                    · have := HSH.out.s0; simp at h4; omega
                  subst hv
                  have DB3 := hide (And.intro (HA.out.1.step dB2 mB2) (hlen.trans HA.out.2))
                  have u0 : wB2.cell? ⟨T, 0, none⟩ = some (.pointer (some ⟨b, 0, none⟩)) := cell_row DB3.out.1.tw 0
                  have rB2 : wB2.heap[BA]? = some (.cells (scells ⟨1, on, at_, Bs, raw, F⟩ bo bc fo fc).toArray 35 (0, 0)) := mB2.kept.at RA.out (by
                    rintro (e | e)
                    · exact HA.out.1.dev.disk.disk.other_off RA.out (by decide) (by decide) (by decide) e
                    · have e : BA = b := e
                      have h2 := HA.out.1.dev.dev.head
                      rw [← e, RA.out] at h2
                      simp at h2)
                  have u2 : wB2.cell? ⟨BA, 2, none⟩ = some (.int .i64 at_) := cell_row rB2 2
                  clear dB2 mB2 eB2 lB2 gv eB3 e2 hlen rB2 t1
                  go_wp2_with fail
                  have harm := arm_any DB3.out.1.dev.dev at_ SA.out.hi
                  rw [hsD.out.2.2.1, hsD.out.2.2.2.1] at harm
                  refine harm.mono ?_
                  clear harm
                  rintro e wD ⟨rfl, dD, gD⟩
                  have DD := hide (DB3.out.1.step (DB3.out.1.dev.dset gD dD) (DvM.row gD))
                  clear dD gD u0 u2
                  go_wp2
                  go_roundg (gk - 1)
                  case measure => omega
                  case rel => exact ⟨j3 + 1, by omega, by go_num, hide ⟨kB2, WB2, DD.out, DB3.out.2⟩⟩
                · have gA := World.grownBy_alloc wr (.cells #[.int .i64 2, .int .i64 on, .int .i64 at_, .slice bo Bs.length bc, .bool raw, .slice fo F.length fc] 35) none
                  have rA : (wr.alloc (.cells #[.int .i64 2, .int .i64 on, .int .i64 at_, .slice bo Bs.length bc, .bool raw, .slice fo F.length fc] 35)).heap[wr.heap.size]? = some (.cells (scells ⟨2, on, at_, Bs, raw, F⟩ bo bc fo fc).toArray 35 (0, 0)) := heap_alloc_new wr _
                  have t1 := gA.cell t0 (by simp)
                  have HA := hide (And.intro (HP.out.1.grown gA) HP.out.2)
                  have HCS : Hid (sD.cnt < 100000) := by have := HC9.out; have := hso.out.2.1; have := HCN.out; show _ < _; omega
                  have SA : Hid (SIn (wr.alloc (.cells #[.int .i64 2, .int .i64 on, .int .i64 at_, .slice bo Bs.length bc, .bool raw, .slice fo F.length fc] 35)) ⟨2, on, at_, Bs, raw, F⟩ bo bc fo fc) := ⟨SI.out.bin.grown gA, SI.out.fin.grown gA, SI.out.hi⟩
                  have RA := hide rA
                  clear gA rA
                  go_wp2_with fail
                  generalize wr.alloc (.cells #[.int .i64 2, .int .i64 on, .int .i64 at_, .slice bo Bs.length bc, .bool raw, .slice fo F.length fc] 35) = wA2 at *
                  generalize wr.heap.size = BA at *
                  clear c0 c1 c2 c3 c4 c5 t0
                  have hask := asks_read HA.out.1.dev HCS.out on at_ Bs raw F bo bc fo fc
                  refine hask.mono ?_
                  clear hask
                  rintro e wB2 ⟨v, rfl, gv, kB2, DB2, WB2, dB2, mB2, eB2, lB2⟩
                  rw [hsD.out.1] at gv eB2
                  rw [hsD.out.2.1] at dB2
                  rw [hsD.out.2.2.2.2]
                  have eB3 : (DB2, abs WB2) = (p.D, abs W3) := eB2
                  obtain ⟨e1, e2⟩ := Prod.mk.inj eB3
                  subst e1
                  have hlen : WB2.length = W3.length := by have := congrArg List.length e2; simpa [abs] using this
                  have hv : v = .slice none 0 0 := by
                    rcases gv with ⟨hv, _⟩ | ⟨g, _, _, _, h4⟩
                    · exact hv
                    · have := HSH.out.s0; simp at h4; omega
                  subst hv
                  have DB3 := hide (And.intro (HA.out.1.step dB2 mB2) (hlen.trans HA.out.2))
                  have u0 : wB2.cell? ⟨T, 0, none⟩ = some (.pointer (some ⟨b, 0, none⟩)) := cell_row DB3.out.1.tw 0
                  have rB2 : wB2.heap[BA]? = some (.cells (scells ⟨2, on, at_, Bs, raw, F⟩ bo bc fo fc).toArray 35 (0, 0)) := mB2.kept.at RA.out (by
                    rintro (e | e)
                    · exact HA.out.1.dev.disk.disk.other_off RA.out (by decide) (by decide) (by decide) e
                    · have e : BA = b := e
                      have h2 := HA.out.1.dev.dev.head
                      rw [← e, RA.out] at h2
                      simp at h2)
                  have u2 : wB2.cell? ⟨BA, 2, none⟩ = some (.int .i64 at_) := cell_row rB2 2
                  clear dB2 mB2 eB2 lB2 gv eB3 e2 hlen rB2 t1
                  go_wp2_with fail
                  have harm := arm_any DB3.out.1.dev.dev at_ SA.out.hi
                  rw [hsD.out.2.2.1, hsD.out.2.2.2.1] at harm
                  refine harm.mono ?_
                  clear harm
                  rintro e wD ⟨rfl, dD, gD⟩
                  have DD := hide (DB3.out.1.step (DB3.out.1.dev.dset gD dD) (DvM.row gD))
                  clear dD gD u0 u2
                  go_wp2
                  go_roundg (gk - 1)
                  case measure => omega
                  case rel => exact ⟨j3 + 1, by omega, by go_num, hide ⟨kB2, WB2, DD.out, DB3.out.2⟩⟩
                · have hb1 : (kd != 1) = true := by simpa using hk1
                  have hb2 : (kd != 2) = true := by simpa using hk2
                  have gA := World.grownBy_alloc wr (.cells #[.int .i64 3, .int .i64 on, .int .i64 at_, .slice bo Bs.length bc, .bool raw, .slice fo F.length fc] 35) none
                  have rA : (wr.alloc (.cells #[.int .i64 3, .int .i64 on, .int .i64 at_, .slice bo Bs.length bc, .bool raw, .slice fo F.length fc] 35)).heap[wr.heap.size]? = some (.cells (scells ⟨3, on, at_, Bs, raw, F⟩ bo bc fo fc).toArray 35 (0, 0)) := heap_alloc_new wr _
                  have t1 := gA.cell t0 (by simp)
                  have HA := hide (And.intro (HP.out.1.grown gA) HP.out.2)
                  have HCS : Hid (sD.cnt < 100000) := by have := HC9.out; have := hso.out.2.1; have := HCN.out; show _ < _; omega
                  have SA : Hid (SIn (wr.alloc (.cells #[.int .i64 3, .int .i64 on, .int .i64 at_, .slice bo Bs.length bc, .bool raw, .slice fo F.length fc] 35)) ⟨3, on, at_, Bs, raw, F⟩ bo bc fo fc) := ⟨SI.out.bin.grown gA, SI.out.fin.grown gA, SI.out.hi⟩
                  have RA := hide rA
                  clear gA rA
                  go_wp2_with fail
                  generalize wr.alloc (.cells #[.int .i64 3, .int .i64 on, .int .i64 at_, .slice bo Bs.length bc, .bool raw, .slice fo F.length fc] 35) = wA2 at *
                  generalize wr.heap.size = BA at *
                  clear c0 c1 c2 c3 c4 c5 t0
                  have hask := asks_sync HA.out.1.dev HCS.out on at_ Bs raw F bo bc fo fc
                  refine hask.mono ?_
                  clear hask
                  rintro e wB2 ⟨v, rfl, gv, kB2, DB2, WB2, dB2, mB2, eB2, lB2⟩
                  rw [hsD.out.1] at gv eB2
                  rw [hsD.out.2.1] at dB2
                  rw [hsD.out.2.2.2.2]
                  have eB3 : (DB2, abs WB2) = (p.D, abs W3) := eB2
                  obtain ⟨e1, e2⟩ := Prod.mk.inj eB3
                  subst e1
                  have hlen : WB2.length = W3.length := by have := congrArg List.length e2; simpa [abs] using this
                  have hv : v = .slice none 0 0 := by
                    rcases gv with ⟨hv, _⟩ | ⟨g, _, _, _, h4⟩
                    · exact hv
                    · have := HSH.out.s0; simp at h4; omega
                  subst hv
                  have DB3 := hide (And.intro (HA.out.1.step dB2 mB2) (hlen.trans HA.out.2))
                  have u0 : wB2.cell? ⟨T, 0, none⟩ = some (.pointer (some ⟨b, 0, none⟩)) := cell_row DB3.out.1.tw 0
                  have rB2 : wB2.heap[BA]? = some (.cells (scells ⟨3, on, at_, Bs, raw, F⟩ bo bc fo fc).toArray 35 (0, 0)) := mB2.kept.at RA.out (by
                    rintro (e | e)
                    · exact HA.out.1.dev.disk.disk.other_off RA.out (by decide) (by decide) (by decide) e
                    · have e : BA = b := e
                      have h2 := HA.out.1.dev.dev.head
                      rw [← e, RA.out] at h2
                      simp at h2)
                  have u2 : wB2.cell? ⟨BA, 2, none⟩ = some (.int .i64 at_) := cell_row rB2 2
                  clear dB2 mB2 eB2 lB2 gv eB3 e2 hlen rB2 t1
                  go_wp2_with fail
                  have harm := arm_any DB3.out.1.dev.dev at_ SA.out.hi
                  rw [hsD.out.2.2.1, hsD.out.2.2.2.1] at harm
                  refine harm.mono ?_
                  clear harm
                  rintro e wD ⟨rfl, dD, gD⟩
                  have DD := hide (DB3.out.1.step (DB3.out.1.dev.dset gD dD) (DvM.row gD))
                  clear dD gD u0 u2
                  go_wp2
                  go_roundg (gk - 1)
                  case measure => omega
                  case rel => exact ⟨j3 + 1, by omega, by go_num, hide ⟨kB2, WB2, DD.out, DB3.out.2⟩⟩
              · have hj3 : j3 = j2 := by omega
                subst hj3
                have hjm3 : ¬ (j3 : Int) < (j3 : Int) := by omega
                obtain ⟨k3, W3, i1, i2⟩ := HR.out
                have t0 : wr.cell? ⟨T, 0, none⟩ = some (.pointer (some ⟨b, 0, none⟩)) := cell_row i1.tw 0
                have HP := hide (And.intro i1 i2)
                clear i1 i2 HR
                go_wp2_with fail
                have hdn := down_any HP.out.1.dev.dev
                rw [hso.out.1] at hdn
                refine hdn.mono ?_
                rintro e wE ⟨rfl, rfl⟩
                clear hdn
                go_wp2_with fail
                refine (dimage_any HP.out.1.dev).mono ?_
                rintro e wF ⟨rfl, hs3, iF, gF⟩
                have DF := hide (HP.out.1.grown gF)
                have IF := hide iF
                have t1 := gF.cell t0 (by simp)
                clear iF gF t0
                go_wp2_with fail
                refine (sameRows_eq _ (some ⟨gI, 0, none⟩) NN NN NN (secs NN SZ p.D) wF (secs_length _ _ _) (IF.out.rowsAt HSH.out.s1) (DF.out.img.rowsAt HSH.out.s1) (by omega)).mono ?_
                rintro e wG ⟨rfl, qG, rfl⟩
                have DG := hide (DF.out.grown (grown_drewN _ qG none))
                have t2 := (grown_drewN wF qG none).cell t1 (by simp)
                generalize wF.drewN qG = wG at *
                clear t1 IF DF
                go_wp2_with fail
                have hwt := dwaiting_any DG.out.dev
                rw [HP.out.2] at hwt
                refine hwt.mono ?_
                rintro e wH ⟨rfl, rfl⟩
                clear hwt
                go_wp2_with fail
                have hcn := count_any DG.out.dev.dev
                rw [hso.out.2.1] at hcn
                refine hcn.mono ?_
                rintro e wH ⟨rfl, rfl⟩
                clear hcn
                go_wp2
                go_ret
                exact ⟨rfl, DG.out.dev.disk.grown⟩
end Go.Proofs.YtaopcidkgcekdaaGreat
