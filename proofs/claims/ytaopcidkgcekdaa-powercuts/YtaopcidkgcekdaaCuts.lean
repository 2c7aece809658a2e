/- The contract of PowerCuts. -/
import Derived.Test.YtaopcidkgcekdaaCut
import Derived.Deep.QuietTactic
import Derived.BigQuiet
namespace Go.Proofs.Ytaopcidkgcekdaa
open Go.RowKit Ap
attribute [local go_sem ↓] Go.wp_at_zero Go.wp_at_succ

theorem may_small (N SZ : Nat) (h1 : 1 ≤ N) (h2 : N ≤ 8) (h3 : SZ = 64 ∨ SZ = 128) : mayB (N : Int) (SZ : Int) = true := by
  rw [mayB_iff]
  rcases h3 with rfl | rfl
  · exact ⟨by omega, by omega, by omega, by omega, by decide, by omega⟩
  · exact ⟨by omega, by omega, by omega, by omega, by decide, by omega⟩
theorem wrap_one (xx : Int) (h1 : 0 ≤ xx) (h2 : xx < 8) : ∃ N : Nat, IntKind.i64.wrap (1 + xx) = (N : Int) ∧ 1 ≤ N ∧ N ≤ 8 := by
  refine ⟨(1 + xx).toNat, ?_, by omega, by omega⟩
  simp [IntKind.wrap, IntKind.bits, IntKind.signed]; omega
theorem wrap_size (zz : Int) (h1 : 0 ≤ zz) (h2 : zz < 2) : ∃ S : Nat, IntKind.i64.wrap (64 * 2 ^ zz.toNat) = (S : Int) ∧ (S = 64 ∨ S = 128) := by
  have : zz = 0 ∨ zz = 1 := by omega
  rcases this with rfl | rfl
  · exact ⟨64, by decide, .inl rfl⟩
  · exact ⟨128, by decide, .inr rfl⟩
theorem gives_same {w w1 w' : World} {size : Nat} {v u : Value} {xs : List Nat} (h0 : 0 < size) (h1 : size ≤ 4096) (hv : Gives w w' size v xs) (hu : Gives w1 w' size u xs) : Calls Try.prog 15 #[v, u] w' fun e w'' => e = .returned (.bool true) ∧ ∃ q, w'' = w'.drewN q := by
  rcases hv with ⟨rfl, rfl⟩ | ⟨g, rfl, _, h3, h4⟩
  · rcases hu with ⟨rfl, _⟩ | ⟨g, rfl, _, _, h4⟩
    · exact sameBytes_eq none none 0 0 0 [] w' rfl (At.nil _ _) (At.nil _ _) (by omega)
    · simp at h4; omega
  · rcases hu with ⟨rfl, rfl⟩ | ⟨g', rfl, _, h5, h6⟩
    · simp at h4; omega
    · exact sameBytes_eq _ _ size size size xs w' h4 (at_row h3) (at_row h5) (by omega)
theorem gives_none {w w' : World} {size : Nat} {v : Value} (h0 : 0 < size) (hv : Gives w w' size v []) : v = .slice none 0 0 := by
  rcases hv with ⟨rfl, _⟩ | ⟨g, rfl, _, _, h4⟩
  · rfl
  · simp at h4; omega
theorem gives_form {w w' : World} {size : Nat} {v : Value} {xs : List Nat} (hv : Gives w w' size v xs) : ∃ ao l c, v = .slice ao l c := by
  rcases hv with ⟨rfl, _⟩ | ⟨g, rfl, _, _, _⟩
  · exact ⟨_, _, _, rfl⟩
  · exact ⟨_, _, _, rfl⟩
theorem opBytes_abs {n size : Nat} {D : List Nat} {V U : List Wt} (h : abs V = abs U) (o : Stp) : opBytes n size D V o = opBytes n size D U o := by
  unfold opBytes rbytes
  rw [found_abs h]
theorem Gives.kept {w w1 w2 : World} {size : Nat} {v : Value} {xs : List Nat} {S : Nat → Prop} (h : Gives w w1 size v xs) (hk : Kept w1 w2 S) (hS : ∀ i, w.heap.size ≤ i → i < w1.heap.size → ¬ S i) : Gives w w2 size v xs := by
  rcases h with h | ⟨g, h1, h2, h3, h4⟩
  · exact Or.inl h
  · exact Or.inr ⟨g, h1, h2, hk.at h3 (hS g h2 (row_lt h3)), h4⟩
set_option maxRecDepth 20000 in
set_option maxHeartbeats 8000000 in
theorem cuts_any (x z n : Int) (ao : Option Addr) (m cap : Nat) (os : List Stp) (fo : Option Addr) (fc : Nat) (F : List (Int × Int)) (w : World) (hm : os.length = m) (hc : m ≤ cap) (ho : StsAt w ao os) (hn : n ≤ 9223372036854775807) (hF : FIn w fo fc F) :
    Calls Try.prog 4 #[.int .i64 x, .int .i64 z, .slice ao m cap, .int .i64 n, .slice fo F.length fc] w fun e w' => e = .returned (.bool true) ∧ w.grownBy w' none := by
  have HI := hide (And.intro hm (And.intro hc (And.intro ho hF)))
  clear hm hc ho hF
  have HP : Hid (∀ w, Calls Try.prog 8 #[.int .i64 x, .int .i64 8] w fun e w' => e = .returned (.int .i64 (x % 8)) ∧ w' = w) := fun w => pick_any x 8 8 w rfl (by omega) (by omega)
  have HQ : Hid (∀ w, Calls Try.prog 8 #[.int .i64 z, .int .i64 2] w fun e w' => e = .returned (.int .i64 (z % 2)) ∧ w' = w) := fun w => pick_any z 2 2 w rfl (by omega) (by omega)
  have p1 : 0 ≤ x % 8 := by omega
  have p2 : x % 8 < 8 := by omega
  have p3 : 0 ≤ z % 2 := by omega
  have p4 : z % 2 < 2 := by omega
  generalize x % 8 = xx at *
  generalize z % 2 = zz at *
  go_enter Try.func4, Try.ntmps4
  go_wp2_with fail
  refine (awake_any _).mono ?_
  rintro e w1 ⟨rfl, g1⟩
  have G1 := hide g1
  clear g1
  go_wp2_with fail
  go_region_held3 (fun _ => True) (first | exact trivial | assumption) (first
    | (go_at_call_of 8 (Value.int IntKind.i64 x); refine (HP.out _).mono ?_; rintro e w' ⟨rfl, rfl⟩)
    | (go_at_call_of 8 (Value.int IntKind.i64 z); refine (HQ.out _).mono ?_; rintro e w' ⟨rfl, rfl⟩))
  obtain ⟨N, hN, N1, N2⟩ := wrap_one xx p1 p2
  obtain ⟨SZ, hSZ, S1⟩ := wrap_size zz p3 p4
  rw [hN, hSZ]
  have MB := hide (may_small N SZ N1 N2 S1)
  have G2 := hide (grown_trans G1.out (grown_drew w1 none))
  generalize w1.drew = w2 at *
  clear hN hSZ p1 p2 p3 p4 HP HQ G1 S1
  go_wp2_with fail
  refine (newS N SZ w w2 G2.out MB.out).mono ?_
  rintro e w3 ⟨ku, rfl, u3, g3, l3⟩
  have U3 := hide (And.intro u3 (And.intro g3 l3))
  clear u3 g3 l3
  go_wp2_with fail
  refine (newS N SZ w w3 U3.out.1.grown MB.out).mono ?_
  rintro e w4 ⟨kv, rfl, v4, g4, l4⟩
  have V4 := hide (And.intro v4 (And.intro (U3.out.1.then g4) l4))
  clear v4 g4 l4
  have SP : Hid (Sep kv [] ku []) := by
    have hl : ∀ i, foot ku [] i → i < w3.heap.size := U3.out.1.disk.lt
    refine ⟨fun i hi hf => ?_, fun i hi hf => ?_⟩
    · have := V4.out.2.2 i hi; have := hl i hf; omega
    · rcases hf with hf | ⟨y, hy, _⟩
      · have := V4.out.2.2 i hf; have := hl i (.inl hi); omega
      · cases hy
  go_wp2_with fail
  refine (dnew_any rfl V4.out.1).mono ?_
  rintro e w5 ⟨b, rfl, d5, l5, g5⟩
  obtain ⟨d, hd⟩ : ∃ d, d = ku.d := ⟨_, rfl⟩
  rw [← hd]
  have C5 : Hid (Cut w w5 N SZ b d Dv.anew kv ku (zs (N * SZ)) [] []) := ⟨d5, V4.out.2.1.then g5, hd.symm, rfl, SP.out⟩
  clear d5 l5 g5 hd SP V4 U3
  go_wp2_with fail
  refine (arm_any C5.out.dev.dev n hn).mono ?_
  rintro e w6 ⟨rfl, d6, g6⟩
  rw [show Dv.anew.upc = 0 from rfl]
  rw [devSt_zero] at d6
  have C6 : Hid (Cut w w6 N SZ b d (devSt n 0) kv ku (zs (N * SZ)) [] []) := C5.out.refused (C5.out.dev.dset g6 d6) (DvM.row g6) rfl
  clear d6 g6 C5
  go_wp2_with fail
  refine (few_any ao m cap os w6 HI.out.1 HI.out.2.1 (HI.out.2.2.1.grown C6.out.u.grown)).mono ?_
  rintro e w7 ⟨m', rfl, hm', -, hl', e7⟩
  subst e7
  -- LOOP
  have HQS : Hid (StsAt w ao (os.take 80)) := fun j o hj => by
    rw [List.getElem?_take] at hj
    split at hj
    · exact HI.out.2.2.1 j o hj
    · cases hj
  have HL := hide hl'
  have HF := hide HI.out.2.2.2
  have S0 : Hid (64 ≤ SZ ∧ SZ ≤ 4096) := ⟨C6.out.u.disk.shape.s0, C6.out.u.disk.shape.s1⟩
  clear hl' HI
  generalize os.take 80 = qs at *
  generalize kv.d = dv0 at *
  go_wp2
  go_loopg [17, 18] m' (fun q dn i wr => ∃ j : Nat, q + j = m' ∧ dn = .int .i64 (cutDn n j : Int) ∧ i = .int .i64 (j : Int) ∧ Hid (∃ kv ku D V U, Cut w wr N SZ b d (devSt n j) kv ku D V U ∧ V.length ≤ j ∧ U.length ≤ j))
  case atStart => exact ⟨0, by omega, by simp [cutDn], rfl, hide ⟨_, _, _, _, _, C6.out, by simp, by simp⟩⟩
  case round =>
    clear C6
    obtain ⟨j, hkj, rfl, rfl, HR⟩ := hrel
    by_cases hk : 0 < gk
    · have hjm : (j : Int) < (m' : Int) := by omega
      have hj0 : (0 : Int) ≤ (j : Int) := by omega
      obtain ⟨o, hoj⟩ : ∃ o, qs[j]? = some o := ⟨_, List.getElem?_eq_getElem (by have := HL.out; omega)⟩
      obtain ⟨kv1, ku1, D1, V1, U1, C1, lv1, lu1⟩ := HR.out
      obtain ⟨bb, off, bo, bc, fo2, fc2, hao, hst⟩ := HQS.out j o hoj
      subst hao
      have hstr := hst.grown C1.u.grown
      have c0 := hstr.c0
      have c1 := hstr.c1
      have c2 := hstr.c2
      have c3 := hstr.c3
      have c4 := hstr.c4
      have c5 := hstr.c5
      have SI := hide hstr.sin
      have hst00 := hide hst.sin
      have CC := hide C1
      clear hstr hst C1 hoj HR
      obtain ⟨kd, on, at_, Bs, raw, F2⟩ := o
      simp only at c0 c1 c2 c3 c4 c5
      generalize hdn : cutDn n j = dn at *
      have hd80 : dn ≤ 80 := by have := cutDn_le n j; omega
      have hDN := hide hdn
      have lvv : V1.length ≤ 1000 ∧ U1.length ≤ 1000 := by omega
      have LV := hide (And.intro lv1 lu1)
      clear hdn lv1 lu1
      have hst0 : Hid (SIn w ⟨kd, on, at_, Bs, raw, F2⟩ bo bc fo2 fc2) := hst00.out
      rcases (show kd = 1 ∨ kd = 2 ∨ (kd ≠ 1 ∧ kd ≠ 2) by omega) with rfl | rfl | ⟨hk1, hk2⟩
      · by_cases hn0 : 0 ≤ n
        · by_cases hnj : n ≤ (dn : Int)
          · have gA := World.grownBy_alloc wr (.cells #[.int .i64 1, .int .i64 on, .int .i64 at_, .slice bo Bs.length bc, .bool raw, .slice fo2 F2.length fc2] 45) none
            go_wp2_with fail
            have CA := hide (CC.out.then gA)
            have SA : Hid (SIn (wr.alloc (.cells #[.int .i64 1, .int .i64 on, .int .i64 at_, .slice bo Bs.length bc, .bool raw, .slice fo2 F2.length fc2] 45)) ⟨1, on, at_, Bs, raw, F2⟩ bo bc fo2 fc2) := ⟨SI.out.bin.grown gA, SI.out.fin.grown gA, SI.out.hi⟩
            have RA : Hid ((wr.alloc (.cells #[.int .i64 1, .int .i64 on, .int .i64 at_, .slice bo Bs.length bc, .bool raw, .slice fo2 F2.length fc2] 45)).heap[wr.heap.size]? = some (.cells (scells ⟨1, on, at_, Bs, raw, F2⟩ bo bc fo2 fc2).toArray 45 (0, 0))) := heap_alloc_new wr _
            clear gA c0 c1 c2 c3 c4 c5
            generalize wr.alloc (.cells #[.int .i64 1, .int .i64 on, .int .i64 at_, .slice bo Bs.length bc, .bool raw, .slice fo2 F2.length fc2] 45) = wA at *
            generalize wr.heap.size = A at *
            refine (asks_any CA.out.dev lvv.1 (by rw [devSt_cnt]; have := cutDn_le n j; omega) ⟨1, on, at_, Bs, raw, F2⟩ (.inl rfl) bo bc fo2 fc2 SA.out).mono ?_
            rintro e wB ⟨v, rfl, gv, kB, DB, VB, dB, mB, eB, lB⟩
            rw [devSt_next] at dB
            have hg : (devSt n j).goes = false := by rw [devSt_goes, hDN.out]; simp [hn0, hnj]
            rw [hg] at gv eB
            rw [Dv.code, hg]
            have CB := hide (CA.out.refused dB mB eB)
            have hv := gives_none (by have := S0.out; omega) gv
            subst hv
            have LB : Hid (VB.length ≤ j + 1) := by have := LV.out.1; show _ ≤ _; omega
            have OF : Hid ((devSt n (j + 1)).off = true) := by show _ = _; rw [devSt_off, hDN.out]; simp [hn0, hnj]
            clear dB mB eB lB gv hg
            go_wp2_with fail
            have hdo := down_any CB.out.dev.dev
            rw [OF.out] at hdo
            refine hdo.mono ?_
            rintro e wC ⟨rfl, rfl⟩
            clear hdo
            go_wp2
            go_roundg (gk - 1)
            case measure => omega
            case rel => exact ⟨j + 1, by omega, by rw [cutDn_refused hn0 (by rw [hDN.out]; exact hnj), hDN.out], by go_num, hide ⟨kB, ku1, DB, VB, U1, CB.out, LB.out, by have := LV.out.2; omega⟩⟩
          · have gA := World.grownBy_alloc wr (.cells #[.int .i64 1, .int .i64 on, .int .i64 at_, .slice bo Bs.length bc, .bool raw, .slice fo2 F2.length fc2] 45) none
            go_wp2_with fail
            have CA := hide (CC.out.then gA)
            have SA : Hid (SIn (wr.alloc (.cells #[.int .i64 1, .int .i64 on, .int .i64 at_, .slice bo Bs.length bc, .bool raw, .slice fo2 F2.length fc2] 45)) ⟨1, on, at_, Bs, raw, F2⟩ bo bc fo2 fc2) := ⟨SI.out.bin.grown gA, SI.out.fin.grown gA, SI.out.hi⟩
            have RA : Hid ((wr.alloc (.cells #[.int .i64 1, .int .i64 on, .int .i64 at_, .slice bo Bs.length bc, .bool raw, .slice fo2 F2.length fc2] 45)).heap[wr.heap.size]? = some (.cells (scells ⟨1, on, at_, Bs, raw, F2⟩ bo bc fo2 fc2).toArray 45 (0, 0))) := heap_alloc_new wr _
            clear gA c0 c1 c2 c3 c4 c5
            generalize wr.alloc (.cells #[.int .i64 1, .int .i64 on, .int .i64 at_, .slice bo Bs.length bc, .bool raw, .slice fo2 F2.length fc2] 45) = wA at *
            generalize wr.heap.size = A at *
            refine (asks_any CA.out.dev lvv.1 (by rw [devSt_cnt]; have := cutDn_le n j; omega) ⟨1, on, at_, Bs, raw, F2⟩ (.inl rfl) bo bc fo2 fc2 SA.out).mono ?_
            rintro e wB ⟨v, rfl, gv, kB, DB, VB, dB, mB, eB, lB⟩
            rw [devSt_next] at dB
            have hg : (devSt n j).goes = true := by rw [devSt_goes, hDN.out]; simp [hnj]
            rw [hg, if_pos rfl] at gv eB
            rw [Dv.code, hg, if_pos rfl]
            have LB : Hid (VB.length ≤ j + 1) := by have := LV.out.1; show _ ≤ _; omega
            have OF : Hid ((devSt n (j + 1)).off = false) := by show _ = _; rw [devSt_off, hDN.out]; simp; intro _; omega
            have UB := hide (CA.out.u_ask dB mB)
            have DB2 := hide (And.intro dB (And.intro mB eB))
            have GV := hide gv
            have nown : Hid (∀ i, wA.heap.size ≤ i → i < wB.heap.size → ¬ ku1.own i) := fun i h1 h2 e => by have := CA.out.u.disk.lt i (.inl e); omega
            have RB : Hid (wB.heap[A]? = some (.cells (scells ⟨1, on, at_, Bs, raw, F2⟩ bo bc fo2 fc2).toArray 45 (0, 0))) := mB.kept.at RA.out (by
              rintro (e | e)
              · exact CA.out.dev.disk.disk.other_off RA.out (by decide) (by decide) (by decide) e
              · have e : A = b := e
                have h2 := CA.out.dev.dev.head
                rw [← e, RA.out] at h2
                simp at h2)
            have SB : Hid (SIn wB ⟨1, on, at_, Bs, raw, F2⟩ bo bc fo2 fc2) := ⟨⟨hst0.out.bin.at_.grown (UB.out.grown), SA.out.bin.nil, SA.out.bin.size⟩, hst0.out.fin.grown UB.out.grown, SA.out.hi⟩
            have a0 : wB.cell? ⟨A, 0, none⟩ = some (.int .i64 1) := cell_row RB.out 0
            have a1 : wB.cell? ⟨A, 1, none⟩ = some (.int .i64 on) := cell_row RB.out 1
            have a2 : wB.cell? ⟨A, 2, none⟩ = some (.int .i64 at_) := cell_row RB.out 2
            have a3 : wB.cell? ⟨A, 3, none⟩ = some (.slice bo Bs.length bc) := cell_row RB.out 3
            have a4 : wB.cell? ⟨A, 4, none⟩ = some (.bool raw) := cell_row RB.out 4
            have a5 : wB.cell? ⟨A, 5, none⟩ = some (.slice fo2 F2.length fc2) := cell_row RB.out 5
            obtain ⟨va, vl, vc, hvf⟩ := gives_form gv
            subst hvf
            clear dB mB eB lB gv hg
            go_wp2_with fail
            refine (does_any CA.out.ud UB.out lvv.2 ⟨1, on, at_, Bs, raw, F2⟩ (.inl rfl) bo bc fo2 fc2 SB.out).mono ?_
            rintro e wC ⟨u, rfl, gu, kC, DC, UC, dC, mC, eC, lC⟩
            have CB := hide (CA.out.both DB2.out.1 DB2.out.2.1 dC mC (DB2.out.2.2.trans (by rw [eC, CA.out.same])))
            have LC : Hid (UC.length ≤ j + 1) := by have := LV.out.2; show _ ≤ _; omega
            have HSM := hide (gives_same (by have := S0.out; omega) S0.out.2 (GV.out.kept mC.kept nown.out) (by rw [← opBytes_abs CA.out.same] at gu; exact gu))
            obtain ⟨ua, ul, uc, huf⟩ := gives_form gu
            subst huf
            clear dC mC eC lC gu a0 a1 a2 a3 a4 a5
            generalize opCode N SZ ⟨1, on, at_, Bs, raw, F2⟩ = cc at *
            go_wp2_with fail
            refine HSM.out.mono ?_
            rintro e wD ⟨rfl, q, rfl⟩
            have CD := hide (CB.out.then (grown_drewN _ q none))
            generalize wC.drewN q = wD at *
            go_wp2_with fail
            have hdo := down_any CD.out.dev.dev
            rw [OF.out] at hdo
            refine hdo.mono ?_
            rintro e wE ⟨rfl, rfl⟩
            clear hdo
            go_wp2
            go_roundg (gk - 1)
            case measure => omega
            case rel => exact ⟨j + 1, by omega, by rw [cutDn_done (by rw [hDN.out]; omega), hDN.out]; go_num, by go_num, hide ⟨kB, kC, DB, VB, UC, CD.out, LB.out, LC.out⟩⟩
        · have gA := World.grownBy_alloc wr (.cells #[.int .i64 1, .int .i64 on, .int .i64 at_, .slice bo Bs.length bc, .bool raw, .slice fo2 F2.length fc2] 45) none
          go_wp2_with fail
          have CA := hide (CC.out.then gA)
          have SA : Hid (SIn (wr.alloc (.cells #[.int .i64 1, .int .i64 on, .int .i64 at_, .slice bo Bs.length bc, .bool raw, .slice fo2 F2.length fc2] 45)) ⟨1, on, at_, Bs, raw, F2⟩ bo bc fo2 fc2) := ⟨SI.out.bin.grown gA, SI.out.fin.grown gA, SI.out.hi⟩
          have RA : Hid ((wr.alloc (.cells #[.int .i64 1, .int .i64 on, .int .i64 at_, .slice bo Bs.length bc, .bool raw, .slice fo2 F2.length fc2] 45)).heap[wr.heap.size]? = some (.cells (scells ⟨1, on, at_, Bs, raw, F2⟩ bo bc fo2 fc2).toArray 45 (0, 0))) := heap_alloc_new wr _
          clear gA c0 c1 c2 c3 c4 c5
          generalize wr.alloc (.cells #[.int .i64 1, .int .i64 on, .int .i64 at_, .slice bo Bs.length bc, .bool raw, .slice fo2 F2.length fc2] 45) = wA at *
          generalize wr.heap.size = A at *
          refine (asks_any CA.out.dev lvv.1 (by rw [devSt_cnt]; have := cutDn_le n j; omega) ⟨1, on, at_, Bs, raw, F2⟩ (.inl rfl) bo bc fo2 fc2 SA.out).mono ?_
          rintro e wB ⟨v, rfl, gv, kB, DB, VB, dB, mB, eB, lB⟩
          rw [devSt_next] at dB
          have hg : (devSt n j).goes = true := by rw [devSt_goes, hDN.out]; simp [hn0]
          rw [hg, if_pos rfl] at gv eB
          rw [Dv.code, hg, if_pos rfl]
          have LB : Hid (VB.length ≤ j + 1) := by have := LV.out.1; show _ ≤ _; omega
          have OF : Hid ((devSt n (j + 1)).off = false) := by show _ = _; rw [devSt_off, hDN.out]; simp; intro _; omega
          have UB := hide (CA.out.u_ask dB mB)
          have DB2 := hide (And.intro dB (And.intro mB eB))
          have GV := hide gv
          have nown : Hid (∀ i, wA.heap.size ≤ i → i < wB.heap.size → ¬ ku1.own i) := fun i h1 h2 e => by have := CA.out.u.disk.lt i (.inl e); omega
          have RB : Hid (wB.heap[A]? = some (.cells (scells ⟨1, on, at_, Bs, raw, F2⟩ bo bc fo2 fc2).toArray 45 (0, 0))) := mB.kept.at RA.out (by
            rintro (e | e)
            · exact CA.out.dev.disk.disk.other_off RA.out (by decide) (by decide) (by decide) e
            · have e : A = b := e
              have h2 := CA.out.dev.dev.head
              rw [← e, RA.out] at h2
              simp at h2)
          have SB : Hid (SIn wB ⟨1, on, at_, Bs, raw, F2⟩ bo bc fo2 fc2) := ⟨⟨hst0.out.bin.at_.grown (UB.out.grown), SA.out.bin.nil, SA.out.bin.size⟩, hst0.out.fin.grown UB.out.grown, SA.out.hi⟩
          have a0 : wB.cell? ⟨A, 0, none⟩ = some (.int .i64 1) := cell_row RB.out 0
          have a1 : wB.cell? ⟨A, 1, none⟩ = some (.int .i64 on) := cell_row RB.out 1
          have a2 : wB.cell? ⟨A, 2, none⟩ = some (.int .i64 at_) := cell_row RB.out 2
          have a3 : wB.cell? ⟨A, 3, none⟩ = some (.slice bo Bs.length bc) := cell_row RB.out 3
          have a4 : wB.cell? ⟨A, 4, none⟩ = some (.bool raw) := cell_row RB.out 4
          have a5 : wB.cell? ⟨A, 5, none⟩ = some (.slice fo2 F2.length fc2) := cell_row RB.out 5
          obtain ⟨va, vl, vc, hvf⟩ := gives_form gv
          subst hvf
          clear dB mB eB lB gv hg
          go_wp2_with fail
          refine (does_any CA.out.ud UB.out lvv.2 ⟨1, on, at_, Bs, raw, F2⟩ (.inl rfl) bo bc fo2 fc2 SB.out).mono ?_
          rintro e wC ⟨u, rfl, gu, kC, DC, UC, dC, mC, eC, lC⟩
          have CB := hide (CA.out.both DB2.out.1 DB2.out.2.1 dC mC (DB2.out.2.2.trans (by rw [eC, CA.out.same])))
          have LC : Hid (UC.length ≤ j + 1) := by have := LV.out.2; show _ ≤ _; omega
          have HSM := hide (gives_same (by have := S0.out; omega) S0.out.2 (GV.out.kept mC.kept nown.out) (by rw [← opBytes_abs CA.out.same] at gu; exact gu))
          obtain ⟨ua, ul, uc, huf⟩ := gives_form gu
          subst huf
          clear dC mC eC lC gu a0 a1 a2 a3 a4 a5
          generalize opCode N SZ ⟨1, on, at_, Bs, raw, F2⟩ = cc at *
          go_wp2_with fail
          refine HSM.out.mono ?_
          rintro e wD ⟨rfl, q, rfl⟩
          have CD := hide (CB.out.then (grown_drewN _ q none))
          generalize wC.drewN q = wD at *
          go_wp2_with fail
          have hdo := down_any CD.out.dev.dev
          rw [OF.out] at hdo
          refine hdo.mono ?_
          rintro e wE ⟨rfl, rfl⟩
          clear hdo
          go_wp2
          go_roundg (gk - 1)
          case measure => omega
          case rel => exact ⟨j + 1, by omega, by rw [cutDn_done (by rw [hDN.out]; omega), hDN.out]; go_num, by go_num, hide ⟨kB, kC, DB, VB, UC, CD.out, LB.out, LC.out⟩⟩
      · by_cases hn0 : 0 ≤ n
        · by_cases hnj : n ≤ (dn : Int)
          · have gA := World.grownBy_alloc wr (.cells #[.int .i64 2, .int .i64 on, .int .i64 at_, .slice bo Bs.length bc, .bool raw, .slice fo2 F2.length fc2] 45) none
            go_wp2_with fail
            have CA := hide (CC.out.then gA)
            have SA : Hid (SIn (wr.alloc (.cells #[.int .i64 2, .int .i64 on, .int .i64 at_, .slice bo Bs.length bc, .bool raw, .slice fo2 F2.length fc2] 45)) ⟨2, on, at_, Bs, raw, F2⟩ bo bc fo2 fc2) := ⟨SI.out.bin.grown gA, SI.out.fin.grown gA, SI.out.hi⟩
            have RA : Hid ((wr.alloc (.cells #[.int .i64 2, .int .i64 on, .int .i64 at_, .slice bo Bs.length bc, .bool raw, .slice fo2 F2.length fc2] 45)).heap[wr.heap.size]? = some (.cells (scells ⟨2, on, at_, Bs, raw, F2⟩ bo bc fo2 fc2).toArray 45 (0, 0))) := heap_alloc_new wr _
            clear gA c0 c1 c2 c3 c4 c5
            generalize wr.alloc (.cells #[.int .i64 2, .int .i64 on, .int .i64 at_, .slice bo Bs.length bc, .bool raw, .slice fo2 F2.length fc2] 45) = wA at *
            generalize wr.heap.size = A at *
            refine (asks_any CA.out.dev lvv.1 (by rw [devSt_cnt]; have := cutDn_le n j; omega) ⟨2, on, at_, Bs, raw, F2⟩ (.inr (.inl rfl)) bo bc fo2 fc2 SA.out).mono ?_
            rintro e wB ⟨v, rfl, gv, kB, DB, VB, dB, mB, eB, lB⟩
            rw [devSt_next] at dB
            have hg : (devSt n j).goes = false := by rw [devSt_goes, hDN.out]; simp [hn0, hnj]
            rw [hg] at gv eB
            rw [Dv.code, hg]
            have CB := hide (CA.out.refused dB mB eB)
            have hv := gives_none (by have := S0.out; omega) gv
            subst hv
            have LB : Hid (VB.length ≤ j + 1) := by have := LV.out.1; show _ ≤ _; omega
            have OF : Hid ((devSt n (j + 1)).off = true) := by show _ = _; rw [devSt_off, hDN.out]; simp [hn0, hnj]
            clear dB mB eB lB gv hg
            go_wp2_with fail
            have hdo := down_any CB.out.dev.dev
            rw [OF.out] at hdo
            refine hdo.mono ?_
            rintro e wC ⟨rfl, rfl⟩
            clear hdo
            go_wp2
            go_roundg (gk - 1)
            case measure => omega
            case rel => exact ⟨j + 1, by omega, by rw [cutDn_refused hn0 (by rw [hDN.out]; exact hnj), hDN.out], by go_num, hide ⟨kB, ku1, DB, VB, U1, CB.out, LB.out, by have := LV.out.2; omega⟩⟩
          · have gA := World.grownBy_alloc wr (.cells #[.int .i64 2, .int .i64 on, .int .i64 at_, .slice bo Bs.length bc, .bool raw, .slice fo2 F2.length fc2] 45) none
            go_wp2_with fail
            have CA := hide (CC.out.then gA)
            have SA : Hid (SIn (wr.alloc (.cells #[.int .i64 2, .int .i64 on, .int .i64 at_, .slice bo Bs.length bc, .bool raw, .slice fo2 F2.length fc2] 45)) ⟨2, on, at_, Bs, raw, F2⟩ bo bc fo2 fc2) := ⟨SI.out.bin.grown gA, SI.out.fin.grown gA, SI.out.hi⟩
            have RA : Hid ((wr.alloc (.cells #[.int .i64 2, .int .i64 on, .int .i64 at_, .slice bo Bs.length bc, .bool raw, .slice fo2 F2.length fc2] 45)).heap[wr.heap.size]? = some (.cells (scells ⟨2, on, at_, Bs, raw, F2⟩ bo bc fo2 fc2).toArray 45 (0, 0))) := heap_alloc_new wr _
            clear gA c0 c1 c2 c3 c4 c5
            generalize wr.alloc (.cells #[.int .i64 2, .int .i64 on, .int .i64 at_, .slice bo Bs.length bc, .bool raw, .slice fo2 F2.length fc2] 45) = wA at *
            generalize wr.heap.size = A at *
            refine (asks_any CA.out.dev lvv.1 (by rw [devSt_cnt]; have := cutDn_le n j; omega) ⟨2, on, at_, Bs, raw, F2⟩ (.inr (.inl rfl)) bo bc fo2 fc2 SA.out).mono ?_
            rintro e wB ⟨v, rfl, gv, kB, DB, VB, dB, mB, eB, lB⟩
            rw [devSt_next] at dB
            have hg : (devSt n j).goes = true := by rw [devSt_goes, hDN.out]; simp [hnj]
            rw [hg, if_pos rfl] at gv eB
            rw [Dv.code, hg, if_pos rfl]
            have LB : Hid (VB.length ≤ j + 1) := by have := LV.out.1; show _ ≤ _; omega
            have OF : Hid ((devSt n (j + 1)).off = false) := by show _ = _; rw [devSt_off, hDN.out]; simp; intro _; omega
            have UB := hide (CA.out.u_ask dB mB)
            have DB2 := hide (And.intro dB (And.intro mB eB))
            have GV := hide gv
            have nown : Hid (∀ i, wA.heap.size ≤ i → i < wB.heap.size → ¬ ku1.own i) := fun i h1 h2 e => by have := CA.out.u.disk.lt i (.inl e); omega
            have RB : Hid (wB.heap[A]? = some (.cells (scells ⟨2, on, at_, Bs, raw, F2⟩ bo bc fo2 fc2).toArray 45 (0, 0))) := mB.kept.at RA.out (by
              rintro (e | e)
              · exact CA.out.dev.disk.disk.other_off RA.out (by decide) (by decide) (by decide) e
              · have e : A = b := e
                have h2 := CA.out.dev.dev.head
                rw [← e, RA.out] at h2
                simp at h2)
            have SB : Hid (SIn wB ⟨2, on, at_, Bs, raw, F2⟩ bo bc fo2 fc2) := ⟨⟨hst0.out.bin.at_.grown (UB.out.grown), SA.out.bin.nil, SA.out.bin.size⟩, hst0.out.fin.grown UB.out.grown, SA.out.hi⟩
            have a0 : wB.cell? ⟨A, 0, none⟩ = some (.int .i64 2) := cell_row RB.out 0
            have a1 : wB.cell? ⟨A, 1, none⟩ = some (.int .i64 on) := cell_row RB.out 1
            have a2 : wB.cell? ⟨A, 2, none⟩ = some (.int .i64 at_) := cell_row RB.out 2
            have a3 : wB.cell? ⟨A, 3, none⟩ = some (.slice bo Bs.length bc) := cell_row RB.out 3
            have a4 : wB.cell? ⟨A, 4, none⟩ = some (.bool raw) := cell_row RB.out 4
            have a5 : wB.cell? ⟨A, 5, none⟩ = some (.slice fo2 F2.length fc2) := cell_row RB.out 5
            obtain ⟨va, vl, vc, hvf⟩ := gives_form gv
            subst hvf
            clear dB mB eB lB gv hg
            go_wp2_with fail
            refine (does_any CA.out.ud UB.out lvv.2 ⟨2, on, at_, Bs, raw, F2⟩ (.inr (.inl rfl)) bo bc fo2 fc2 SB.out).mono ?_
            rintro e wC ⟨u, rfl, gu, kC, DC, UC, dC, mC, eC, lC⟩
            have CB := hide (CA.out.both DB2.out.1 DB2.out.2.1 dC mC (DB2.out.2.2.trans (by rw [eC, CA.out.same])))
            have LC : Hid (UC.length ≤ j + 1) := by have := LV.out.2; show _ ≤ _; omega
            have HSM := hide (gives_same (by have := S0.out; omega) S0.out.2 (GV.out.kept mC.kept nown.out) (by rw [← opBytes_abs CA.out.same] at gu; exact gu))
            obtain ⟨ua, ul, uc, huf⟩ := gives_form gu
            subst huf
            clear dC mC eC lC gu a0 a1 a2 a3 a4 a5
            generalize opCode N SZ ⟨2, on, at_, Bs, raw, F2⟩ = cc at *
            go_wp2_with fail
            refine HSM.out.mono ?_
            rintro e wD ⟨rfl, q, rfl⟩
            have CD := hide (CB.out.then (grown_drewN _ q none))
            generalize wC.drewN q = wD at *
            go_wp2_with fail
            have hdo := down_any CD.out.dev.dev
            rw [OF.out] at hdo
            refine hdo.mono ?_
            rintro e wE ⟨rfl, rfl⟩
            clear hdo
            go_wp2
            go_roundg (gk - 1)
            case measure => omega
            case rel => exact ⟨j + 1, by omega, by rw [cutDn_done (by rw [hDN.out]; omega), hDN.out]; go_num, by go_num, hide ⟨kB, kC, DB, VB, UC, CD.out, LB.out, LC.out⟩⟩
        · have gA := World.grownBy_alloc wr (.cells #[.int .i64 2, .int .i64 on, .int .i64 at_, .slice bo Bs.length bc, .bool raw, .slice fo2 F2.length fc2] 45) none
          go_wp2_with fail
          have CA := hide (CC.out.then gA)
          have SA : Hid (SIn (wr.alloc (.cells #[.int .i64 2, .int .i64 on, .int .i64 at_, .slice bo Bs.length bc, .bool raw, .slice fo2 F2.length fc2] 45)) ⟨2, on, at_, Bs, raw, F2⟩ bo bc fo2 fc2) := ⟨SI.out.bin.grown gA, SI.out.fin.grown gA, SI.out.hi⟩
          have RA : Hid ((wr.alloc (.cells #[.int .i64 2, .int .i64 on, .int .i64 at_, .slice bo Bs.length bc, .bool raw, .slice fo2 F2.length fc2] 45)).heap[wr.heap.size]? = some (.cells (scells ⟨2, on, at_, Bs, raw, F2⟩ bo bc fo2 fc2).toArray 45 (0, 0))) := heap_alloc_new wr _
          clear gA c0 c1 c2 c3 c4 c5
          generalize wr.alloc (.cells #[.int .i64 2, .int .i64 on, .int .i64 at_, .slice bo Bs.length bc, .bool raw, .slice fo2 F2.length fc2] 45) = wA at *
          generalize wr.heap.size = A at *
          refine (asks_any CA.out.dev lvv.1 (by rw [devSt_cnt]; have := cutDn_le n j; omega) ⟨2, on, at_, Bs, raw, F2⟩ (.inr (.inl rfl)) bo bc fo2 fc2 SA.out).mono ?_
          rintro e wB ⟨v, rfl, gv, kB, DB, VB, dB, mB, eB, lB⟩
          rw [devSt_next] at dB
          have hg : (devSt n j).goes = true := by rw [devSt_goes, hDN.out]; simp [hn0]
          rw [hg, if_pos rfl] at gv eB
          rw [Dv.code, hg, if_pos rfl]
          have LB : Hid (VB.length ≤ j + 1) := by have := LV.out.1; show _ ≤ _; omega
          have OF : Hid ((devSt n (j + 1)).off = false) := by show _ = _; rw [devSt_off, hDN.out]; simp; intro _; omega
          have UB := hide (CA.out.u_ask dB mB)
          have DB2 := hide (And.intro dB (And.intro mB eB))
          have GV := hide gv
          have nown : Hid (∀ i, wA.heap.size ≤ i → i < wB.heap.size → ¬ ku1.own i) := fun i h1 h2 e => by have := CA.out.u.disk.lt i (.inl e); omega
          have RB : Hid (wB.heap[A]? = some (.cells (scells ⟨2, on, at_, Bs, raw, F2⟩ bo bc fo2 fc2).toArray 45 (0, 0))) := mB.kept.at RA.out (by
            rintro (e | e)
            · exact CA.out.dev.disk.disk.other_off RA.out (by decide) (by decide) (by decide) e
            · have e : A = b := e
              have h2 := CA.out.dev.dev.head
              rw [← e, RA.out] at h2
              simp at h2)
          have SB : Hid (SIn wB ⟨2, on, at_, Bs, raw, F2⟩ bo bc fo2 fc2) := ⟨⟨hst0.out.bin.at_.grown (UB.out.grown), SA.out.bin.nil, SA.out.bin.size⟩, hst0.out.fin.grown UB.out.grown, SA.out.hi⟩
          have a0 : wB.cell? ⟨A, 0, none⟩ = some (.int .i64 2) := cell_row RB.out 0
          have a1 : wB.cell? ⟨A, 1, none⟩ = some (.int .i64 on) := cell_row RB.out 1
          have a2 : wB.cell? ⟨A, 2, none⟩ = some (.int .i64 at_) := cell_row RB.out 2
          have a3 : wB.cell? ⟨A, 3, none⟩ = some (.slice bo Bs.length bc) := cell_row RB.out 3
          have a4 : wB.cell? ⟨A, 4, none⟩ = some (.bool raw) := cell_row RB.out 4
          have a5 : wB.cell? ⟨A, 5, none⟩ = some (.slice fo2 F2.length fc2) := cell_row RB.out 5
          obtain ⟨va, vl, vc, hvf⟩ := gives_form gv
          subst hvf
          clear dB mB eB lB gv hg
          go_wp2_with fail
          refine (does_any CA.out.ud UB.out lvv.2 ⟨2, on, at_, Bs, raw, F2⟩ (.inr (.inl rfl)) bo bc fo2 fc2 SB.out).mono ?_
          rintro e wC ⟨u, rfl, gu, kC, DC, UC, dC, mC, eC, lC⟩
          have CB := hide (CA.out.both DB2.out.1 DB2.out.2.1 dC mC (DB2.out.2.2.trans (by rw [eC, CA.out.same])))
          have LC : Hid (UC.length ≤ j + 1) := by have := LV.out.2; show _ ≤ _; omega
          have HSM := hide (gives_same (by have := S0.out; omega) S0.out.2 (GV.out.kept mC.kept nown.out) (by rw [← opBytes_abs CA.out.same] at gu; exact gu))
          obtain ⟨ua, ul, uc, huf⟩ := gives_form gu
          subst huf
          clear dC mC eC lC gu a0 a1 a2 a3 a4 a5
          generalize opCode N SZ ⟨2, on, at_, Bs, raw, F2⟩ = cc at *
          go_wp2_with fail
          refine HSM.out.mono ?_
          rintro e wD ⟨rfl, q, rfl⟩
          have CD := hide (CB.out.then (grown_drewN _ q none))
          generalize wC.drewN q = wD at *
          go_wp2_with fail
          have hdo := down_any CD.out.dev.dev
          rw [OF.out] at hdo
          refine hdo.mono ?_
          rintro e wE ⟨rfl, rfl⟩
          clear hdo
          go_wp2
          go_roundg (gk - 1)
          case measure => omega
          case rel => exact ⟨j + 1, by omega, by rw [cutDn_done (by rw [hDN.out]; omega), hDN.out]; go_num, by go_num, hide ⟨kB, kC, DB, VB, UC, CD.out, LB.out, LC.out⟩⟩
      · have hb1 : (kd != 1) = true := by simpa using hk1
        have hb2 : (kd != 2) = true := by simpa using hk2
        by_cases hn0 : 0 ≤ n
        · by_cases hnj : n ≤ (dn : Int)
          · have gA := World.grownBy_alloc wr (.cells #[.int .i64 3, .int .i64 on, .int .i64 at_, .slice bo Bs.length bc, .bool raw, .slice fo2 F2.length fc2] 45) none
            go_wp2_with fail
            have CA := hide (CC.out.then gA)
            have SA : Hid (SIn (wr.alloc (.cells #[.int .i64 3, .int .i64 on, .int .i64 at_, .slice bo Bs.length bc, .bool raw, .slice fo2 F2.length fc2] 45)) ⟨3, on, at_, Bs, raw, F2⟩ bo bc fo2 fc2) := ⟨SI.out.bin.grown gA, SI.out.fin.grown gA, SI.out.hi⟩
            have RA : Hid ((wr.alloc (.cells #[.int .i64 3, .int .i64 on, .int .i64 at_, .slice bo Bs.length bc, .bool raw, .slice fo2 F2.length fc2] 45)).heap[wr.heap.size]? = some (.cells (scells ⟨3, on, at_, Bs, raw, F2⟩ bo bc fo2 fc2).toArray 45 (0, 0))) := heap_alloc_new wr _
            clear gA c0 c1 c2 c3 c4 c5
            generalize wr.alloc (.cells #[.int .i64 3, .int .i64 on, .int .i64 at_, .slice bo Bs.length bc, .bool raw, .slice fo2 F2.length fc2] 45) = wA at *
            generalize wr.heap.size = A at *
            refine (asks_any CA.out.dev lvv.1 (by rw [devSt_cnt]; have := cutDn_le n j; omega) ⟨3, on, at_, Bs, raw, F2⟩ (.inr (.inr rfl)) bo bc fo2 fc2 SA.out).mono ?_
            rintro e wB ⟨v, rfl, gv, kB, DB, VB, dB, mB, eB, lB⟩
            rw [devSt_next] at dB
            have hg : (devSt n j).goes = false := by rw [devSt_goes, hDN.out]; simp [hn0, hnj]
            rw [hg] at gv eB
            rw [Dv.code, hg]
            have CB := hide (CA.out.refused dB mB eB)
            have hv := gives_none (by have := S0.out; omega) gv
            subst hv
            have LB : Hid (VB.length ≤ j + 1) := by have := LV.out.1; show _ ≤ _; omega
            have OF : Hid ((devSt n (j + 1)).off = true) := by show _ = _; rw [devSt_off, hDN.out]; simp [hn0, hnj]
            clear dB mB eB lB gv hg
            go_wp2_with fail
            have hdo := down_any CB.out.dev.dev
            rw [OF.out] at hdo
            refine hdo.mono ?_
            rintro e wC ⟨rfl, rfl⟩
            clear hdo
            go_wp2
            go_roundg (gk - 1)
            case measure => omega
            case rel => exact ⟨j + 1, by omega, by rw [cutDn_refused hn0 (by rw [hDN.out]; exact hnj), hDN.out], by go_num, hide ⟨kB, ku1, DB, VB, U1, CB.out, LB.out, by have := LV.out.2; omega⟩⟩
          · have gA := World.grownBy_alloc wr (.cells #[.int .i64 3, .int .i64 on, .int .i64 at_, .slice bo Bs.length bc, .bool raw, .slice fo2 F2.length fc2] 45) none
            go_wp2_with fail
            have CA := hide (CC.out.then gA)
            have SA : Hid (SIn (wr.alloc (.cells #[.int .i64 3, .int .i64 on, .int .i64 at_, .slice bo Bs.length bc, .bool raw, .slice fo2 F2.length fc2] 45)) ⟨3, on, at_, Bs, raw, F2⟩ bo bc fo2 fc2) := ⟨SI.out.bin.grown gA, SI.out.fin.grown gA, SI.out.hi⟩
            have RA : Hid ((wr.alloc (.cells #[.int .i64 3, .int .i64 on, .int .i64 at_, .slice bo Bs.length bc, .bool raw, .slice fo2 F2.length fc2] 45)).heap[wr.heap.size]? = some (.cells (scells ⟨3, on, at_, Bs, raw, F2⟩ bo bc fo2 fc2).toArray 45 (0, 0))) := heap_alloc_new wr _
            clear gA c0 c1 c2 c3 c4 c5
            generalize wr.alloc (.cells #[.int .i64 3, .int .i64 on, .int .i64 at_, .slice bo Bs.length bc, .bool raw, .slice fo2 F2.length fc2] 45) = wA at *
            generalize wr.heap.size = A at *
            refine (asks_any CA.out.dev lvv.1 (by rw [devSt_cnt]; have := cutDn_le n j; omega) ⟨3, on, at_, Bs, raw, F2⟩ (.inr (.inr rfl)) bo bc fo2 fc2 SA.out).mono ?_
            rintro e wB ⟨v, rfl, gv, kB, DB, VB, dB, mB, eB, lB⟩
            rw [devSt_next] at dB
            have hg : (devSt n j).goes = true := by rw [devSt_goes, hDN.out]; simp [hnj]
            rw [hg, if_pos rfl] at gv eB
            rw [Dv.code, hg, if_pos rfl]
            have LB : Hid (VB.length ≤ j + 1) := by have := LV.out.1; show _ ≤ _; omega
            have OF : Hid ((devSt n (j + 1)).off = false) := by show _ = _; rw [devSt_off, hDN.out]; simp; intro _; omega
            have UB := hide (CA.out.u_ask dB mB)
            have DB2 := hide (And.intro dB (And.intro mB eB))
            have GV := hide gv
            have nown : Hid (∀ i, wA.heap.size ≤ i → i < wB.heap.size → ¬ ku1.own i) := fun i h1 h2 e => by have := CA.out.u.disk.lt i (.inl e); omega
            have RB : Hid (wB.heap[A]? = some (.cells (scells ⟨3, on, at_, Bs, raw, F2⟩ bo bc fo2 fc2).toArray 45 (0, 0))) := mB.kept.at RA.out (by
              rintro (e | e)
              · exact CA.out.dev.disk.disk.other_off RA.out (by decide) (by decide) (by decide) e
              · have e : A = b := e
                have h2 := CA.out.dev.dev.head
                rw [← e, RA.out] at h2
                simp at h2)
            have SB : Hid (SIn wB ⟨3, on, at_, Bs, raw, F2⟩ bo bc fo2 fc2) := ⟨⟨hst0.out.bin.at_.grown (UB.out.grown), SA.out.bin.nil, SA.out.bin.size⟩, hst0.out.fin.grown UB.out.grown, SA.out.hi⟩
            have a0 : wB.cell? ⟨A, 0, none⟩ = some (.int .i64 3) := cell_row RB.out 0
            have a1 : wB.cell? ⟨A, 1, none⟩ = some (.int .i64 on) := cell_row RB.out 1
            have a2 : wB.cell? ⟨A, 2, none⟩ = some (.int .i64 at_) := cell_row RB.out 2
            have a3 : wB.cell? ⟨A, 3, none⟩ = some (.slice bo Bs.length bc) := cell_row RB.out 3
            have a4 : wB.cell? ⟨A, 4, none⟩ = some (.bool raw) := cell_row RB.out 4
            have a5 : wB.cell? ⟨A, 5, none⟩ = some (.slice fo2 F2.length fc2) := cell_row RB.out 5
            obtain ⟨va, vl, vc, hvf⟩ := gives_form gv
            subst hvf
            clear dB mB eB lB gv hg
            go_wp2_with fail
            refine (does_any CA.out.ud UB.out lvv.2 ⟨3, on, at_, Bs, raw, F2⟩ (.inr (.inr rfl)) bo bc fo2 fc2 SB.out).mono ?_
            rintro e wC ⟨u, rfl, gu, kC, DC, UC, dC, mC, eC, lC⟩
            have CB := hide (CA.out.both DB2.out.1 DB2.out.2.1 dC mC (DB2.out.2.2.trans (by rw [eC, CA.out.same])))
            have LC : Hid (UC.length ≤ j + 1) := by have := LV.out.2; show _ ≤ _; omega
            have HSM := hide (gives_same (by have := S0.out; omega) S0.out.2 (GV.out.kept mC.kept nown.out) (by rw [← opBytes_abs CA.out.same] at gu; exact gu))
            obtain ⟨ua, ul, uc, huf⟩ := gives_form gu
            subst huf
            clear dC mC eC lC gu a0 a1 a2 a3 a4 a5
            generalize opCode N SZ ⟨3, on, at_, Bs, raw, F2⟩ = cc at *
            go_wp2_with fail
            refine HSM.out.mono ?_
            rintro e wD ⟨rfl, q, rfl⟩
            have CD := hide (CB.out.then (grown_drewN _ q none))
            generalize wC.drewN q = wD at *
            go_wp2_with fail
            have hdo := down_any CD.out.dev.dev
            rw [OF.out] at hdo
            refine hdo.mono ?_
            rintro e wE ⟨rfl, rfl⟩
            clear hdo
            go_wp2
            go_roundg (gk - 1)
            case measure => omega
            case rel => exact ⟨j + 1, by omega, by rw [cutDn_done (by rw [hDN.out]; omega), hDN.out]; go_num, by go_num, hide ⟨kB, kC, DB, VB, UC, CD.out, LB.out, LC.out⟩⟩
        · have gA := World.grownBy_alloc wr (.cells #[.int .i64 3, .int .i64 on, .int .i64 at_, .slice bo Bs.length bc, .bool raw, .slice fo2 F2.length fc2] 45) none
          go_wp2_with fail
          have CA := hide (CC.out.then gA)
          have SA : Hid (SIn (wr.alloc (.cells #[.int .i64 3, .int .i64 on, .int .i64 at_, .slice bo Bs.length bc, .bool raw, .slice fo2 F2.length fc2] 45)) ⟨3, on, at_, Bs, raw, F2⟩ bo bc fo2 fc2) := ⟨SI.out.bin.grown gA, SI.out.fin.grown gA, SI.out.hi⟩
          have RA : Hid ((wr.alloc (.cells #[.int .i64 3, .int .i64 on, .int .i64 at_, .slice bo Bs.length bc, .bool raw, .slice fo2 F2.length fc2] 45)).heap[wr.heap.size]? = some (.cells (scells ⟨3, on, at_, Bs, raw, F2⟩ bo bc fo2 fc2).toArray 45 (0, 0))) := heap_alloc_new wr _
          clear gA c0 c1 c2 c3 c4 c5
          generalize wr.alloc (.cells #[.int .i64 3, .int .i64 on, .int .i64 at_, .slice bo Bs.length bc, .bool raw, .slice fo2 F2.length fc2] 45) = wA at *
          generalize wr.heap.size = A at *
          refine (asks_any CA.out.dev lvv.1 (by rw [devSt_cnt]; have := cutDn_le n j; omega) ⟨3, on, at_, Bs, raw, F2⟩ (.inr (.inr rfl)) bo bc fo2 fc2 SA.out).mono ?_
          rintro e wB ⟨v, rfl, gv, kB, DB, VB, dB, mB, eB, lB⟩
          rw [devSt_next] at dB
          have hg : (devSt n j).goes = true := by rw [devSt_goes, hDN.out]; simp [hn0]
          rw [hg, if_pos rfl] at gv eB
          rw [Dv.code, hg, if_pos rfl]
          have LB : Hid (VB.length ≤ j + 1) := by have := LV.out.1; show _ ≤ _; omega
          have OF : Hid ((devSt n (j + 1)).off = false) := by show _ = _; rw [devSt_off, hDN.out]; simp; intro _; omega
          have UB := hide (CA.out.u_ask dB mB)
          have DB2 := hide (And.intro dB (And.intro mB eB))
          have GV := hide gv
          have nown : Hid (∀ i, wA.heap.size ≤ i → i < wB.heap.size → ¬ ku1.own i) := fun i h1 h2 e => by have := CA.out.u.disk.lt i (.inl e); omega
          have RB : Hid (wB.heap[A]? = some (.cells (scells ⟨3, on, at_, Bs, raw, F2⟩ bo bc fo2 fc2).toArray 45 (0, 0))) := mB.kept.at RA.out (by
            rintro (e | e)
            · exact CA.out.dev.disk.disk.other_off RA.out (by decide) (by decide) (by decide) e
            · have e : A = b := e
              have h2 := CA.out.dev.dev.head
              rw [← e, RA.out] at h2
              simp at h2)
          have SB : Hid (SIn wB ⟨3, on, at_, Bs, raw, F2⟩ bo bc fo2 fc2) := ⟨⟨hst0.out.bin.at_.grown (UB.out.grown), SA.out.bin.nil, SA.out.bin.size⟩, hst0.out.fin.grown UB.out.grown, SA.out.hi⟩
          have a0 : wB.cell? ⟨A, 0, none⟩ = some (.int .i64 3) := cell_row RB.out 0
          have a1 : wB.cell? ⟨A, 1, none⟩ = some (.int .i64 on) := cell_row RB.out 1
          have a2 : wB.cell? ⟨A, 2, none⟩ = some (.int .i64 at_) := cell_row RB.out 2
          have a3 : wB.cell? ⟨A, 3, none⟩ = some (.slice bo Bs.length bc) := cell_row RB.out 3
          have a4 : wB.cell? ⟨A, 4, none⟩ = some (.bool raw) := cell_row RB.out 4
          have a5 : wB.cell? ⟨A, 5, none⟩ = some (.slice fo2 F2.length fc2) := cell_row RB.out 5
          obtain ⟨va, vl, vc, hvf⟩ := gives_form gv
          subst hvf
          clear dB mB eB lB gv hg
          go_wp2_with fail
          refine (does_any CA.out.ud UB.out lvv.2 ⟨3, on, at_, Bs, raw, F2⟩ (.inr (.inr rfl)) bo bc fo2 fc2 SB.out).mono ?_
          rintro e wC ⟨u, rfl, gu, kC, DC, UC, dC, mC, eC, lC⟩
          have CB := hide (CA.out.both DB2.out.1 DB2.out.2.1 dC mC (DB2.out.2.2.trans (by rw [eC, CA.out.same])))
          have LC : Hid (UC.length ≤ j + 1) := by have := LV.out.2; show _ ≤ _; omega
          have HSM := hide (gives_same (by have := S0.out; omega) S0.out.2 (GV.out.kept mC.kept nown.out) (by rw [← opBytes_abs CA.out.same] at gu; exact gu))
          obtain ⟨ua, ul, uc, huf⟩ := gives_form gu
          subst huf
          clear dC mC eC lC gu a0 a1 a2 a3 a4 a5
          generalize opCode N SZ ⟨3, on, at_, Bs, raw, F2⟩ = cc at *
          go_wp2_with fail
          refine HSM.out.mono ?_
          rintro e wD ⟨rfl, q, rfl⟩
          have CD := hide (CB.out.then (grown_drewN _ q none))
          generalize wC.drewN q = wD at *
          go_wp2_with fail
          have hdo := down_any CD.out.dev.dev
          rw [OF.out] at hdo
          refine hdo.mono ?_
          rintro e wE ⟨rfl, rfl⟩
          clear hdo
          go_wp2
          go_roundg (gk - 1)
          case measure => omega
          case rel => exact ⟨j + 1, by omega, by rw [cutDn_done (by rw [hDN.out]; omega), hDN.out]; go_num, by go_num, hide ⟨kB, kC, DB, VB, UC, CD.out, LB.out, LC.out⟩⟩
    · have hj : j = m' := by omega
      subst hj
      have hjm : ¬ (j : Int) < (j : Int) := by omega
      obtain ⟨kv1, ku1, D1, V1, U1, C1, lv1, lu1⟩ := HR.out
      have C2 := hide C1
      have hcnt := devSt_cnt n j
      have hlen : V1.length = U1.length := by have := congrArg List.length C1.same; simpa [abs] using this
      have hlu : U1.length ≤ 1000 := by omega
      clear HR C1 lv1 lu1 HQS
      go_wp2_with fail
      have hco := count_any C2.out.dev.dev
      rw [hcnt] at hco
      refine hco.mono ?_
      rintro e wa ⟨rfl, rfl⟩
      clear hco hcnt
      generalize cutDn n j = dn at *
      go_wp2_with fail
      refine (dwaiting_any C2.out.dev).mono ?_
      rintro e wa ⟨rfl, rfl⟩
      go_wp2_with fail
      refine (waitingS C2.out.ud C2.out.u).mono ?_
      rintro e wa ⟨rfl, rfl⟩
      rw [← hlen]
      go_wp2_with fail
      refine (copyFates_any fo fc F wa (HF.out.grown C2.out.u.grown)).mono ?_
      rintro e wb ⟨fo1, fc1, rfl, f1, f2, f3⟩
      have C3 := hide (C2.out.then f3)
      have F3 := hide (And.intro f1 f2)
      have hz3 : Hid (kv1.db < wa.heap.size ∧ b < wa.heap.size) := ⟨C2.out.dev.disk.disk.lt _ (.inl (.inr (.inl rfl))), C2.out.dev.dev.lt⟩
      clear f1 f2 f3
      go_wp2_with fail
      refine (restart_any C3.out.dev fo1 F.length fc1 F rfl F3.out.1 (fun a e hl => by have := F3.out.2 a e hl; have := hz3.out; omega)).mono ?_
      rintro e wc ⟨rfl, D4, d4, m4, e4⟩
      have U4 := hide (C3.out.u_ask d4 m4)
      have D4' := hide (And.intro d4 (And.intro m4 e4))
      clear d4 m4 e4
      go_wp2_with fail
      refine (copyFates_any fo fc F wc (HF.out.grown U4.out.grown)).mono ?_
      rintro e wd ⟨fo2, fc2, rfl, f1, f2, f3⟩
      have U5 := hide (U4.out.then f3)
      have F5 := hide (And.intro f1 f2)
      have hz5 : Hid (ku1.db < wc.heap.size) := U4.out.disk.lt _ (.inl (.inr (.inl rfl)))
      have G5 := hide f3
      clear f1 f2 f3
      go_wp2_with fail
      refine (crash2 C2.out.ud U5.out fo2 F.length fc2 F rfl F5.out.1 (fun a e hl => by have := F5.out.2 a e hl; have := hz5.out; omega)).mono ?_
      rintro e we ⟨rfl, u6, k6⟩
      have C6 : Hid (Cut w we N SZ b d Dv.anew kv1.calm ku1.calm D4 [] []) := C3.out.both (D4'.out.1.then G5.out) (D4'.out.2.1.new G5.out) u6 (calm_moved k6) (D4'.out.2.2.trans (by
        rw [crashA, C2.out.same, stl_abs, abs_length]; rfl))
      clear u6 k6 U5 U4 D4' C3 F3 F5 G5 hz3 hz5
      go_wp2_with fail
      refine (dimage_any C6.out.dev).mono ?_
      rintro e wf ⟨rfl, hs, i1, g1⟩
      have I1 := hide i1
      have C7 := hide (C6.out.then g1)
      clear i1 g1
      go_wp2_with fail
      refine (imageS C7.out.ud C7.out.u).mono ?_
      rintro e wg ⟨hs2, rfl, i2, g2⟩
      have I2 := hide i2
      have I1b := hide (I1.out.grown g2)
      have C8 := hide (C7.out.then g2)
      clear i2 g2
      have n1 := C6.out.u.disk.shape.n1
      go_wp2_with fail
      refine (sameRows_eq (some ⟨we.heap.size, 0, none⟩) (some ⟨wf.heap.size, 0, none⟩) N N N (secs N SZ D4) wg (secs_length _ _ _) (I1b.out.rowsAt S0.out.2) (I2.out.rowsAt S0.out.2) (by omega)).mono ?_
      rintro e wh ⟨rfl, q, rfl⟩
      have C9 := hide (C8.out.then (grown_drewN _ q none))
      go_wp2_with fail
      refine (count_any C9.out.dev.dev).mono ?_
      rintro e wi ⟨rfl, rfl⟩
      go_wp2_with fail
      refine (down_any C9.out.dev.dev).mono ?_
      rintro e wi ⟨rfl, rfl⟩
      go_wp2_with fail
      refine (dwaiting_any C9.out.dev).mono ?_
      rintro e wi ⟨rfl, rfl⟩
      go_wp2
      go_ret
      exact ⟨rfl, C9.out.u.grown⟩
end Go.Proofs.Ytaopcidkgcekdaa
