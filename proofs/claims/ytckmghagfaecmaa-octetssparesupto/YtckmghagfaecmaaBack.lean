/- OctetsBack's walk, of a script whose bytes are few enough to be laid into one row. -/
import Derived.Test.YtckmghagfaecmaaOps
import Derived.Test.YtckmghagfaecmaaLent
namespace Go.Proofs.Ytckmghagfaecmaa
open Go.RowKit
attribute [local go_sem ↓] Go.wp_at_zero Go.wp_at_succ

/-- A step's four cells. -/
structure OpAt (w : World) (blk off : Nat) (o : OpD) (bo : Option Addr) (cap : Nat) : Prop where
  c0 : w.cell? ⟨blk, off, none⟩ = some (.int .i64 o.kind)
  c1 : w.cell? ⟨blk, off + 1, none⟩ = some (.int .u64 o.N)
  c2 : w.cell? ⟨blk, off + 2, none⟩ = some (.int .i64 o.take)
  c3 : w.cell? ⟨blk, off + 3, none⟩ = some (.slice bo o.b.length cap)
  b : BAt w bo cap o.b
  ok : OpOk o
theorem OpAt.kept {w w' : World} {blk off : Nat} {o : OpD} {bo : Option Addr} {cap : Nat} (h : OpAt w blk off o bo cap) (hg : w.grownBy w' none) : OpAt w' blk off o bo cap :=
  ⟨hg.cell h.c0 (by simp), hg.cell h.c1 (by simp), hg.cell h.c2 (by simp), hg.cell h.c3 (by simp), h.b.kept hg, h.ok⟩
/-- A script lies where ao leads. -/
def OpsAt (w : World) (ao : Option Addr) (os : List OpD) : Prop := ∀ j o, os[j]? = some o → ∃ blk off bo cap, ao = some ⟨blk, off, none⟩ ∧ OpAt w blk (off + j * 4) o bo cap
theorem at_off {w : World} {bo : Option Addr} {b : List Int} {B : Nat} (h : At w bo b) (hB : w.heap.size ≤ B) : b ≠ [] → Off bo B := by
  intro hb a ha
  cases b with
  | nil => exact absurd rfl hb
  | cons x b =>
    obtain ⟨a', ha', hc⟩ := h 0 x rfl
    rw [ha] at ha'; cases ha'
    have := World.block_lt_of_cell? w _ hc
    rw [addr_add_block] at this
    omega

/-- What the steps put, all together. -/
def putAll (os : List OpD) : List Int := os.flatMap putF
theorem putAll_snoc (os : List OpD) (o : OpD) : putAll (os ++ [o]) = putAll os ++ putF o := by simp [putAll]
theorem putAll_cons (os : List OpD) (o : OpD) : putAll (o :: os) = putF o ++ putAll os := by simp [putAll]
theorem putAll_take (os : List OpD) (j : Nat) : (putAll (os.take j)).length ≤ (putAll os).length := by
  have h : putAll os = putAll (os.take j) ++ putAll (os.drop j) := by
    unfold putAll
    rw [← List.flatMap_append, List.take_append_drop]
  rw [h, List.length_append]
  omega
theorem putAll_byt (os : List OpD) (h : ∀ o ∈ os, OpOk o) : Byt (putAll os) := by
  intro x hx
  simp only [putAll, List.mem_flatMap] at hx
  obtain ⟨o, ho, hx⟩ := hx
  exact putF_byt o (h o ho) x hx

theorem split_at {xs p r : List Int} {z : Int} (h : xs ++ [z] = p ++ r) (hl : p.length ≤ xs.length) : ∃ r1, xs = p ++ r1 ∧ r1 ++ [z] = r := by
  rcases List.append_eq_append_iff.1 h with ⟨a, h1, h2⟩ | ⟨a, h1, h2⟩
  · have : a = [] := by
      have h3 : p.length = xs.length + a.length := by rw [h1]; simp
      exact List.eq_nil_of_length_eq_zero (by omega)
    subst this
    exact ⟨[], by simpa using h1.symm, by simpa using h2⟩
  · exact ⟨a, h1, h2.symm⟩

set_option maxHeartbeats 4000000 in
set_option maxRecDepth 100000 in
theorem back_any (ao : Option Addr) (n cap : Nat) (os : List OpD) (w : World) (hn : os.length = n) (hat : OpsAt w ao os) (hok : ∀ o ∈ os, OpOk o) (hb : ∀ o ∈ os, o.b.length ≤ 1000000000) (hnb : n ≤ 1000000000) (hS : (putAll (os.take 2000)).length ≤ 1000000000) :
    Calls Try.prog 6 #[.slice ao n cap] w fun e w' => e = .returned (.bool true) ∧ w.grownBy w' none := by
  obtain ⟨ps, hps⟩ : ∃ ps, ps = os.take 2000 := ⟨_, rfl⟩
  obtain ⟨m, hm⟩ : ∃ m, m = ps.length := ⟨_, rfl⟩
  have hmn : m ≤ n := by rw [hm, hps]; simp; omega
  have hm2 : m ≤ 2000 := by rw [hm, hps]; simp; omega
  have hm3 : m < n → m = 2000 := by intro h; rw [hm, hps] at h ⊢; simp at h ⊢; omega
  have hps2 : ∀ j o, ps[j]? = some o → ∃ blk off bo cap, ao = some ⟨blk, off, none⟩ ∧ OpAt w blk (off + j * 4) o bo cap := by
    intro j o ho
    refine hat j o ?_
    rw [hps, List.getElem?_take] at ho
    split at ho
    · exact ho
    · cases ho
  have hpok : ∀ o ∈ ps, OpOk o := fun o ho => hok o (by rw [hps] at ho; exact List.mem_of_mem_take ho)
  have hpb : ∀ o ∈ ps, o.b.length ≤ 1000000000 := fun o ho => hb o (by rw [hps] at ho; exact List.mem_of_mem_take ho)
  rw [← hps] at hS
  have H := hide (And.intro hm (And.intro hps2 (And.intro hpok (And.intro hpb hS))))
  clear hps hm hps2 hpok hpb hS hn hat hok hb os
  go_enter Try.func6, Try.ntmps6
  go_wp2
  go_loopg [4] m (fun k i wr => ∃ j : Nat, k + j = m ∧ i = .int .i64 j ∧ WrAt wr w.heap.size (putAll (ps.take j)) ∧ w.grownBy wr none)
  case atStart => exact ⟨0, by omega, rfl, wr_zero w, World.grownBy_alloc w _ _⟩
  case round =>
    obtain ⟨j, hkj, rfl, hwr, hg⟩ := hrel
    by_cases hk : 0 < gk
    · obtain ⟨hm, hps2, hpok, hpb, hS⟩ := H.out
      have hj : j < ps.length := by omega
      obtain ⟨blk, off, bo, bcap, rfl, hop⟩ := hps2 j ps[j] (by simp [hj])
      have hop' := hop.kept hg
      have hjn : (j : Int) < (n : Int) := by omega
      have hj2 : (j : Int) < 2000 := by omega
      have hj0 : (0 : Int) ≤ (j : Int) := by omega
      obtain ⟨c0, c1, c2, c3, cb, cok⟩ := hop'
      have hlen := putAll_take ps j
      have hbl := hpb ps[j] (by simp)
      have hsn : Hid (putAll (ps.take (j + 1)) = putAll (ps.take j) ++ putF ps[j]) := by show _ = _; rw [List.take_succ_eq_append_getElem hj, putAll_snoc]
      generalize ps[j] = o at *
      have HP := hide (put_op w.heap.size _ o bo bcap wr hwr cok cb (by omega) hbl)
      clear hm hps2 hpok hpb hS hj hop hwr hlen cb cok
      go_wp2_with fail
      refine HP.out.mono ?_
      rintro e w2 ⟨rfl, hw2, hg2⟩
      go_wp2
      go_roundg (gk - 1)
      case measure => omega
      case rel => exact ⟨j + 1, by omega, by go_num, by rw [hsn.out]; exact hw2, grown_then hg hg2 (fun k e => by cases e; exact Or.inl (Nat.le_refl _))⟩
    · have hj : j = m := by omega
      subst hj
      have hX : Hid (ps.take j = ps) := by show _ = _; rw [H.out.1]; exact List.take_length
      rw [hX.out] at hwr
      have HW := hide (And.intro hwr hg)
      clear hwr hg hX
      have hlt : ¬ ((j : Int) < (n : Int) ∧ (j : Int) < 2000) := by omega
      have hlS : (putAll ps).length ≤ 1000000000 := H.out.2.2.2.2
      obtain ⟨D, hD⟩ : ∃ D, D = putAll ps := ⟨_, rfl⟩
      obtain ⟨L, hLD⟩ : ∃ L, L = D.length := ⟨_, rfl⟩
      rw [← hD, ← hLD] at hlS
      rw [← hD] at HW
      have HD := hide (And.intro hD hLD)
      clear hD hLD
      have hbyt : Byt D := by rw [HD.out.1]; exact putAll_byt ps H.out.2.2.1
      have HBy := hide hbyt
      clear hbyt
      rcases (show ((j : Int) < (n : Int) ∧ (2000 : Int) ≤ (j : Int)) ∨ (n : Int) ≤ (j : Int) from by omega) with hcase | hcase
      all_goals
        go_wp2_with fail
        refine (out_any w.heap.size D wr HW.out.1 (by rw [← HD.out.2]; omega)).mono ?_
        rw [← HD.out.2]
        rintro e w2 ⟨rfl, hrow, hg2⟩
        have HW2 := hide (And.intro (HW.out.1.kept hg2 (by simp) (NoBlock.none _)) (And.intro (at_row hrow) (grown_trans HW.out.2 hg2)))
        have hAw : w.heap.size ≤ wr.heap.size := HW.out.2.size
        clear hrow hg2 HW
        generalize wr.heap.size = A at *
        go_wp2_with fail
        refine (of_any (some ⟨A, 0, none⟩) L L D _ HD.out.2.symm HW2.out.2.1 (fun e => by cases e) (by omega)).mono ?_
        rintro e w3 ⟨B, rfl, hB, hR, hg3⟩
        have HW3 := hide (And.intro (HW2.out.1.kept hg3 (by simp) (NoBlock.none _)) (And.intro (HW2.out.2.1.kept hg3 (by simp)) (And.intro (grown_trans HW2.out.2.2 hg3) hR)))
        have hBw : w.heap.size ≤ B := by have := HW2.out.2.2.size; omega
        have HOff := hide (at_off HW2.out.2.1 hB)
        have hgB : w.heap.size ≠ B := by have := HW2.out.1.lt; omega
        clear hR hg3 HW2 hB
        go_wp2
        go_loopg [7] j (fun k i wr => ∃ t : Nat, k + t = j ∧ i = .int .i64 t ∧ RdAt wr B (putAll (ps.drop t)) 0 ∧ WrAt wr w.heap.size D ∧ At wr (some ⟨A, 0, none⟩) D ∧ w.grownBy wr none)
        case atStart => exact ⟨0, by omega, rfl, by rw [List.drop_zero, ← HD.out.1]; exact HW3.out.2.2.2, HW3.out.1, HW3.out.2.1, HW3.out.2.2.1⟩
        case round =>
          obtain ⟨t, hkt, rfl, hR, hW, hA, hg⟩ := hrel
          by_cases hk : 0 < gk
          · obtain ⟨hm, hps2, hpok, hpb, hS⟩ := H.out
            have ht : t < ps.length := by omega
            obtain ⟨blk, off, bo, bcap, rfl, hop⟩ := hps2 t ps[t] (by simp [ht])
            have hop' := hop.kept hg
            have htn : (t : Int) < (n : Int) := by omega
            have ht2 : (t : Int) < 2000 := by omega
            have ht0 : (0 : Int) ≤ (t : Int) := by omega
            obtain ⟨c0, c1, c2, c3, cb, cok⟩ := hop'
            have hbl := hpb ps[t] (by simp)
            have hd : ps.drop t = ps[t] :: ps.drop (t + 1) := List.drop_eq_getElem_cons ht
            have hdl : (putAll (ps.drop t)).length ≤ 1000000000 := by
              have h1 : putAll ps = putAll (ps.take t) ++ putAll (ps.drop t) := by unfold putAll; rw [← List.flatMap_append, List.take_append_drop]
              rw [h1, List.length_append] at hS; omega
            have hdb : Byt (putAll (ps.drop t)) := putAll_byt _ (fun o ho => hpok o (List.mem_of_mem_drop ho))
            have HPG := hide (got_op B _ 0 ps[t] bo bcap _ hR hdb cok cb (at_off hop.b.1 hBw) hdl hbl)
            have hsp : putAll (ps.drop t) = putF ps[t] ++ putAll (ps.drop (t + 1)) := by rw [hd, putAll_cons]
            have HSP := hide (And.intro hsp (takeF_hit (putF ps[t]) (putAll (ps.drop (t + 1))) _ rfl))
            have HK2 := hide (And.intro hW (And.intro hA (And.intro hg hR)))
            generalize ps[t] = o at *
            clear hm hps2 hpok hpb hS ht hop hd hdl hdb hR hW hA hg hsp cb cok
            go_wp2_with fail
            refine HPG.out.mono ?_
            rintro e w4 ⟨res, rfl, hR4, hg4, hres⟩
            obtain rfl : res = true := hres _ (by first | rfl | trivial) HSP.out.1
            rw [HSP.out.1, HSP.out.2] at hR4
            have HK4 := hide (And.intro hR4 (And.intro (HK2.out.1.kept hg4 (by simpa using hgB.symm) HK2.out.2.2.2.noBlock) (And.intro (at_kept HK2.out.2.1 HOff.out hg4) (grown_then HK2.out.2.2.1 hg4 (fun k e => by cases e; exact Or.inl hBw)))))
            clear hR4 hg4 hres HPG
            go_wp2
            go_roundg (gk - 1)
            case measure => omega
            case rel => exact ⟨t + 1, by omega, by go_num, HK4.out⟩
          · have ht : t = j := by omega
            subst ht
            have hX : ps.drop t = [] := List.drop_eq_nil_of_le (by rw [← H.out.1]; exact Nat.le_refl _)
            rw [hX] at hR
            have HK5 := hide (And.intro hR (And.intro hW (And.intro hA hg)))
            clear hR hW hA hg hX HW3
            go_wp2_with fail
            refine (end_any B [] 0 _ HK5.out.1).mono ?_
            rw [show endF [] 0 = 0 from by decide]
            rintro e w5 ⟨rfl, rfl⟩
            go_wp2_with fail
            refine (left_any B [] 0 _ HK5.out.1).mono ?_
            rintro e w5 ⟨rfl, rfl⟩
            go_wp2_with fail
            refine (len_any w.heap.size D _ HK5.out.2.1).mono ?_
            rw [← HD.out.2]
            rintro e w5 ⟨rfl, rfl⟩
            go_wp2_with fail
            refine (awake_any _).mono ?_
            rintro e w6 ⟨rfl, hg6⟩
            have HK6 := hide (And.intro (HK5.out.2.2.1.kept hg6 (by simp)) (grown_trans HK5.out.2.2.2 hg6))
            clear hg6 HK5
            by_cases hL0 : L = 0
            · have hl0 : ((L : Int) == 0) = true := by simp [hL0]
              go_wp2
              go_ret
              exact ⟨rfl, HK6.out.2⟩
            · have hl0 : ((L : Int) == 0) = false := by simp [hL0]
              have hL1 : (L : Int) - 1 = ((L - 1 : Nat) : Int) := by omega
              have hst := slice_to (some ⟨A, 0, none⟩) L L (L - 1) (by omega)
              go_wp2_with fail
              refine (of_any (some ⟨A, 0, none⟩) (L - 1) L (D.take (L - 1)) _ (by have := HD.out.2; simp; omega) (HK6.out.1.take _) (fun e => by cases e) (by omega)).mono ?_
              rintro e w7 ⟨C, rfl, hC, hR7, hg7⟩
              have hCw : w.heap.size ≤ C := by have := HK6.out.2.size; omega
              have HK7 := hide (And.intro hR7 (grown_trans HK6.out.2 hg7))
              clear hR7 hg7 HK6 hC HOff hgB
              go_wp2
              go_loopg [9] t (fun k i wr => ∃ q xs e, k + q = t ∧ i = .int .i64 (q : Nat) ∧ RdAt wr C xs e ∧ w.grownBy wr none ∧ ((e = 0 ∧ ∃ z, xs ++ [z] = putAll (ps.drop q)) ∨ (e = 4 ∧ xs = [])))
              case atStart =>
                refine ⟨0, _, 0, by omega, rfl, HK7.out.1, HK7.out.2, Or.inl ⟨rfl, ?_⟩⟩
                have hne : D ≠ [] := by intro e; have := HD.out.2; rw [e] at this; simp at this; omega
                refine ⟨D.getLast hne, ?_⟩
                rw [List.drop_zero, ← HD.out.1, HD.out.2, ← List.dropLast_eq_take]
                exact List.dropLast_concat_getLast hne
              case round =>
                obtain ⟨q, xs, e, hkq, rfl, hR, hg, hst2⟩ := hrel
                by_cases hk : 0 < gk
                · obtain ⟨hm, hps2, hpok, hpb, hS⟩ := H.out
                  have hq : q < ps.length := by omega
                  obtain ⟨blk, off, bo, bcap, rfl, hop⟩ := hps2 q ps[q] (by simp [hq])
                  have hop' := hop.kept hg
                  have hqn : (q : Int) < (n : Int) := by omega
                  have hq2 : (q : Int) < 2000 := by omega
                  have hq0 : (0 : Int) ≤ (q : Int) := by omega
                  obtain ⟨c0, c1, c2, c3, cb, cok⟩ := hop'
                  have hbl := hpb ps[q] (by simp)
                  have hd : ps.drop q = ps[q] :: ps.drop (q + 1) := List.drop_eq_getElem_cons hq
                  have hdl : (putAll (ps.drop q)).length ≤ 1000000000 := by
                    have h1 : putAll ps = putAll (ps.take q) ++ putAll (ps.drop q) := by unfold putAll; rw [← List.flatMap_append, List.take_append_drop]
                    rw [h1, List.length_append] at hS; omega
                  have hdb : Byt (putAll (ps.drop q)) := putAll_byt _ (fun o ho => hpok o (List.mem_of_mem_drop ho))
                  have hxl : xs.length ≤ 1000000000 ∧ Byt xs := by
                    rcases hst2 with ⟨_, z, hz⟩ | ⟨_, hz⟩
                    · rw [← hz] at hdl hdb; exact ⟨by simp at hdl; omega, fun x hx => hdb x (List.mem_append_left _ hx)⟩
                    · subst hz; exact ⟨by simp, fun x hx => by cases hx⟩
                  have HPG := hide (got_op C xs e ps[q] bo bcap _ hR hxl.2 cok cb (at_off hop.b.1 hCw) hxl.1 hbl)
                  have hsp : putAll (ps.drop q) = putF ps[q] ++ putAll (ps.drop (q + 1)) := by rw [hd, putAll_cons]
                  rw [hsp] at hst2
                  have HK2 := hide (And.intro hR (And.intro hg hst2))
                  generalize ps[q] = o at *
                  clear hm hps2 hpok hpb hS hq hop hd hdl hdb hR hg hsp cb cok hxl hst2
                  rcases HK2.out.2.2 with ⟨rfl, z, hz⟩ | ⟨rfl, rfl⟩
                  · by_cases hpl : (putF o).length ≤ xs.length
                    · obtain ⟨r1, hx, hr1⟩ := split_at hz hpl
                      have HT := hide (And.intro (takeF_hit (putF o) r1 _ rfl) (And.intro hx hr1))
                      clear hz hx hr1 hpl
                      go_wp2_with fail
                      refine (err_any C xs 0 _ HK2.out.1).mono ?_
                      rintro e w8 ⟨rfl, rfl⟩
                      go_wp2_with fail
                      refine HPG.out.mono ?_
                      rintro e w9 ⟨res, rfl, hR9, hg9, hres⟩
                      obtain rfl : res = true := hres r1 (by first | rfl | trivial) HT.out.2.1
                      rw [HT.out.2.1, HT.out.1] at hR9
                      have HK9 := hide (And.intro hR9 (grown_then HK2.out.2.1 hg9 (fun k e => by cases e; exact Or.inl hCw)))
                      clear hR9 hg9 hres HPG
                      go_wp2_with fail
                      refine (err_any C r1 0 _ HK9.out.1).mono ?_
                      rintro e w10 ⟨rfl, rfl⟩
                      go_wp2
                      go_roundg (gk - 1)
                      case measure => omega
                      case rel => exact ⟨q + 1, r1, 0, by omega, by go_num, HK9.out.1, HK9.out.2, Or.inl ⟨rfl, z, HT.out.2.2⟩⟩
                    · have HT : Hid (takeF xs 0 (putF o).length = ([], [], 4)) := by
                        have h1 : ¬ (((putF o).length : Int) < 0) := by omega
                        have h2 : (xs.length : Int) < ((putF o).length : Int) := by omega
                        show _ = _
                        unfold takeF
                        rw [if_neg (by simp), if_neg h1, if_pos h2]
                      clear hz hpl
                      go_wp2_with fail
                      refine (err_any C xs 0 _ HK2.out.1).mono ?_
                      rintro e w8 ⟨rfl, rfl⟩
                      go_wp2_with fail
                      refine HPG.out.mono ?_
                      rintro e w9 ⟨res, rfl, hR9, hg9, hres⟩
                      rw [HT.out] at hR9
                      have HK9 := hide (And.intro hR9 (grown_then HK2.out.2.1 hg9 (fun k e => by cases e; exact Or.inl hCw)))
                      clear hR9 hg9 hres HPG
                      go_wp2_with fail
                      refine (err_any C [] 4 _ HK9.out.1).mono ?_
                      rintro e w10 ⟨rfl, rfl⟩
                      go_wp2
                      go_roundg (gk - 1)
                      case measure => omega
                      case rel => exact ⟨q + 1, [], 4, by omega, by go_num, HK9.out.1, HK9.out.2, Or.inr ⟨rfl, rfl⟩⟩
                  · have HT : Hid (takeF [] 4 (putF o).length = ([], [], 4)) := by show _ = _; unfold takeF; rw [if_pos (by simp)]
                    go_wp2_with fail
                    refine (err_any C [] 4 _ HK2.out.1).mono ?_
                    rintro e w8 ⟨rfl, rfl⟩
                    go_wp2_with fail
                    refine HPG.out.mono ?_
                    rintro e w9 ⟨res, rfl, hR9, hg9, hres⟩
                    rw [HT.out] at hR9
                    have HK9 := hide (And.intro hR9 (grown_then HK2.out.2.1 hg9 (fun k e => by cases e; exact Or.inl hCw)))
                    clear hR9 hg9 hres HPG
                    go_wp2_with fail
                    refine (left_any C [] 4 _ HK9.out.1).mono ?_
                    rintro e w10 ⟨rfl, rfl⟩
                    go_wp2_with fail
                    refine (err_any C [] 4 _ HK9.out.1).mono ?_
                    rintro e w10 ⟨rfl, rfl⟩
                    go_wp2
                    go_roundg (gk - 1)
                    case measure => omega
                    case rel => exact ⟨q + 1, [], 4, by omega, by go_num, HK9.out.1, HK9.out.2, Or.inr ⟨rfl, rfl⟩⟩
                · have hq : q = t := by omega
                  subst hq
                  have hX : putAll (ps.drop q) = [] := by rw [List.drop_eq_nil_of_le (by rw [← H.out.1]; exact Nat.le_refl _)]; rfl
                  obtain ⟨rfl, rfl⟩ : e = 4 ∧ xs = [] := by
                    rcases hst2 with ⟨_, z, hz⟩ | h
                    · rw [hX] at hz; simp at hz
                    · exact h
                  have HK8 := hide (And.intro hR hg)
                  clear hR hg hst2 hX
                  go_wp2_with fail
                  refine (end_any C [] 4 _ HK8.out.1).mono ?_
                  rw [show endF [] 4 = 4 from by decide]
                  rintro e w8 ⟨rfl, rfl⟩
                  go_wp2
                  go_ret
                  exact ⟨rfl, HK8.out.2⟩
end Go.Proofs.Ytckmghagfaecmaa
