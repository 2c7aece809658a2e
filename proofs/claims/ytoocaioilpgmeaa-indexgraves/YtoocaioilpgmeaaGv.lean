/- The walk of IndexGraves. -/
import Derived.Test.YtoocaioilpgmeaaGq
import Derived.Deep.CutRange
import Derived.Deep.DeepCutAuto
namespace Go.Proofs.Ytoocaioilpgmeaa
open Go.RowKit Ix Go.Shelf
attribute [local go_sem ↓] Go.wp_at_zero Go.wp_at_succ
/-- Ids that came in. -/
structure Ids (w : World) (ao : Option Addr) (len : Nat) (ids : List Nat) : Prop where
  len : ids.length = len
  at_ : ∀ j u, ids[j]? = some u → ∃ blk off, ao = some (⟨blk, off, none⟩ : Addr) ∧ w.cell? ⟨blk, off + j, none⟩ = some (.int .u32 ((u : Nat) : Int))
  ok : ∀ x ∈ ids, x < 4294967296
/-- Those that are held, and those in the index. -/
structure GvI (M : List (Nat × Int)) (H : List Nat) : Prop where
  nod : H.Nodup
  mem : ∀ k, k ∈ H ↔ (lk M k).isSome = true
  len : M.length = H.length
theorem GvI.nil : GvI [] [] := ⟨List.Pairwise.nil, fun k => by simp [lk], rfl⟩
theorem GvI.put {M : List (Nat × Int)} {H : List Nat} (h : GvI M H) (hA : Asc M) {k : Nat} (hk : lk M k = none) (v : Int) : GvI (ins M (k, v)) (H ++ [k]) := by
  have hn : k ∉ H := fun e => by have := (h.mem k).1 e; rw [hk] at this; cases this
  refine ⟨?_, fun j => ?_, by rw [ins_length, List.length_append, h.len]; rfl⟩
  · rw [List.nodup_append]
    refine ⟨h.nod, by simp, ?_⟩
    rintro a ha b hb rfl
    simp at hb
    subst hb
    exact hn ha
  · rw [lk_ins hA hk, List.mem_append, h.mem]
    by_cases e : j = k
    · subst e; simp
    · rw [if_neg e]; simp [e]
theorem GvI.drop {M : List (Nat × Int)} {k : Nat} {H : List Nat} (h : GvI M (k :: H)) (hA : Asc M) : (lk M k).isSome = true ∧ GvI (dr M k) H := by
  have hk := (h.mem k).1 (List.mem_cons_self ..)
  obtain ⟨v, hv, hm⟩ := (lk_val hA rfl).1 hk
  have hnd := List.nodup_cons.1 h.nod
  refine ⟨hk, hnd.2, fun j => ?_, by have := dr_length hA hm; have := h.len; simp at this; omega⟩
  rw [lk_dr hA]
  by_cases e : j = k
  · subst e; simp; exact hnd.1
  · rw [if_neg e, ← h.mem]; simp [e]
def hrH (H : List Nat) (k x : Nat) : Bool := (H.take k).any fun y => y == x
theorem hrH_next {H : List Nat} {k x y : Nat} (h : H[k]? = some y) : hrH H (k + 1) x = (hrH H k x || (y == x)) := by
  unfold hrH
  rw [take_snoc h, List.any_append]
  simp
theorem hrH_all {M : List (Nat × Int)} {H : List Nat} (h : GvI M H) (x : Nat) : hrH H H.length x = (lk M x).isSome := by
  unfold hrH
  rw [List.take_length]
  have := h.mem x
  cases hq : (lk M x).isSome with
  | true => rw [hq] at this; simp; exact this.2 rfl
  | false => rw [hq] at this; simp; intro y hy e; subst e; exact absurd (this.1 hy) (by simp)
/-- Between two steps. -/
structure GvS (w wr : World) (p : Ip) (B0 : Nat) (ao : Option Addr) (cap : Nat) (M : List (Nat × Int)) (H : List Nat) : Prop where
  io : ∃ lo, Io wr p M lo
  gv : GvI M H
  qu : Qu wr B0 ao cap H
  gr : w.grownBy wr none
  own : ∀ i, p.own i → w.heap.size ≤ i ∧ i < B0
  sz : B0 ≤ wr.heap.size
  b0 : w.heap.size ≤ B0
section
variable {w wr wr' : World} {p : Ip} {B0 : Nat} {ao ao' : Option Addr} {cap cap' : Nat} {M M' : List (Nat × Int)} {H H' : List Nat} {lo : Bool}
theorem GvS.ix (h : GvS w wr p B0 ao cap M H) (hi : Io wr' p M' lo) (k : Kept wr wr' p.own) (hg : GvI M' H) : GvS w wr' p B0 ao cap M' H :=
  ⟨⟨lo, hi⟩, hg, h.qu.keep k (fun i e => (h.own i e).2), Kept.grown ((Kept.new h.gr (fun i => w.heap.size ≤ i)).trans k (fun i _ e => (h.own i e).1)) (fun i hi e => by omega), h.own, Nat.le_trans h.sz k.size, h.b0⟩
theorem GvS.then (h : GvS w wr p B0 ao cap M H) (g : wr.grownBy wr' none) : GvS w wr' p B0 ao cap M H := by
  obtain ⟨lo, hi⟩ := h.io
  exact h.ix (hi.then g) (Kept.new g _) h.gv
end
set_option maxRecDepth 100000 in
set_option maxHeartbeats 8000000 in
theorem indexGraves_any (n : Int) (ao : Option Addr) (len cap : Nat) (ids : List Nat) (turns : Int) (w : World) (hS : Ids w ao len ids) :
    Calls Try.prog 6 #[.int .i64 n, .slice ao len cap, .int .i64 turns] w fun e w' => e = .returned (.bool true) ∧ w.grownBy w' none := by
  have hmd := fun W => made_any (n.tmod 12) none 0 0 [] W ⟨rfl, (fun j o hj => by simp at hj), fun o ho => by simp at ho⟩
  simp only [List.take_nil] at hmd
  have hpk := fun W => pick_any turns 20 20 W rfl (by decide) (by decide)
  obtain ⟨r20, hr20⟩ : ∃ r20 : Nat, turns % ((20 : Nat) : Int) = (r20 : Int) := ⟨(turns % 20).toNat, by have := Int.emod_nonneg turns (show (20 : Int) ≠ 0 by decide); simp; omega⟩
  have hr2 : r20 < 20 := by have := Int.emod_lt_of_pos turns (show (0 : Int) < 20 by decide); simp at hr20; omega
  rw [hr20] at hpk
  have hb1 := Int.tmod_lt_of_pos n (show (0 : Int) < 12 by decide)
  have hb2 := Int.lt_tmod_of_pos n (show (0 : Int) < 12 by decide)
  obtain ⟨n12, hn12⟩ : ∃ n12, n.tmod 12 = n12 := ⟨_, rfl⟩
  rw [hn12] at hmd hb1 hb2
  have HP := hide hpk
  have HS := hide (And.intro hS hr20)
  have HMD := hide hmd
  clear hpk hS hr20
  have hmd1 := hmd w
  clear hmd
  go_enter Try.func6, Try.ntmps6
  go_wp2_with fail
  refine hmd1.mono ?_
  clear hmd1
  rintro e w2 ⟨p, rfl, hpm, h2, g2, ho⟩
  have hfew := h2.few
  obtain ⟨-, hm2, hm1, -⟩ := hfew
  have S2 : Hid (GvS w w2 p w2.heap.size none 0 [] []) := ⟨⟨_, h2⟩, GvI.nil, Qu.none _ _, g2, fun i hi => ⟨ho i hi, h2.lt i hi⟩, Nat.le_refl _, g2.size⟩
  have HPM := hide (And.intro hpm (And.intro hm1 hm2))
  clear h2 g2 ho hpm
  obtain ⟨B0, hB0⟩ : ∃ B0, B0 = w2.heap.size := ⟨_, rfl⟩
  rw [← hB0] at S2
  clear hB0 hm1 hm2
  go_wp2
  go_loopg [9, 10] 20 (fun q v9 v10 wr => ∃ (t : Nat) (M : List (Nat × Int)) (H : List Nat) (qo : Option Addr) (qc : Nat), v10 = .int .i64 (t : Int) ∧ v9 = .slice qo H.length qc ∧ Hid (q = 20 - t ∧ t ≤ 20 ∧ GvS w wr p B0 qo qc M H ∧ H.length < p.m))
  case atStart => exact ⟨0, [], [], none, 0, rfl, rfl, rfl, by decide, S2.out, by have := HPM.out; simp; omega⟩
  case round =>
    obtain ⟨t, M, H, qo, qc, rfl, rfl, HR⟩ := hrel
    have hpt := HP.out wr
    by_cases hcont : t < r20 ∧ 0 < len
    · obtain ⟨hc1, hc2⟩ := hcont
      have b1 : ((t : Int) < (r20 : Int)) = True := by simp; omega
      have b2 : ((0 : Int) < (len : Int)) = True := by simp; omega
      have b3 : decide (0 < len) = true := by simpa using hc2
      go_wp2_with fail
      refine hpt.mono ?_
      clear hpt
      rintro e wx ⟨rfl, hwx⟩
      obtain rfl := hwx.symm
      go_wp2
      obtain ⟨KO, hKO⟩ : ∃ KO, KO = gk := ⟨_, rfl⟩
      have HKO : Hid (KO = gk ∧ gk = 20 - t ∧ t < 20) := ⟨hKO, HR.out.1, by omega⟩
      have H0 := hide (And.intro HR.out.2.2.1 HR.out.2.2.2)
      clear hKO HR hc1
      go_loopg [9, 11] len (fun q v9 v11 wr => ∃ (i : Nat) (M : List (Nat × Int)) (H : List Nat) (qo : Option Addr) (qc : Nat), v11 = .int .i64 (i : Int) ∧ v9 = .slice qo H.length qc ∧ Hid (q = len - i ∧ i ≤ len ∧ i ≤ 300 ∧ GvS w wr p B0 qo qc M H ∧ H.length < p.m))
      case atStart => exact ⟨0, M, H, qo, qc, rfl, rfl, by simp, Nat.zero_le _, by decide, H0.out.1, H0.out.2⟩
      case round =>
        obtain ⟨i, M, H, qo, qc, rfl, rfl, HI⟩ := hrel
        by_cases hin : i < len ∧ i < 300
        · obtain ⟨hi1, hi2⟩ := hin
          obtain ⟨id, hid⟩ : ∃ id, ids[i]? = some id := ⟨ids[i]'(by rw [HS.out.1.len]; exact hi1), by simp⟩
          obtain ⟨blk, off, rfl, c0⟩ := HS.out.1.at_ i id hid
          have hidk := HS.out.1.ok id (List.mem_of_getElem? hid)
          have HCel : Hid (∀ W : World, w.grownBy W none → W.cell? ⟨blk, off + i, none⟩ = some (.int .u32 (id : Int))) := fun W g => g.cell c0 (by simp)
          have c1 := HCel.out wr HI.out.2.2.2.1.gr
          obtain ⟨lo, hio⟩ := HI.out.2.2.2.1.io
          have hA := hio.asc
          have ht20 := HKO.out.2.2
          have hp := put_io hio id hidk (t : Int) (by omega) (by omega)
          have b4 : ((i : Int) < (len : Int)) = True := by simp; omega
          have b5 : ((i : Int) < 300) = True := by simp; omega
          have hmlen := HI.out.2.2.2.1.gv.len
          have hml : ¬ M.length = p.m := by rw [hmlen]; have := HI.out.2.2.2.2; omega
          have hbi : IntKind.i64.wrap ((i : Int) + 1) = (i : Int) + 1 := by rw [IntKind.wrap_i64]; omega
          have HII := hide (And.intro hi1 (And.intro hi2 hidk))
          clear hid c0 hi1 hmlen hio
          by_cases hth : (lk M id).isSome = true
          case' pos =>
            rw [show putE M id p.m = 7 by simp [putE, hth], show putM M id p.m (t : Int) = M by simp [putM, hth]] at hp
            go_wp2_with fail
            refine hp.mono ?_
            clear hp
            rintro e w5 ⟨rfl, h5, k5⟩
            obtain ⟨M1, hM1⟩ : ∃ M1, M1 = M := ⟨_, rfl⟩
            obtain ⟨H1, hH1⟩ : ∃ H1, H1 = H := ⟨_, rfl⟩
            obtain ⟨qo1, hqo1⟩ : ∃ qo1, qo1 = qo := ⟨_, rfl⟩
            obtain ⟨qc1, hqc1⟩ : ∃ qc1, qc1 = qc := ⟨_, rfl⟩
            have S5 : Hid (GvS w w5 p B0 qo1 qc1 M1 H1 ∧ H1.length ≤ p.m) := by rw [hM1, hH1, hqo1, hqc1]; exact ⟨HI.out.2.2.2.1.ix h5 k5 HI.out.2.2.2.1.gv, Nat.le_of_lt HI.out.2.2.2.2⟩
            rw [← hqo1, ← hqc1, ← hH1]
            clear h5 k5 hM1 hqo1 hqc1
            obtain ⟨HL1, hHL1⟩ : ∃ HL1, HL1 = H1.length := ⟨_, rfl⟩
            rw [← hHL1]
            have HHL := hide hHL1
            clear hHL1 hth hA hml hH1
            go_upto_region 13 with fail
          case' neg =>
            have hk0 : lk M id = none := by cases hq : lk M id with | none => rfl | some u => rw [hq] at hth; exact absurd rfl hth
            rw [show putE M id p.m = 0 by simp [putE, hth, hml], show putM M id p.m (t : Int) = ins M (id, (t : Int)) by simp [putM, hth, hml]] at hp
            go_wp2_with fail
            refine hp.mono ?_
            clear hp
            rintro e w4 ⟨rfl, h4, k4⟩
            have hgv := HI.out.2.2.2.1.gv.put hA hk0 (t : Int)
            have hqu := HI.out.2.2.2.1.qu.keep k4 (fun i e => (HI.out.2.2.2.1.own i e).2)
            have g4 : w.grownBy w4 none := Kept.grown ((Kept.new HI.out.2.2.2.1.gr (fun i => w.heap.size ≤ i)).trans k4 (fun i _ e => (HI.out.2.2.2.1.own i e).1)) (fun i hi e => by omega)
            have c2 := HCel.out w4 g4
            have ga := World.grownBy_alloc w4 (.cells #[.int .u32 (id : Int)] 29) none
            have hcw : (w4.alloc (.cells #[.int .u32 (id : Int)] 29)).cell? ⟨w4.heap.size, 0, none⟩ = some (.int .u32 (id : Int)) := cell_row (show (w4.alloc (.cells #[.int .u32 (id : Int)] 29)).heap[w4.heap.size]? = some (.cells [Value.int .u32 (id : Int)].toArray 29 (0, 0)) from heap_alloc_new w4 _) 0
            have H4 := hide (And.intro h4 (And.intro hgv (And.intro (hqu.grown ga) (And.intro g4 (And.intro ga (And.intro hcw k4.size))))))
            have hB0 : B0 ≤ (w4.alloc (.cells #[.int .u32 (id : Int)] 29)).heap.size := Nat.le_trans HI.out.2.2.2.1.sz (Nat.le_trans k4.size ga.size)
            have hHl : H.length ≤ 1000000 := by have := HI.out.2.2.2.2; have := HPM.out; omega
            have HBH := hide (And.intro hB0 hHl)
            clear h4 k4 hgv hqu g4 ga hcw hk0 hth hA hml hB0 hHl
            go_wp2_with (at_builtin; refine wpList_append_qu rfl (.tmp 63) (.tmp 68) rfl H4.out.2.2.1 rfl ⟨w4.heap.size, 0, none⟩ id rfl H4.out.2.2.2.2.2.1 HBH.out.1 HBH.out.2 ?_)
            intro qo1 qc1 w5 hq5 k5
            obtain ⟨M1, hM1⟩ : ∃ M1, M1 = ins M (id, (t : Int)) := ⟨_, rfl⟩
            obtain ⟨H1, hH1⟩ : ∃ H1, H1 = H ++ [id] := ⟨_, rfl⟩
            have S5 : Hid (GvS w w5 p B0 qo1 qc1 M1 H1 ∧ H1.length ≤ p.m) := by
              rw [hM1, hH1]
              refine ⟨⟨⟨_, (H4.out.1.then H4.out.2.2.2.2.1).far k5 (fun i hi e => by have := (HI.out.2.2.2.1.own i hi).2; omega)⟩, H4.out.2.1, hq5, Kept.grown ((Kept.new (grown_trans H4.out.2.2.2.1 H4.out.2.2.2.2.1) (fun i => w.heap.size ≤ i)).trans k5 (fun i _ e => Nat.le_trans HI.out.2.2.2.1.b0 e)) (fun i hi e => by omega), HI.out.2.2.2.1.own, Nat.le_trans HBH.out.1 k5.size, HI.out.2.2.2.1.b0⟩, ?_⟩
              rw [List.length_append]
              have := HI.out.2.2.2.2
              simp
              omega
            have hlen1 : H.length + 1 = H1.length := by rw [hH1]; simp
            rw [hlen1]
            clear hq5 k5 hM1 H4 HBH c2 hlen1 hH1
            obtain ⟨HL1, hHL1⟩ : ∃ HL1, HL1 = H1.length := ⟨_, rfl⟩
            rw [← hHL1]
            have HHL := hide hHL1
            clear hHL1
            go_upto_region 13 with fail
          all_goals
            have hpm := S5.out.1.io
            obtain ⟨lo5, hio5⟩ := hpm
            have hmost := hio5.most
            have HA5 := hide hio5.asc
            clear hio5
            obtain ⟨dp, hdp⟩ : ∃ dp : Bool, dp = (decide (HL1 = p.m) || (decide (0 < HL1) && decide ((i + t) % 3 = 0))) := ⟨_, rfl⟩
            have HDP := hide hdp
            clear hdp
            go_cut [86] from 70 to 86 (fun s86 wx => s86 = .bool dp ∧ wx = w5)
            case first =>
              have htm : ((i : Int) + (t : Int)).tmod 3 = (((i + t) % 3 : Nat) : Int) := by rw [Int.tmod_eq_emod_of_nonneg (by omega)]; omega
              have hsm : IntKind.i64.wrap ((i : Int) + (t : Int)) = (i : Int) + (t : Int) := by rw [IntKind.wrap_i64]; omega
              by_cases h1 : HL1 = p.m
              · have hb : ((HL1 : Int) == (p.m : Int)) = true := by simp; omega
                have hres : dp = true := by rw [HDP.out]; simp [h1]
                rw [← h1] at hmost
                clear h1
                go_wp2_with fail
                refine hmost.mono ?_
                clear hmost
                rintro e wx ⟨rfl, hwx⟩
                obtain rfl := hwx.symm
                go_wp2
                go_meet
                case rel => exact ⟨by rw [hres], rfl⟩
              · have hb : ((HL1 : Int) == (p.m : Int)) = false := by simp; omega
                have hb' : decide ((HL1 : Int) = (p.m : Int)) = false := by simp; omega
                by_cases h2 : 0 < HL1
                · have hb2 : decide (0 < HL1) = true := by simpa using h2
                  have hb3 : ((0 : Int) < (HL1 : Int)) = True := by simp; omega
                  by_cases h3 : (i + t) % 3 = 0
                  · have hres : dp = true := by rw [HDP.out]; simp [h2, h3]
                    rw [h3] at htm
                    clear h1 h2 h3
                    generalize p.m = pm at *
                    go_wp2_with fail
                    refine hmost.mono ?_
                    clear hmost
                    rintro e wx ⟨rfl, hwx⟩
                    obtain rfl := hwx.symm
                    go_wp2
                    go_meet
                    case rel => exact ⟨by rw [hres], rfl⟩
                  · have hres : dp = false := by rw [HDP.out]; simp [h1, h3]
                    obtain ⟨md, hmd⟩ : ∃ md, md = (i + t) % 3 := ⟨_, rfl⟩
                    rw [← hmd] at htm h3
                    have hb4 : ((md : Int) == 0) = false := by simp; omega
                    have hb5 : decide ((md : Int) = 0) = false := by simp; omega
                    clear h1 h2 h3 hmd
                    generalize p.m = pm at *
                    go_wp2_with fail
                    refine hmost.mono ?_
                    clear hmost
                    rintro e wx ⟨rfl, hwx⟩
                    obtain rfl := hwx.symm
                    go_wp2
                    go_meet
                    case rel => exact ⟨by rw [hres], rfl⟩
                · have hb2 : decide (0 < HL1) = false := by simpa using h2
                  have hb3 : ((0 : Int) < (HL1 : Int)) = False := by simp; omega
                  have hres : dp = false := by rw [HDP.out]; simp [h1, h2]
                  clear h1 h2
                  generalize p.m = pm at *
                  go_wp2_with fail
                  refine hmost.mono ?_
                  clear hmost
                  rintro e wx ⟨rfl, hwx⟩
                  obtain rfl := hwx.symm
                  go_wp2
                  go_meet
                  case rel => exact ⟨by rw [hres], rfl⟩
            case rest =>
            obtain ⟨rfl, hwc⟩ := hcut
            subst hwc
            clear hmost
            by_cases hdt : dp = true
            case' pos =>
              rw [hdt]
              have hne : 0 < HL1 := by
                have h1 := HDP.out
                rw [hdt] at h1
                simp at h1
                have := HPM.out
                omega
              obtain ⟨h0, H2, hH2⟩ : ∃ h0 H2, H1 = h0 :: H2 := by
                cases H1 with
                | nil => have := HHL.out; simp at this; omega
                | cons a r => exact ⟨a, r, rfl⟩
              rw [hH2] at S5 HHL
              obtain ⟨g, of, hqo, cel⟩ := S5.out.1.qu.cell (j := 0) (u := h0) rfl
              rw [Nat.add_zero] at cel
              subst hqo
              obtain ⟨lo6, hio6⟩ := S5.out.1.io
              obtain ⟨hd1, hd2⟩ := S5.out.1.gv.drop HA5.out
              have hh0 : h0 < 4294967296 := by
                obtain ⟨v, _, hm⟩ := (lk_val HA5.out rfl).1 hd1
                exact (hio6.ids _ hm).1
              have hdr := drop_io hio6 h0 hh0
              rw [hd1] at hdr
              have hqc := S5.out.1.qu.le
              simp only [List.length_cons] at hqc
              have hsl := slice_tail g of HL1 qc1 (by omega) (by have := HHL.out; simp at this; omega)
              have hb0 : ((0 : Int) < (HL1 : Int)) = True := by simp; omega
              have HD := hide (And.intro hd2 (And.intro hne hH2))
              clear hd1 hd2 hio6 hqc hdt hH2
              go_wp2_with fail
              refine hdr.mono ?_
              clear hdr
              rintro e w7 ⟨rfl, h7, k7⟩
              have S6 : Hid (GvS w w7 p B0 (some ⟨g, of, none⟩) qc1 (dr M1 h0) (h0 :: H2) → True) := fun _ => trivial
              have q7 := (S5.out.1.qu.keep k7 (fun i e => (S5.out.1.own i e).2)).tail
              have g7 : w.grownBy w7 none := Kept.grown ((Kept.new S5.out.1.gr (fun i => w.heap.size ≤ i)).trans k7 (fun i _ e => (S5.out.1.own i e).1)) (fun i hi e => by omega)
              generalize (if qc1 = 1 then some (⟨g, of, none⟩ : Addr) else some ⟨g, of + 1, none⟩) = qo2 at hsl q7
              obtain ⟨qc2, hqc2⟩ : ∃ qc2, qc2 = qc1 - 1 := ⟨_, rfl⟩
              obtain ⟨HL2, hHL2⟩ : ∃ HL2, HL2 = HL1 - 1 := ⟨_, rfl⟩
              rw [← hqc2] at q7
              rw [← hqc2, ← hHL2] at hsl
              obtain ⟨M2, hM2⟩ : ∃ M2, M2 = dr M1 h0 := ⟨_, rfl⟩
              have S7 : Hid (GvS w w7 p B0 qo2 qc2 M2 H2 ∧ H2.length < p.m ∧ HL2 = H2.length) := by
                rw [hM2]
                refine ⟨⟨⟨_, h7⟩, HD.out.1, q7, g7, S5.out.1.own, Nat.le_trans S5.out.1.sz k7.size, S5.out.1.b0⟩, ?_, ?_⟩
                · have := S5.out.2; simp at this; omega
                · have := HHL.out; simp at this; omega
              clear h7 k7 q7 g7 hqc2 hHL2 hM2 hne S6
              go_upto_region 17 with fail
            case' neg =>
              have hdf : dp = false := by cases dp with | true => exact absurd rfl hdt | false => rfl
              rw [hdf]
              obtain ⟨qo2, hqo2⟩ : ∃ qo2, qo2 = qo1 := ⟨_, rfl⟩
              obtain ⟨qc2, hqc2⟩ : ∃ qc2, qc2 = qc1 := ⟨_, rfl⟩
              obtain ⟨HL2, hHL2⟩ : ∃ HL2, HL2 = HL1 := ⟨_, rfl⟩
              obtain ⟨M2, hM2⟩ : ∃ M2, M2 = M1 := ⟨_, rfl⟩
              obtain ⟨H2, hH2⟩ : ∃ H2, H2 = H1 := ⟨_, rfl⟩
              obtain ⟨w7, hw7⟩ : ∃ w7, w7 = wc := ⟨_, rfl⟩
              have S7 : Hid (GvS w w7 p B0 qo2 qc2 M2 H2 ∧ H2.length < p.m ∧ HL2 = H2.length) := by
                rw [hqo2, hqc2, hHL2, hM2, hH2, hw7]
                refine ⟨S5.out.1, ?_, HHL.out⟩
                have h1 := HDP.out
                rw [hdf] at h1
                have h2 : ¬ HL1 = p.m := fun e => by rw [e] at h1; simp at h1
                have h3 := S5.out.2
                have h4 := HHL.out
                omega
              rw [← hqo2, ← hqc2, ← hHL2, ← hw7]
              clear hqo2 hqc2 hHL2 hM2 hH2 hw7 hdt hdf
              go_upto_region 17 with fail
            all_goals
              obtain ⟨lo7, hio7⟩ := S7.out.1.io
              have c7 := HCel.out _ S7.out.1.gr
              have hget := get_io hio7 id HII.out.2.2
              have hall := hrH_all S7.out.1.gv id
              rw [← hall, ← S7.out.2.2] at hget
              have HAL := hide hall
              clear hio7 hall
              generalize (lk M2 id).getD 0 = gv0 at *
              go_wp2_with fail
              refine hget.mono ?_
              clear hget
              rintro e w8 ⟨rfl, h8, k8⟩
              have S8 : Hid (GvS w w8 p B0 qo2 qc2 M2 H2) := S7.out.1.ix h8 k8 S7.out.1.gv
              clear h8 k8 c7
              obtain ⟨KI, hKI⟩ : ∃ KI, KI = gk := ⟨_, rfl⟩
              have HKI : Hid (KI = gk ∧ gk = len - i) := ⟨hKI, HI.out.1⟩
              clear hKI
              go_wp2
              go_loopg [14, 15] HL2 (fun q v14 v15 wr => ∃ k : Nat, v15 = .int .i64 (k : Int) ∧ v14 = .bool (hrH H2 k id) ∧ k ≤ HL2 ∧ Hid (q = HL2 - k ∧ w8.grownBy wr none))
              case atStart => exact ⟨0, rfl, rfl, Nat.zero_le _, by simp, grown_refl _ _⟩
              case round =>
                obtain ⟨k, rfl, rfl, hkL, HG⟩ := hrel
                by_cases hk : k < HL2
                · obtain ⟨y, hy⟩ : ∃ y, H2[k]? = some y := ⟨H2[k]'(by rw [← S7.out.2.2]; exact hk), by simp⟩
                  obtain ⟨g9, of9, hq9, z1⟩ := (S8.out.qu.grown HG.out.2).cell hy
                  subst hq9
                  have z2 := HCel.out _ (grown_trans S8.out.gr HG.out.2)
                  have HN := hide (hrH_next (x := id) hy)
                  have b6 : ((k : Int) < (HL2 : Int)) = True := by simp; omega
                  have hHL9 : HL2 ≤ 4096 := by have := S7.out.2.1; have := S7.out.2.2; have := HPM.out; omega
                  have b7 : IntKind.i64.wrap ((k : Int) + 1) = (k : Int) + 1 := by rw [IntKind.wrap_i64]; omega
                  have hi9 : i < len := HII.out.1
                  clear hy
                  have hgk : gk - 1 < gk := by have := HG.out.1; omega
                  generalize hrH H2 k id = b9 at *
                  cases b9 with
                  | true =>
                    go_wp2
                    go_quiet (fail)
                    go_wp2
                    go_roundg (gk - 1)
                    case rel => exact ⟨k + 1, by simp, by rw [HN.out]; rfl, by omega, by have := HG.out.1; omega, grown_trans HG.out.2 (grown_drewN _ _ _)⟩
                    case measure => exact hgk
                  | false =>
                    by_cases hyi : y = id
                    · subst hyi
                      go_wp2
                      go_quiet (fail)
                      go_wp2
                      go_roundg (gk - 1)
                      case rel => exact ⟨k + 1, by simp, by rw [HN.out]; simp, by omega, by have := HG.out.1; omega, grown_trans HG.out.2 (grown_drewN _ _ _)⟩
                      case measure => exact hgk
                    · have d1 : ((y : Int) == (id : Int)) = false := by simp; omega
                      have d2 : decide ((y : Int) = (id : Int)) = false := by simp; omega
                      have HYI := hide hyi
                      clear hyi
                      go_wp2
                      go_quiet (fail)
                      go_wp2
                      go_roundg (gk - 1)
                      case rel => exact ⟨k + 1, by simp, by rw [HN.out]; simp [HYI.out], by omega, by have := HG.out.1; omega, grown_trans HG.out.2 (grown_drewN _ _ _)⟩
                      case measure => exact hgk
                · obtain rfl : k = HL2 := by omega
                  have b6 : ((k : Int) < (k : Int)) = False := by simp
                  have S9 := hide (S8.out.then HG.out.2)
                  obtain ⟨lo9, hio9⟩ := S9.out.io
                  have hln := hio9.len
                  rw [S9.out.gv.len, ← S7.out.2.2] at hln
                  clear hio9 hk HG
                  generalize hrH H2 k id = b9 at *
                  have hbb : ∀ W, (binOp .neq 4 (.bool b9) (.bool b9)).run Try.prog W = .ok (.bool false) W := fun W => by cases b9 <;> kernel_rfl
                  go_wp2_with fail
                  refine hln.mono ?_
                  clear hln
                  rintro e wx ⟨rfl, hwx⟩
                  obtain rfl := hwx.symm
                  go_wp2
                  go_roundg (KI - 1)
                  case rel => exact ⟨i + 1, M2, H2, _, qc2, by simp, by rw [← S7.out.2.2], by have := HKI.out; omega, by have := HII.out.1; omega, by have := HII.out.2.1; omega, S9.out, S7.out.2.1⟩
                  case measure => have := HKI.out; have := HII.out.1; omega
        · have ht1 : IntKind.i64.wrap ((t : Int) + 1) = (t : Int) + 1 := by have := HKO.out.2.2; rw [IntKind.wrap_i64]; omega
          by_cases hi1 : i < len
          · have b4 : ((i : Int) < (len : Int)) = True := by simp; omega
            have b5 : ((i : Int) < 300) = False := by simp; omega
            clear hin hi1
            go_wp2
            go_roundg (KO - 1)
            case rel => exact ⟨t + 1, M, H, qo, qc, by simp, rfl, by have := HKO.out; omega, by have := HKO.out; omega, HI.out.2.2.2.1, HI.out.2.2.2.2⟩
            case measure => have := HKO.out; omega
          · have b4 : ((i : Int) < (len : Int)) = False := by simp; omega
            clear hin hi1
            go_wp2
            go_roundg (KO - 1)
            case rel => exact ⟨t + 1, M, H, qo, qc, by simp, rfl, by have := HKO.out; omega, by have := HKO.out; omega, HI.out.2.2.2.1, HI.out.2.2.2.2⟩
            case measure => have := HKO.out; omega
    · have HSt := hide (And.intro HR.out.2.2.1 HR.out.2.2.2)
      clear HR
      have hm0 := HMD.out wr
      obtain ⟨HL, hHL⟩ : ∃ HL, HL = H.length := ⟨_, rfl⟩
      rw [← hHL]
      have HHL := hide hHL
      have hHL9 : HL ≤ 4096 := by have := HSt.out.2; have := HPM.out; omega
      clear hHL
      by_cases hc1 : t < r20
      case' pos =>
        have b1 : ((t : Int) < (r20 : Int)) = True := by simp; omega
        have b2 : ((0 : Int) < (len : Int)) = False := by simp; omega
        have b3 : decide (0 < len) = false := by simp; omega
        clear hcont hc1
        go_wp2_with fail
        refine hpt.mono ?_
        clear hpt
        rintro e wx ⟨rfl, hwx⟩
        obtain rfl := hwx.symm
        go_upto_region 25 with fail
      case' neg =>
        have b1 : ((t : Int) < (r20 : Int)) = False := by simp; omega
        clear hcont hc1
        go_wp2_with fail
        refine hpt.mono ?_
        clear hpt
        rintro e wx ⟨rfl, hwx⟩
        obtain rfl := hwx.symm
        go_upto_region 25 with fail
      all_goals
        go_wp2_with fail
        refine hm0.mono ?_
        clear hm0
        rintro e w3 ⟨y, rfl, hym, hy3, g3, hyo⟩
        have hpy : y.m = p.m := by have h1 := HPM.out.1; rw [← hym] at h1; omega
        have S3 := hide (HSt.out.1.then g3)
        have HY : Hid (Io w3 y [] false ∧ (∀ i, y.own i → wr.heap.size ≤ i) ∧ y.m = p.m) := ⟨hy3, hyo, hpy⟩
        have hsz3 := g3.size
        clear hym hy3 g3 hyo hpy
        have hsub : IntKind.i64.wrap ((HL : Int) - 1) = (HL : Int) - 1 := by rw [IntKind.wrap_i64]; omega
        go_wp2
        go_loopg [17] HL (fun q v17 ws => v17 = .int .i64 ((q : Int) - 1) ∧ q ≤ HL ∧ Hid (GvS w ws p B0 qo qc M H ∧ ∃ N2 lo2, Io ws y N2 lo2 ∧ (∀ j, lk N2 j = if j ∈ H.drop q then lk M j else none) ∧ N2.length = HL - q))
        case atStart => exact ⟨rfl, Nat.le_refl _, S3.out, [], false, HY.out.1, (fun j => by rw [HHL.out, List.drop_length]; simp [lk]), by simp⟩
        case round =>
          obtain ⟨rfl, hqL, HQ⟩ := hrel
          rcases Nat.eq_zero_or_pos gk with hz | hz
          · subst hz
            obtain ⟨S4, N2, lo2, hy4, hlk, hlen⟩ := HQ.out
            rw [List.drop_zero] at hlk
            obtain ⟨lo4, hx4⟩ := S4.io
            have heq : N2 = M := by
              refine asc_ext hy4.asc hx4.asc (fun x => ?_)
              have h1 := lk_some hy4.asc (k := x.1) (v := x.2)
              have h2 := lk_some hx4.asc (k := x.1) (v := x.2)
              rw [← h1, ← h2, hlk x.1]
              by_cases hm : x.1 ∈ H
              · rw [if_pos hm]
              · rw [if_neg hm]
                have := S4.gv.mem x.1
                cases hq : lk M x.1 with
                | none => rfl
                | some u => rw [hq] at this; exact absurd (this.2 rfl) hm
            subst heq
            have ht1 := told_io hx4
            have H4 := hide (And.intro S4 (And.intro hy4 hx4.short))
            clear S4 hy4 hlk hlen hx4 HQ
            go_wp2_with fail
            refine ht1.mono ?_
            clear ht1
            rintro e w5 ⟨v1, u1, rfl, a1, a2, g5⟩
            have ht2 := told_io (H4.out.2.1.then g5)
            have H5 := hide (And.intro a1 (And.intro a2 (grown_trans H4.out.1.gr g5)))
            clear a1 a2 g5
            go_wp2_with fail
            refine ht2.mono ?_
            clear ht2
            rintro e w6 ⟨v2, u2, rfl, a3, a4, g6⟩
            have hs1 := sameLimbs_any (own_grown H5.out.1 g6) a3 H4.out.2.2
            have H6 := hide (And.intro (own_grown H5.out.2.1 g6) (And.intro a4 (grown_trans H5.out.2.2 g6)))
            clear a3 a4 g6
            go_wp2_with fail
            refine hs1.mono ?_
            clear hs1
            rintro e w7 ⟨rfl, g7⟩
            have hs2 := sameInts_any (own_grown H6.out.1 g7) (own_grown H6.out.2.1 g7) H4.out.2.2
            have H7 := hide (grown_trans H6.out.2.2 g7)
            clear g7
            go_wp2_with fail
            refine hs2.mono ?_
            clear hs2
            rintro e w8 ⟨rfl, g8⟩
            have H8 := hide (grown_trans H7.out g8)
            clear g8
            go_wp2_with fail
            refine (awake_any _).mono ?_
            rintro e w9 ⟨rfl, g9⟩
            have H9 := hide (grown_trans H8.out g9)
            clear g9
            go_wp2
            go_ret
            exact ⟨rfl, H9.out⟩
          · obtain ⟨j, rfl⟩ : ∃ j, gk = j + 1 := ⟨gk - 1, by omega⟩
            rw [show (((j + 1 : Nat) : Int)) - 1 = (j : Int) by omega]
            obtain ⟨S4, N2, lo2, hy4, hlk, hlen⟩ := HQ.out
            obtain ⟨x, hx⟩ : ∃ x, H[j]? = some x := ⟨H[j]'(by rw [← HHL.out]; omega), by simp⟩
            obtain ⟨g9, of9, hq9, z1⟩ := S4.qu.cell hx
            obtain ⟨lo4, hx4⟩ := S4.io
            have hxm := (S4.gv.mem x).1 (List.mem_of_getElem? hx)
            obtain ⟨xv, hxv, hxin⟩ := (lk_val hx4.asc rfl).1 hxm
            have hxb := hx4.ids _ hxin
            have hget := get_io hx4 x hxb.1
            rw [hxv] at hget
            simp only [Option.getD, Option.isSome] at hget
            have hdrop : H.drop j = x :: H.drop (j + 1) := by
              rw [List.drop_eq_getElem_cons (by rw [← HHL.out]; omega)]
              congr 1
              have := (List.getElem?_eq_some_iff.1 hx).2
              exact this
            have hnin : x ∉ H.drop (j + 1) := by
              have hnd : (H.drop j).Nodup := List.Sublist.nodup (List.drop_sublist j H) S4.gv.nod
              rw [hdrop] at hnd
              exact (List.nodup_cons.1 hnd).1
            have H4 := hide (And.intro S4 (And.intro hy4 (And.intro hlk (And.intro hlen (And.intro hdrop (And.intro hnin (And.intro hxv hxb)))))))
            subst hq9
            have b6 : ((0 : Int) ≤ (j : Int)) = True := by simp
            have b7 : ((j : Int) < (HL : Int)) = True := by simp; omega
            have b8 : IntKind.i64.wrap ((j : Int) - 1) = (j : Int) - 1 := by rw [IntKind.wrap_i64]; omega
            have hjL : j < HL := by omega
            clear S4 hy4 hlk hlen hx hx4 hxm hxin hxb hdrop hnin hxv HQ hz hqL
            go_wp2_with fail
            refine hget.mono ?_
            clear hget
            rintro e w5 ⟨rfl, h5, k5⟩
            have S5 := hide (H4.out.1.ix h5 k5 H4.out.1.gv)
            have hsepy : ∀ i, p.own i → ¬ y.own i := fun i hi e => by have h1 := HSt.out.1.sz; have h2 := (HSt.out.1.own i hi).2; have h3 := HY.out.2.1 i e; omega
            have hy5 := H4.out.2.1.far k5 (fun i hi e => hsepy i e hi)
            obtain ⟨g9', of9', hq9', z2⟩ := S5.out.qu.cell (j := j) (u := x) (by
              have := H4.out.2.2.2.2.1
              have h2 : (H.drop j)[0]? = some x := by rw [this]; rfl
              rw [List.getElem?_drop] at h2
              simpa using h2)
            cases hq9'
            have hlx : lk N2 x = none := by rw [H4.out.2.2.1, if_neg H4.out.2.2.2.2.2.1]
            have hput := put_io hy5 x H4.out.2.2.2.2.2.2.2.1 xv H4.out.2.2.2.2.2.2.2.2.1 H4.out.2.2.2.2.2.2.2.2.2
            have hnl : ¬ N2.length = y.m := by rw [H4.out.2.2.2.1, HY.out.2.2]; have := HSt.out.2; have := HHL.out; omega
            rw [show putE N2 x y.m = 0 by simp [putE, hlx, hnl], show putM N2 x y.m xv = ins N2 (x, xv) by simp [putM, hlx, hnl]] at hput
            have H5 := hide (And.intro hlx (And.intro hsepy hy5.asc))
            clear h5 k5 hy5 hlx hnl hsepy z1
            go_wp2_with fail
            refine hput.mono ?_
            clear hput
            rintro e w6 ⟨rfl, h6, k6⟩
            have S6 : Hid (GvS w w6 p B0 (some ⟨g9, of9, none⟩) qc M H) := by
              obtain ⟨lo5, hx5⟩ := S5.out.io
              refine ⟨⟨lo5, hx5.far k6 (fun i hi e => H5.out.2.1 i hi e)⟩, S5.out.gv, ⟨S5.out.qu.le, S5.out.qu.nil, fun a e => ?_⟩, ?_, S5.out.own, Nat.le_trans S5.out.sz k6.size, S5.out.b0⟩
              · obtain ⟨g, off, cur, h1, h2, h3, h4, h5⟩ := HSt.out.1.qu.row a e
                obtain ⟨g', off', cur', h1', h2', h3', h4', h5'⟩ := S5.out.qu.row a e
                rw [h1] at h1'
                cases h1'
                exact ⟨g, off, cur', h1, h2', k6.at h3' (fun e => by have := HY.out.2.1 _ e; have := row_lt h3; omega), h4', h5'⟩
              · exact Kept.grown ((Kept.new S5.out.gr (fun i => w.heap.size ≤ i)).trans k6 (fun i _ e => Nat.le_trans HSt.out.1.gr.size (HY.out.2.1 i e))) (fun i hi e => by omega)
            have H6 := hide h6
            clear h6 k6
            go_wp2
            go_roundg j
            case rel =>
              refine ⟨rfl, by omega, S6.out, _, true, H6.out, fun q => ?_, ?_⟩
              · rw [lk_ins H5.out.2.2 H5.out.1, H4.out.2.2.1, H4.out.2.2.2.2.1]
                by_cases hqx : q = x
                · subst hqx
                  rw [if_pos rfl, if_pos (List.mem_cons_self ..), H4.out.2.2.2.2.2.2.1]
                · rw [if_neg hqx]
                  simp [hqx]
              · rw [ins_length, H4.out.2.2.2.1]; omega
            case measure => omega
end Go.Proofs.Ytoocaioilpgmeaa
