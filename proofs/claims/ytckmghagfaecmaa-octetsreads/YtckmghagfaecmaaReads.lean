/- OctetsReads' walk. -/
import Derived.Test.YtckmghagfaecmaaRef2
import Derived.Test.YtckmghagfaecmaaBack
namespace Go.Proofs.Ytckmghagfaecmaa
open Go.RowKit
attribute [local go_sem ↓] Go.wp_at_zero Go.wp_at_succ

/-- The program's reader and the document's stand alike. -/
structure Sync (w wr : World) (B d : Nat) (b : List Int) (bo : Option Addr) (cap at_ : Nat) (xs : List Int) (e : Int) : Prop where
  rd : RdAt wr B xs e
  rf : RfAt wr d b bo cap at_ e
  rest : restF b at_ e = xs
  byt : Byt b
  grown : w.grownBy wr none
  loB : w.heap.size ≤ B
  loD : w.heap.size ≤ d
  ne : B ≠ d
  offB : b ≠ [] → Off bo B
  offD : b ≠ [] → Off bo d
theorem Sync.kept {w wr w1 : World} {B d cap at_ : Nat} {b xs : List Int} {bo : Option Addr} {e : Int} (h : Sync w wr B d b bo cap at_ xs e) (hg : wr.grownBy w1 none) : Sync w w1 B d b bo cap at_ xs e :=
  ⟨h.rd.kept hg (by simp) (NoBytes.none _), h.rf.kept0 hg, h.rest, h.byt, grown_trans h.grown hg, h.loB, h.loD, h.ne, h.offB, h.offD⟩
theorem Sync.xbyt {w wr : World} {B d cap at_ : Nat} {b xs : List Int} {bo : Option Addr} {e : Int} (h : Sync w wr B d b bo cap at_ xs e) : Byt xs := by
  rw [← h.rest]; unfold restF; split
  · exact h.byt.drop _
  · intro x hx; cases hx
theorem Sync.xlen {w wr : World} {B d cap at_ : Nat} {b xs : List Int} {bo : Option Addr} {e : Int} (h : Sync w wr B d b bo cap at_ xs e) : xs.length ≤ b.length := by
  rw [← h.rest]; unfold restF; split <;> simp
/-- Both have taken n bytes. -/
theorem Sync.took {w wr w1 w2 : World} {B d cap at_ : Nat} {b xs : List Int} {bo : Option Addr} {e n : Int} {v : Value} (h : Sync w wr B d b bo cap at_ xs e) (h1 : RdAt w1 B (takeF xs e n).2.1 (takeF xs e n).2.2) (hg1 : wr.grownBy w1 (some B)) (h2 : DTook w1 w2 d b bo cap at_ e n v) :
    ∃ at', Sync w w2 B d b bo cap at' (takeF xs e n).2.1 (takeF xs e n).2.2 := by
  obtain ⟨at', e', hown, hrf, hg2, hr, he⟩ := h2
  rw [h.rest] at hr he
  have hrf1 := h.rf.kept hg1 h.ne h.offB
  refine ⟨at', h1.kept hg2 (by simpa using h.ne.symm) (NoBytes.of hrf1.1 (by decide)), by rw [← he]; exact hrf, by rw [← he, hr], h.byt, ?_, h.loB, h.loD, h.ne, h.offB, h.offD⟩
  exact grown_then (grown_then h.grown hg1 (fun k e => by cases e; exact Or.inl h.loB)) hg2 (fun k e => by cases e; exact Or.inl h.loD)

theorem took_own {w5 w6 : World} {d cap at_ ng : Nat} {b xs G : List Int} {bo : Option Addr} {e n : Int} {v : Value} (h : DTook w5 w6 d b bo cap at_ e n v) (hr : restF b at_ e = xs) (hG : (takeF xs e n).1 = G) (hn : G.length = ng) :
    w6.ownsRow w5.heap.size 5 1 v ng (G.map (Value.int .u8)) ∧ w5.grownBy w6 (some d) := by
  obtain ⟨at', e', hown, _, hg, _⟩ := h
  rw [hr, hG, hn] at hown
  exact ⟨hown, hg⟩

set_option maxHeartbeats 8000000 in
set_option maxRecDepth 100000 in
theorem reads_any (bo : Option Addr) (n cap : Nat) (b : List Int) (so : Option Addr) (m scap : Nat) (os : List OpD) (w : World) (hbl : b.length = n) (hB : BAt w bo cap b) (hbb : Byt b) (hbs : n ≤ 140737488355000)
    (hn : os.length = m) (hat : OpsAt w so os) (hok : ∀ o ∈ os, OpOk o) (hms : m ≤ 4611686018427387904) :
    Calls Try.prog 5 #[.slice bo n cap, .slice so m scap] w fun e w' => e = .returned (.bool true) ∧ w.grownBy w' none := by
  have hnil : bo = none → n = 0 ∧ cap = 0 := fun e => by have h1 := hB.2.2.2 e; have h2 := hB.2.1; omega
  have HBL := hide hbl
  have HB := hide hB
  have HO := hide (And.intro hn (And.intro hat hok))
  clear hbl hB hn hat hok
  go_enter Try.func5, Try.ntmps5
  go_wp2_with fail
  refine (lent_any bo n cap b _ HBL.out HB.out.1 hnil hbs).mono ?_
  rintro e w1 ⟨v1, rfl, hlent, hg1⟩
  obtain ⟨gL, capL, rfl, hL1, hL2, hL3, hL4, hLat, cur, hLc, hLs⟩ := hlent.all
  rw [HBL.out] at hL1 ⊢
  have HL := hide (And.intro hg1 (And.intro hLat (And.intro hLc hLs)))
  clear hg1 hLat hLc hLs hlent
  go_wp2_with fail
  refine (of_lo (some ⟨gL, 0, none⟩) n capL b _ HBL.out (fun j u hu => HL.out.2.1 j u (by rw [List.getElem?_append_left (List.getElem?_eq_some_iff.1 hu).1, hu])) (fun e => by cases e) (by omega)).mono ?_
  rintro e w2 ⟨B, rfl, hBlo, hR2, hg2, hlo⟩
  have HR2 := hide (And.intro hR2 (And.intro hg2 hlo))
  have hgLB : gL ≠ B := by omega
  clear hR2 hg2 hlo
  go_wp2_with fail
  refine (kept_any gL capL bo n cap b _ HBL.out hL1 hL2 (HL.out.2.1.kept HR2.out.2.1 (by simp)) ((HB.out.1.kept HL.out.1 (by simp)).kept HR2.out.2.1 (by simp)) (by omega)).mono ?_
  rintro e w3 ⟨rfl, hg3⟩
  have HK3 := hide hg3
  clear hg3
  go_wp2_with fail
  refine (over_any gL capL n _ ⟨cur, (HK3.out.block gL (Nat.lt_of_lt_of_le hL4 HR2.out.2.1.size) (by simp)).trans ((HR2.out.2.1.block gL hL4 (by simp)).trans HL.out.2.2.1), HL.out.2.2.2⟩ hL1 hL2 (by omega)).mono ?_
  rintro e w4 ⟨rfl, hg4⟩
  have hR3 := HR2.out.1.kept HK3.out (by simp) (NoBytes.none _)
  have hR4 := hR3.keptLo (HR2.out.2.2.kept HR2.out.1 HK3.out (by simp)) hg4 hL4 hgLB
  have hgA : w.grownBy w3 none := grown_trans (grown_trans HL.out.1 HR2.out.2.1) HK3.out
  have hgB : w.grownBy w4 none := grown_then hgA hg4 (fun k e => by cases e; exact Or.inl hL3)
  have hB4 := HB.out.kept hgB
  have hBw : w.heap.size ≤ B := Nat.le_trans HL.out.1.size hBlo
  have H4 := hide (And.intro hR4 (And.intro hgB hB4))
  have HOB := hide (at_off HB.out.1 hBw)
  clear hR3 hR4 hgA hgB hB4 hg4
  obtain ⟨ps, hps⟩ : ∃ ps, ps = os.take 2000 := ⟨_, rfl⟩
  obtain ⟨M, hM⟩ : ∃ M, M = ps.length := ⟨_, rfl⟩
  have hMm : M ≤ m := by have := HO.out.1; rw [hM, hps]; simp; omega
  have hM2 : M ≤ 2000 := by rw [hM, hps]; simp; omega
  have hM3 : M < m → M = 2000 := by intro h; have := HO.out.1; rw [hM, hps] at h ⊢; simp at h ⊢; omega
  have hps2 : ∀ j o, ps[j]? = some o → (∃ blk off bo cap, so = some ⟨blk, off, none⟩ ∧ OpAt w blk (off + j * 4) o bo cap) := by
    intro j o ho
    refine HO.out.2.1 j o ?_
    rw [hps, List.getElem?_take] at ho
    split at ho
    · exact ho
    · cases ho
  have HP := hide (And.intro hM hps2)
  clear hps hM hps2 HO
  have hbs2 : b.length ≤ 140737488355328 := by rw [HBL.out]; omega
  have HBS := hide hbs2
  go_wp2
  obtain ⟨d, hd⟩ : ∃ d, d = w4.heap.size := ⟨_, rfl⟩
  rw [← hd]
  have hS0 : Sync w (w4.alloc (.cells #[.slice bo n cap, .int .i64 0, .int .i64 0] 62)) B d b bo cap 0 b 0 := by
    obtain ⟨hR4, hgB, hB4⟩ := H4.out
    have hga := World.grownBy_alloc w4 (.cells #[.slice bo n cap, .int .i64 0, .int .i64 0] 62) none
    refine ⟨hR4.kept hga (by simp) (NoBytes.none _), ⟨?_, hB4.kept hga, Nat.zero_le _⟩, by simp [restF], hbb, grown_trans hgB hga, hBw, by rw [hd]; exact hgB.size, by rw [hd]; exact Nat.ne_of_lt hR4.lt, HOB.out, by rw [hd]; exact at_off hB4.1 (Nat.le_refl _)⟩
    rw [hd, HBL.out]; exact heap_alloc_new w4 _
  have HS0 := hide hS0
  clear hS0 hd H4
  go_loopg [9] M (fun k i wr => ∃ (j at_ : Nat) (xs : List Int) (e : Int), k + j = M ∧ i = .int .i64 j ∧ Sync w wr B d b bo cap at_ xs e)
  case atStart => exact ⟨0, 0, b, 0, by omega, rfl, HS0.out⟩
  case round =>
    obtain ⟨j, at_, xs, e, hkj, rfl, hsy⟩ := hrel
    by_cases hk : 0 < gk
    · obtain ⟨hM, hps2⟩ := HP.out
      have hj : j < ps.length := by omega
      obtain ⟨blk, off, bb, bcap, rfl, hop⟩ := hps2 j ps[j] (by simp [hj])
      have hop' := hop.kept hsy.grown
      have hjn : (j : Int) < (m : Int) := by omega
      have hj2 : (j : Int) < 2000 := by omega
      have hj0 : (0 : Int) ≤ (j : Int) := by omega
      obtain ⟨c0, c1, c2, c3, cb, cok⟩ := hop'
      generalize ps[j] = o at *
      have HS := hide hsy
      have HOk := hide cok
      clear hM hps2 hj hop hsy cb cok HS0
      obtain ⟨kind, N, T, ob⟩ := o
      simp only at c0 c1 c2 c3
      by_cases h1 : kind = 1
      · subst h1
        have HS0 := hide (HS.out.kept (World.grownBy_alloc wr (.cells #[.int .i64 1, .int .u64 N, .int .i64 T, .slice bb ob.length bcap] 55) none))
        go_wp2_with fail
        refine (rbyte_any B xs e _ HS0.out.rd HS0.out.xbyt).mono ?_
        rintro r w5 ⟨rfl, hR5, hg5⟩
        have HN := hide (dnum_any d at_ cap 1 b bo e 1 w5 (HS0.out.rf.kept hg5 HS0.out.ne HS0.out.offB) HS0.out.offD HS0.out.byt (by rw [HBL.out]; omega) rfl (by omega))
        have hval := takeF_value HS0.out.xbyt e 1
        have hv0 : 0 ≤ leV (takeF xs e 1).1 := hval.1
        have hv1 : leV (takeF xs e 1).1 < 18446744073709551616 := Int.lt_of_lt_of_le hval.2 (by decide)
        have HT := hide (And.intro hR5 hg5)
        clear hR5 hg5 hval
        rw [HS0.out.rest] at HN
        obtain ⟨V, hV⟩ : ∃ V, leV (takeF xs e 1).1 = V := ⟨_, rfl⟩
        rw [hV] at HN hv0 hv1 ⊢
        clear hV
        go_wp2_with fail
        refine HN.out.mono ?_
        rintro r w6 ⟨rfl, v6, hD6⟩
        obtain ⟨at', hS6⟩ := HS0.out.took HT.out.1 HT.out.2 hD6
        have HS6 := hide hS6
        clear hS6 hD6 HN HT
        generalize (takeF xs e 1).2.1 = xs' at *
        generalize (takeF xs e 1).2.2 = e' at *
        go_wp2
        go_region_held3 (fun w' => w'.cell? ⟨d, 2, none⟩ = some (.int .i64 e') ∧ Sync w w' B d b bo cap at' xs' e') (first | assumption | exact ⟨HS6.out.rf.c2, HS6.out.kept (grown_drew _ _)⟩) ((first | (go_at_call 19; obtain ⟨_, hsy⟩ := ‹_ ∧ Sync w _ B d b bo cap at' xs' e'›; refine (left_any B xs' e' _ hsy.rd).mono ?_; rintro r w7 ⟨rfl, rfl⟩) | (go_at_call 33; obtain ⟨_, hsy⟩ := ‹_ ∧ Sync w _ B d b bo cap at' xs' e'›; refine (dleft_any d at' cap b bo e' _ hsy.rf hbs2).mono ?_; rw [hsy.rest]; rintro r w7 ⟨rfl, hg7⟩; have hS7 : w7.cell? ⟨d, 2, none⟩ = some (.int .i64 e') ∧ Sync w w7 B d b bo cap at' xs' e' := ⟨(hsy.kept hg7).rf.c2, hsy.kept hg7⟩) | (go_at_call 20; obtain ⟨_, hsy⟩ := ‹_ ∧ Sync w _ B d b bo cap at' xs' e'›; refine (err_any B xs' e' _ hsy.rd).mono ?_; rintro r w7 ⟨rfl, rfl⟩) | (go_at_call 21; obtain ⟨_, hsy⟩ := ‹_ ∧ Sync w _ B d b bo cap at' xs' e'›; refine (end_any B xs' e' _ hsy.rd).mono ?_; rintro r w7 ⟨rfl, rfl⟩) | (go_at_call 34; obtain ⟨_, hsy⟩ := ‹_ ∧ Sync w _ B d b bo cap at' xs' e'›; refine (dend_any d at' cap b bo e' _ hsy.rf).mono ?_; rw [hsy.rest]; rintro r w7 ⟨rfl, hg7⟩; have hS7 : w7.cell? ⟨d, 2, none⟩ = some (.int .i64 e') ∧ Sync w w7 B d b bo cap at' xs' e' := ⟨(hsy.kept hg7).rf.c2, hsy.kept hg7⟩)))
        obtain ⟨_, hsf⟩ := ‹_ ∧ Sync w _ B d b bo cap at' xs' e'›
        have HSF := hide hsf
        clear hsf HS6
        go_wp2
        go_roundg (gk - 1)
        case measure => omega
        case rel => exact ⟨j + 1, at', xs', e', by omega, by go_num, HSF.out⟩
      by_cases h2 : kind = 2
      · subst h2
        have HS0 := hide (HS.out.kept (World.grownBy_alloc wr (.cells #[.int .i64 2, .int .u64 N, .int .i64 T, .slice bb ob.length bcap] 55) none))
        go_wp2_with fail
        refine (rtwo_any B xs e _ HS0.out.rd HS0.out.xbyt).mono ?_
        rintro r w5 ⟨rfl, hR5, hg5⟩
        have HN := hide (dnum_any d at_ cap 2 b bo e 2 w5 (HS0.out.rf.kept hg5 HS0.out.ne HS0.out.offB) HS0.out.offD HS0.out.byt (by rw [HBL.out]; omega) rfl (by omega))
        have hval := takeF_value HS0.out.xbyt e 2
        have hv0 : 0 ≤ leV (takeF xs e 2).1 := hval.1
        have hv1 : leV (takeF xs e 2).1 < 18446744073709551616 := Int.lt_of_lt_of_le hval.2 (by decide)
        have HT := hide (And.intro hR5 hg5)
        clear hR5 hg5 hval
        rw [HS0.out.rest] at HN
        obtain ⟨V, hV⟩ : ∃ V, leV (takeF xs e 2).1 = V := ⟨_, rfl⟩
        rw [hV] at HN hv0 hv1 ⊢
        clear hV
        go_wp2_with fail
        refine HN.out.mono ?_
        rintro r w6 ⟨rfl, v6, hD6⟩
        obtain ⟨at', hS6⟩ := HS0.out.took HT.out.1 HT.out.2 hD6
        have HS6 := hide hS6
        clear hS6 hD6 HN HT
        generalize (takeF xs e 2).2.1 = xs' at *
        generalize (takeF xs e 2).2.2 = e' at *
        go_wp2
        go_region_held3 (fun w' => w'.cell? ⟨d, 2, none⟩ = some (.int .i64 e') ∧ Sync w w' B d b bo cap at' xs' e') (first | assumption | exact ⟨HS6.out.rf.c2, HS6.out.kept (grown_drew _ _)⟩) ((first | (go_at_call 19; obtain ⟨_, hsy⟩ := ‹_ ∧ Sync w _ B d b bo cap at' xs' e'›; refine (left_any B xs' e' _ hsy.rd).mono ?_; rintro r w7 ⟨rfl, rfl⟩) | (go_at_call 33; obtain ⟨_, hsy⟩ := ‹_ ∧ Sync w _ B d b bo cap at' xs' e'›; refine (dleft_any d at' cap b bo e' _ hsy.rf hbs2).mono ?_; rw [hsy.rest]; rintro r w7 ⟨rfl, hg7⟩; have hS7 : w7.cell? ⟨d, 2, none⟩ = some (.int .i64 e') ∧ Sync w w7 B d b bo cap at' xs' e' := ⟨(hsy.kept hg7).rf.c2, hsy.kept hg7⟩) | (go_at_call 20; obtain ⟨_, hsy⟩ := ‹_ ∧ Sync w _ B d b bo cap at' xs' e'›; refine (err_any B xs' e' _ hsy.rd).mono ?_; rintro r w7 ⟨rfl, rfl⟩) | (go_at_call 21; obtain ⟨_, hsy⟩ := ‹_ ∧ Sync w _ B d b bo cap at' xs' e'›; refine (end_any B xs' e' _ hsy.rd).mono ?_; rintro r w7 ⟨rfl, rfl⟩) | (go_at_call 34; obtain ⟨_, hsy⟩ := ‹_ ∧ Sync w _ B d b bo cap at' xs' e'›; refine (dend_any d at' cap b bo e' _ hsy.rf).mono ?_; rw [hsy.rest]; rintro r w7 ⟨rfl, hg7⟩; have hS7 : w7.cell? ⟨d, 2, none⟩ = some (.int .i64 e') ∧ Sync w w7 B d b bo cap at' xs' e' := ⟨(hsy.kept hg7).rf.c2, hsy.kept hg7⟩)))
        obtain ⟨_, hsf⟩ := ‹_ ∧ Sync w _ B d b bo cap at' xs' e'›
        have HSF := hide hsf
        clear hsf HS6
        go_wp2
        go_roundg (gk - 1)
        case measure => omega
        case rel => exact ⟨j + 1, at', xs', e', by omega, by go_num, HSF.out⟩
      by_cases h3 : kind = 3
      · subst h3
        have HS0 := hide (HS.out.kept (World.grownBy_alloc wr (.cells #[.int .i64 3, .int .u64 N, .int .i64 T, .slice bb ob.length bcap] 55) none))
        go_wp2_with fail
        refine (rfour_any B xs e _ HS0.out.rd HS0.out.xbyt).mono ?_
        rintro r w5 ⟨rfl, hR5, hg5⟩
        have HN := hide (dnum_any d at_ cap 4 b bo e 4 w5 (HS0.out.rf.kept hg5 HS0.out.ne HS0.out.offB) HS0.out.offD HS0.out.byt (by rw [HBL.out]; omega) rfl (by omega))
        have hval := takeF_value HS0.out.xbyt e 4
        have hv0 : 0 ≤ leV (takeF xs e 4).1 := hval.1
        have hv1 : leV (takeF xs e 4).1 < 18446744073709551616 := Int.lt_of_lt_of_le hval.2 (by decide)
        have HT := hide (And.intro hR5 hg5)
        clear hR5 hg5 hval
        rw [HS0.out.rest] at HN
        obtain ⟨V, hV⟩ : ∃ V, leV (takeF xs e 4).1 = V := ⟨_, rfl⟩
        rw [hV] at HN hv0 hv1 ⊢
        clear hV
        go_wp2_with fail
        refine HN.out.mono ?_
        rintro r w6 ⟨rfl, v6, hD6⟩
        obtain ⟨at', hS6⟩ := HS0.out.took HT.out.1 HT.out.2 hD6
        have HS6 := hide hS6
        clear hS6 hD6 HN HT
        generalize (takeF xs e 4).2.1 = xs' at *
        generalize (takeF xs e 4).2.2 = e' at *
        go_wp2
        go_region_held3 (fun w' => w'.cell? ⟨d, 2, none⟩ = some (.int .i64 e') ∧ Sync w w' B d b bo cap at' xs' e') (first | assumption | exact ⟨HS6.out.rf.c2, HS6.out.kept (grown_drew _ _)⟩) ((first | (go_at_call 19; obtain ⟨_, hsy⟩ := ‹_ ∧ Sync w _ B d b bo cap at' xs' e'›; refine (left_any B xs' e' _ hsy.rd).mono ?_; rintro r w7 ⟨rfl, rfl⟩) | (go_at_call 33; obtain ⟨_, hsy⟩ := ‹_ ∧ Sync w _ B d b bo cap at' xs' e'›; refine (dleft_any d at' cap b bo e' _ hsy.rf hbs2).mono ?_; rw [hsy.rest]; rintro r w7 ⟨rfl, hg7⟩; have hS7 : w7.cell? ⟨d, 2, none⟩ = some (.int .i64 e') ∧ Sync w w7 B d b bo cap at' xs' e' := ⟨(hsy.kept hg7).rf.c2, hsy.kept hg7⟩) | (go_at_call 20; obtain ⟨_, hsy⟩ := ‹_ ∧ Sync w _ B d b bo cap at' xs' e'›; refine (err_any B xs' e' _ hsy.rd).mono ?_; rintro r w7 ⟨rfl, rfl⟩) | (go_at_call 21; obtain ⟨_, hsy⟩ := ‹_ ∧ Sync w _ B d b bo cap at' xs' e'›; refine (end_any B xs' e' _ hsy.rd).mono ?_; rintro r w7 ⟨rfl, rfl⟩) | (go_at_call 34; obtain ⟨_, hsy⟩ := ‹_ ∧ Sync w _ B d b bo cap at' xs' e'›; refine (dend_any d at' cap b bo e' _ hsy.rf).mono ?_; rw [hsy.rest]; rintro r w7 ⟨rfl, hg7⟩; have hS7 : w7.cell? ⟨d, 2, none⟩ = some (.int .i64 e') ∧ Sync w w7 B d b bo cap at' xs' e' := ⟨(hsy.kept hg7).rf.c2, hsy.kept hg7⟩)))
        obtain ⟨_, hsf⟩ := ‹_ ∧ Sync w _ B d b bo cap at' xs' e'›
        have HSF := hide hsf
        clear hsf HS6
        go_wp2
        go_roundg (gk - 1)
        case measure => omega
        case rel => exact ⟨j + 1, at', xs', e', by omega, by go_num, HSF.out⟩
      by_cases h4 : kind = 4
      · subst h4
        have HS0 := hide (HS.out.kept (World.grownBy_alloc wr (.cells #[.int .i64 4, .int .u64 N, .int .i64 T, .slice bb ob.length bcap] 55) none))
        go_wp2_with fail
        refine (reight_any B xs e _ HS0.out.rd HS0.out.xbyt).mono ?_
        rintro r w5 ⟨rfl, hR5, hg5⟩
        have HN := hide (dnum_any d at_ cap 8 b bo e 8 w5 (HS0.out.rf.kept hg5 HS0.out.ne HS0.out.offB) HS0.out.offD HS0.out.byt (by rw [HBL.out]; omega) rfl (by omega))
        have hval := takeF_value HS0.out.xbyt e 8
        have hv0 : 0 ≤ leV (takeF xs e 8).1 := hval.1
        have hv1 : leV (takeF xs e 8).1 < 18446744073709551616 := Int.lt_of_lt_of_le hval.2 (by decide)
        have HT := hide (And.intro hR5 hg5)
        clear hR5 hg5 hval
        rw [HS0.out.rest] at HN
        obtain ⟨V, hV⟩ : ∃ V, leV (takeF xs e 8).1 = V := ⟨_, rfl⟩
        rw [hV] at HN hv0 hv1 ⊢
        clear hV
        go_wp2_with fail
        refine HN.out.mono ?_
        rintro r w6 ⟨rfl, v6, hD6⟩
        obtain ⟨at', hS6⟩ := HS0.out.took HT.out.1 HT.out.2 hD6
        have HS6 := hide hS6
        clear hS6 hD6 HN HT
        generalize (takeF xs e 8).2.1 = xs' at *
        generalize (takeF xs e 8).2.2 = e' at *
        go_wp2
        go_region_held3 (fun w' => w'.cell? ⟨d, 2, none⟩ = some (.int .i64 e') ∧ Sync w w' B d b bo cap at' xs' e') (first | assumption | exact ⟨HS6.out.rf.c2, HS6.out.kept (grown_drew _ _)⟩) ((first | (go_at_call 19; obtain ⟨_, hsy⟩ := ‹_ ∧ Sync w _ B d b bo cap at' xs' e'›; refine (left_any B xs' e' _ hsy.rd).mono ?_; rintro r w7 ⟨rfl, rfl⟩) | (go_at_call 33; obtain ⟨_, hsy⟩ := ‹_ ∧ Sync w _ B d b bo cap at' xs' e'›; refine (dleft_any d at' cap b bo e' _ hsy.rf hbs2).mono ?_; rw [hsy.rest]; rintro r w7 ⟨rfl, hg7⟩; have hS7 : w7.cell? ⟨d, 2, none⟩ = some (.int .i64 e') ∧ Sync w w7 B d b bo cap at' xs' e' := ⟨(hsy.kept hg7).rf.c2, hsy.kept hg7⟩) | (go_at_call 20; obtain ⟨_, hsy⟩ := ‹_ ∧ Sync w _ B d b bo cap at' xs' e'›; refine (err_any B xs' e' _ hsy.rd).mono ?_; rintro r w7 ⟨rfl, rfl⟩) | (go_at_call 21; obtain ⟨_, hsy⟩ := ‹_ ∧ Sync w _ B d b bo cap at' xs' e'›; refine (end_any B xs' e' _ hsy.rd).mono ?_; rintro r w7 ⟨rfl, rfl⟩) | (go_at_call 34; obtain ⟨_, hsy⟩ := ‹_ ∧ Sync w _ B d b bo cap at' xs' e'›; refine (dend_any d at' cap b bo e' _ hsy.rf).mono ?_; rw [hsy.rest]; rintro r w7 ⟨rfl, hg7⟩; have hS7 : w7.cell? ⟨d, 2, none⟩ = some (.int .i64 e') ∧ Sync w w7 B d b bo cap at' xs' e' := ⟨(hsy.kept hg7).rf.c2, hsy.kept hg7⟩)))
        obtain ⟨_, hsf⟩ := ‹_ ∧ Sync w _ B d b bo cap at' xs' e'›
        have HSF := hide hsf
        clear hsf HS6
        go_wp2
        go_roundg (gk - 1)
        case measure => omega
        case rel => exact ⟨j + 1, at', xs', e', by omega, by go_num, HSF.out⟩
      by_cases h5 : kind = 5
      · subst h5
        have HS0 := hide (HS.out.kept (World.grownBy_alloc wr (.cells #[.int .i64 5, .int .u64 N, .int .i64 T, .slice bb ob.length bcap] 55) none))
        have cT : (wr.alloc (.cells #[.int .i64 5, .int .u64 N, .int .i64 T, .slice bb ob.length bcap] 55)).cell? ⟨wr.heap.size, 2, none⟩ = some (.int .i64 T) := by
          rw [cell_of_row _ _ 2 _ 55 (0, 0) (heap_alloc_new wr _)]; rfl
        have hT0 : -9223372036854775808 ≤ T := HOk.out.t0
        have hT1 : T ≤ 9223372036854775807 := HOk.out.t1
        have hBx : B < wr.heap.size := HS.out.rd.lt
        have hDx : d < wr.heap.size := HS.out.rf.lt
        have hxl : xs.length ≤ 140737488355328 := Nat.le_trans HS.out.xlen HBS.out
        have hgl2 : (takeF xs e T).1.length ≤ xs.length := by
          unfold takeF
          repeat (first | (split) | (simp; omega) | simp)
        obtain ⟨G, hG⟩ : ∃ G, (takeF xs e T).1 = G := ⟨_, rfl⟩
        obtain ⟨ng, hng⟩ : ∃ ng, G.length = ng := ⟨_, rfl⟩
        have hng2 : ng ≤ 140737488355328 := by rw [← hng, ← hG]; omega
        have HGN := hide (And.intro hG hng)
        clear hG hng hgl2
        go_wp2
        go_region_held3 (fun w' => w'.cell? ⟨wr.heap.size, 2, none⟩ = some (.int .i64 T)) (first | exact cT | assumption | go_keep) ((first | (go_at_call 18; refine (take_any B xs e T _ (HS0.out.kept (grown_drew _ _)).rd hT0 hT1 hxl).mono ?_; rintro r w5 ⟨v5, rfl, hown5, hR5, hg5⟩; rw [HGN.out.1, HGN.out.2] at hown5; obtain ⟨ao5, cap5, rfl, hl5, hnc5, hcm5, hat5, hnil5, h55⟩ := own_at hown5; have hk5 := hg5.cell (a := ⟨wr.heap.size, 2, none⟩) (v := .int .i64 T) cT (by simp; omega); have H5 := hide (And.intro hR5 (And.intro (grown_trans (grown_drew _ _) hg5) (And.intro hat5 h55))); clear hown5 hR5 hg5 hl5 hnc5 hcm5 hat5 hnil5 h55) | (go_at_call 32; refine (dtake_any d at_ cap b bo e T _ (HS0.out.rf.kept H5.out.2.1 HS0.out.ne HS0.out.offB) HS0.out.offD HBS.out hT0 hT1).mono ?_; rintro r w6 ⟨v6, rfl, hD6⟩; obtain ⟨hown6, hg6⟩ := took_own hD6 HS0.out.rest HGN.out.1 HGN.out.2; obtain ⟨ao6, cap6, rfl, hl6, hnc6, hcm6, hat6, hnil6, h56⟩ := own_at hown6; have hk6 := hg6.cell (a := ⟨wr.heap.size, 2, none⟩) (v := .int .i64 T) hk5 (by simp; omega); have H6 := hide (And.intro (H5.out.2.2.1.kept hg6 (fun a ha e => by have h1 := (H5.out.2.2.2 a ha).1; have h2 := HS0.out.rf.lt; simp at e h1 h2; omega)) (And.intro hat6 hD6)); clear hown6 hg6 hl6 hnc6 hcm6 hat6 hnil6 h56 hD6) | (go_at_call 30; refine (same_eq ao5 ao6 ng cap5 cap6 G _ HGN.out.2 H6.out.1 H6.out.2.1 (by omega)).mono ?_; rintro r w7 ⟨rfl, hg7⟩; have hk7 := hg7.cell hk6 (by simp))))
        obtain ⟨at', hS6⟩ := HS0.out.took H5.out.1 H5.out.2.1 H6.out.2.2
        have HS6 := hide (hS6.kept hg7)
        clear hS6 hg7 H5 H6
        generalize (takeF xs e T).2.1 = xs' at *
        generalize (takeF xs e T).2.2 = e' at *
        go_wp2
        go_region_held3 (fun w' => w'.cell? ⟨d, 2, none⟩ = some (.int .i64 e') ∧ Sync w w' B d b bo cap at' xs' e') (first | assumption | exact ⟨HS6.out.rf.c2, HS6.out.kept (grown_drew _ _)⟩) ((first | (go_at_call 19; obtain ⟨_, hsy⟩ := ‹_ ∧ Sync w _ B d b bo cap at' xs' e'›; refine (left_any B xs' e' _ hsy.rd).mono ?_; rintro r w7 ⟨rfl, rfl⟩) | (go_at_call 33; obtain ⟨_, hsy⟩ := ‹_ ∧ Sync w _ B d b bo cap at' xs' e'›; refine (dleft_any d at' cap b bo e' _ hsy.rf hbs2).mono ?_; rw [hsy.rest]; rintro r w7 ⟨rfl, hg7⟩; have hS7 : w7.cell? ⟨d, 2, none⟩ = some (.int .i64 e') ∧ Sync w w7 B d b bo cap at' xs' e' := ⟨(hsy.kept hg7).rf.c2, hsy.kept hg7⟩) | (go_at_call 20; obtain ⟨_, hsy⟩ := ‹_ ∧ Sync w _ B d b bo cap at' xs' e'›; refine (err_any B xs' e' _ hsy.rd).mono ?_; rintro r w7 ⟨rfl, rfl⟩) | (go_at_call 21; obtain ⟨_, hsy⟩ := ‹_ ∧ Sync w _ B d b bo cap at' xs' e'›; refine (end_any B xs' e' _ hsy.rd).mono ?_; rintro r w7 ⟨rfl, rfl⟩) | (go_at_call 34; obtain ⟨_, hsy⟩ := ‹_ ∧ Sync w _ B d b bo cap at' xs' e'›; refine (dend_any d at' cap b bo e' _ hsy.rf).mono ?_; rw [hsy.rest]; rintro r w7 ⟨rfl, hg7⟩; have hS7 : w7.cell? ⟨d, 2, none⟩ = some (.int .i64 e') ∧ Sync w w7 B d b bo cap at' xs' e' := ⟨(hsy.kept hg7).rf.c2, hsy.kept hg7⟩)))
        obtain ⟨_, hsf⟩ := ‹_ ∧ Sync w _ B d b bo cap at' xs' e'›
        have HSF := hide hsf
        clear hsf HS6
        go_wp2
        go_roundg (gk - 1)
        case measure => omega
        case rel => exact ⟨j + 1, at', xs', e', by omega, by go_num, HSF.out⟩
      have HS6 := hide (HS.out.kept (World.grownBy_alloc wr (.cells #[.int .i64 kind, .int .u64 N, .int .i64 T, .slice bb ob.length bcap] 55) none))
      have e1 : (kind == 1) = false := beq_eq_false_iff_ne.2 h1
      have e2 : (kind == 2) = false := beq_eq_false_iff_ne.2 h2
      have e3 : (kind == 3) = false := beq_eq_false_iff_ne.2 h3
      have e4 : (kind == 4) = false := beq_eq_false_iff_ne.2 h4
      have e5 : (kind == 5) = false := beq_eq_false_iff_ne.2 h5
      go_wp2
      go_region_held3 (fun w' => w'.cell? ⟨d, 2, none⟩ = some (.int .i64 e) ∧ Sync w w' B d b bo cap at_ xs e) (first | assumption | exact ⟨HS6.out.rf.c2, HS6.out.kept (grown_drew _ _)⟩) ((first | (go_at_call 19; obtain ⟨_, hsy⟩ := ‹_ ∧ Sync w _ B d b bo cap at_ xs e›; refine (left_any B xs e _ hsy.rd).mono ?_; rintro r w7 ⟨rfl, rfl⟩) | (go_at_call 33; obtain ⟨_, hsy⟩ := ‹_ ∧ Sync w _ B d b bo cap at_ xs e›; refine (dleft_any d at_ cap b bo e _ hsy.rf hbs2).mono ?_; rw [hsy.rest]; rintro r w7 ⟨rfl, hg7⟩; have hS7 : w7.cell? ⟨d, 2, none⟩ = some (.int .i64 e) ∧ Sync w w7 B d b bo cap at_ xs e := ⟨(hsy.kept hg7).rf.c2, hsy.kept hg7⟩) | (go_at_call 20; obtain ⟨_, hsy⟩ := ‹_ ∧ Sync w _ B d b bo cap at_ xs e›; refine (err_any B xs e _ hsy.rd).mono ?_; rintro r w7 ⟨rfl, rfl⟩) | (go_at_call 21; obtain ⟨_, hsy⟩ := ‹_ ∧ Sync w _ B d b bo cap at_ xs e›; refine (end_any B xs e _ hsy.rd).mono ?_; rintro r w7 ⟨rfl, rfl⟩) | (go_at_call 34; obtain ⟨_, hsy⟩ := ‹_ ∧ Sync w _ B d b bo cap at_ xs e›; refine (dend_any d at_ cap b bo e _ hsy.rf).mono ?_; rw [hsy.rest]; rintro r w7 ⟨rfl, hg7⟩; have hS7 : w7.cell? ⟨d, 2, none⟩ = some (.int .i64 e) ∧ Sync w w7 B d b bo cap at_ xs e := ⟨(hsy.kept hg7).rf.c2, hsy.kept hg7⟩)))
      obtain ⟨_, hsf⟩ := ‹_ ∧ Sync w _ B d b bo cap at_ xs e›
      have HSF := hide hsf
      clear hsf HS6
      go_wp2
      go_roundg (gk - 1)
      case measure => omega
      case rel => exact ⟨j + 1, at_, xs, e, by omega, by go_num, HSF.out⟩
    · have hj : j = M := by omega
      subst hj
      have HSF := hide hsy
      clear hsy HS0
      rcases (show ((j : Int) < (m : Int) ∧ (2000 : Int) ≤ (j : Int)) ∨ (m : Int) ≤ (j : Int) from by omega) with hcase | hcase
      all_goals
        go_wp2_with fail
        refine (awake_any _).mono ?_
        rintro r w5 ⟨rfl, hg5⟩
        go_wp2
        go_ret
        exact ⟨rfl, grown_trans HSF.out.grown hg5⟩
end Go.Proofs.Ytckmghagfaecmaa
