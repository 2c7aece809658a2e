/- HeapSorts: the things come. -/
import Derived.Test.YtkbhjdjdjfdikaaTm
import Derived.Deep.RegionLaw
import Derived.Laws.BytesArg
import Derived.Laws.StructEq
import Derived.Deep.QuietTactic
namespace Go.Proofs.Ytkbhjdjdjfdikaa.Th
open Go.RowKit Ap Go.Proofs.Ytkbhjdjdjfdikaa
attribute [local go_sem ↓] Go.wp_at_zero Go.wp_at_succ
attribute [local go_sem] run_store_float
/-- Numbers that lie somewhere. -/
def IntsAt (w : World) (ao : Option Addr) (xs : List Int) : Prop := ∀ j x, xs[j]? = some x → ∃ blk off, ao = some (⟨blk, off, none⟩ : Addr) ∧ w.cell? ⟨blk, off + j, none⟩ = some (.int .i64 x)
theorem IntsAt.grown {w w' : World} {ao : Option Addr} {xs : List Int} (h : IntsAt w ao xs) (g : w.grownBy w' none) : IntsAt w' ao xs := by
  intro j o hj
  obtain ⟨b, off, e, h1⟩ := h j o hj
  exact ⟨b, off, e, g.cell h1 (by simp)⟩
/-- Two bytes as a text. -/
theorem conv2 (W : World) (g : Nat) (a b : Int) (h0 : W.cell? ⟨g, 0, none⟩ = some (.int .u8 a)) (h1 : W.cell? ⟨g, 1, none⟩ = some (.int .u8 b)) : (convert 68 9 (.slice (some ⟨g, 0, none⟩) 2 2)).run Try.prog W = .ok (.string (strOfNums [a, b])) W := by
  refine run_convert_bytes_arg (P := Try.prog) W 68 5 Try.underlying68 Try.underlying5 g 0 2 2 [a, b] rfl ?_ 9 Try.underlying9
  intro i hi
  match i, hi with
  | 0, _ => exact h0
  | 1, _ => exact h1
theorem new2 (w : World) (a b : Value) (t : TypeId) {w2 : World} (g : (w.alloc (.cells #[a, b] t)).grownBy w2 none) : w2.cell? ⟨w.heap.size, 0, none⟩ = some a ∧ w2.cell? ⟨w.heap.size, 1, none⟩ = some b := by
  have hb : (w.alloc (.cells #[a, b] t)).heap[w.heap.size]? = some (.cells [a, b].toArray t (0, 0)) := heap_alloc_new w _
  have h2 := (g.block _ (row_lt hb) (by simp)).trans hb
  exact ⟨cell_row h2 0, cell_row h2 1⟩
theorem own_formB {w : World} {B0 : Nat} {e : TypeId} {sz n : Nat} {v : Value} {xs : List Value} (h : w.ownsRow B0 e sz v n xs) : ∃ vo cap, v = .slice vo n cap ∧ n ≤ cap := by
  rcases h.2 with ⟨rfl, rfl⟩ | ⟨g, cap, cur, hv, hb, hg, hn, _⟩
  · exact ⟨none, 0, rfl, Nat.le_refl _⟩
  · exact ⟨_, cap, hv, hn⟩
/-- The last one that was popped: its worth, its handle; all that are left come behind it. -/
def LastOk (w : World) (bL : Nat) (E : List (Nat × It)) (at' : Int) : Prop := ∃ s f, w.heap[bL]? = some (.cells [Value.string s, .float .f64 f].toArray 63 (0, 0)) ∧ ((at' = -1 ∧ f = 13830554455654793216) ∨ ∃ a n : Nat, a < 20 ∧ f = fw a ∧ at' = (n : Int) ∧ ∀ c, c < E.length → a < rk (en E c).2.f ∨ (a = rk (en E c).2.f ∧ n ≤ (en E c).1))
theorem info63 : (Try.prog.info? 63).map (fun i => (i.zero, i.size, i.bytes)) = some (some (.agg #[.string ⟨#[]⟩, .float .f64 0]), 2, 24) := by kernel_rfl
theorem info4 : (Try.prog.info? 4).map (fun i => (i.zero, i.size, i.bytes)) = some (some (.bool false), 1, 1) := by kernel_rfl
theorem meetA (wr : World) (nm : ByteArray) (r : Nat) (a b : Value) : ∃ bX nm', Value.pointer (some ⟨wr.heap.size, 0, none⟩) = .pointer (some ⟨bX, 0, none⟩) ∧ Hid (wr.grownBy ((wr.alloc (.cells #[.string nm, .float .f64 (floatOfInt .f64 (r : Int))] 63)).alloc (.cells #[a, b] 5)).drew none ∧ ((wr.alloc (.cells #[.string nm, .float .f64 (floatOfInt .f64 (r : Int))] 63)).alloc (.cells #[a, b] 5)).drew.heap[bX]? = some (.cells [Value.string nm', .float .f64 (fw r)].toArray 63 (0, 0))) := by
  have g1 := World.grownBy_alloc wr (.cells #[.string nm, .float .f64 (floatOfInt .f64 (r : Int))] 63) none
  have g3 := World.grownBy_alloc (wr.alloc (.cells #[.string nm, .float .f64 (floatOfInt .f64 (r : Int))] 63)) (.cells #[a, b] 5) none
  exact ⟨wr.heap.size, nm, rfl, grown_trans (grown_trans g1 g3) (grown_drew _ none), (g3.block _ (row_lt (heap_alloc_new wr _)) (by simp)).trans (heap_alloc_new wr _)⟩
theorem meetB (wr : World) (nm : ByteArray) (r : Nat) (a b : Value) : ∃ bX nm', Value.pointer (some ⟨wr.heap.size + 1, 0, none⟩) = .pointer (some ⟨bX, 0, none⟩) ∧ Hid (wr.grownBy ((wr.alloc (.cells #[a, b] 5)).alloc (.cells #[.string nm, .float .f64 (floatOfInt .f64 (r : Int))] 63)).drew none ∧ ((wr.alloc (.cells #[a, b] 5)).alloc (.cells #[.string nm, .float .f64 (floatOfInt .f64 (r : Int))] 63)).drew.heap[bX]? = some (.cells [Value.string nm', .float .f64 (fw r)].toArray 63 (0, 0))) := by
  have g1 := World.grownBy_alloc wr (.cells #[a, b] 5) none
  have g3 := World.grownBy_alloc (wr.alloc (.cells #[a, b] 5)) (.cells #[.string nm, .float .f64 (floatOfInt .f64 (r : Int))] 63) none
  have hb := heap_alloc_new (wr.alloc (.cells #[a, b] 5)) (.cells #[.string nm, .float .f64 (floatOfInt .f64 (r : Int))] 63)
  rw [World.size_alloc] at hb
  exact ⟨wr.heap.size + 1, nm, rfl, grown_trans (grown_trans g1 g3) (grown_drew _ none), hb⟩
theorem eqg63 : Try.prog.eqGuardType Try.prog.depth 63 = false := by kernel_rfl
theorem neq63 (w : World) (s : ByteArray) (f : Nat) (hf : (FloatKind.f64.format.order f f == some .eq) = true) : (binOp .neq 63 (.agg #[.string s, .float .f64 f]) (.agg #[.string s, .float .f64 f])).run Try.prog w = .ok (.bool false) w := by
  have hS : Try.prog.underlying 63 = some (.struct (Try.prog.fieldsOf 63)) := by kernel_rfl
  have hp : Try.prog.stoodInHeld 63 = false := by kernel_rfl
  have hfl : ∀ d, (Op.equalIn (d + 1) 61 (.float .f64 f) (.float .f64 f)).run Try.prog w = .ok true w := fun d => by
    simpa [Op.equalIn, run_underlying Try.underlying61, Op.floatEq] using hf
  rw [run_neq_struct, show (10000 : Nat) = 9999 + 1 from rfl, run_equalIn_agg w 9999 63 _ _ hS hp]
  simp only [Program.fieldsOf, Try.underlying63]
  go_simp
/-- What Sorts asks of the one that is popped. -/
theorem last_cond {E : List (Nat × It)} {k : Nat} (hk : k < E.length) (ok : Wo (en E k).2) {fL : Nat} {at' : Int} (h : (at' = -1 ∧ fL = 13830554455654793216) ∨ ∃ a n : Nat, a < 20 ∧ fL = fw a ∧ at' = (n : Int) ∧ ∀ c, c < E.length → a < rk (en E c).2.f ∨ (a = rk (en E c).2.f ∧ n ≤ (en E c).1)) : (FloatKind.f64.format.order (en E k).2.f (en E k).2.f == some .eq) = true ∧ (FloatKind.f64.format.order (en E k).2.f fL == some .lt) = false ∧ ((FloatKind.f64.format.order (en E k).2.f fL == some .eq) = true → at' ≤ ((en E k).1 : Int)) := by
  obtain ⟨c, hc, e⟩ := ok
  refine ⟨by rw [e, fw_eq hc hc]; simp, ?_⟩
  rcases h with ⟨rfl, rfl⟩ | ⟨a, n, ha, rfl, rfl, hall⟩
  · rw [e]
    exact ⟨(fw_table ⟨c, hc⟩ ⟨c, hc⟩).2.2.2.1, fun x => by rw [(fw_table ⟨c, hc⟩ ⟨c, hc⟩).2.2.2.2] at x; cases x⟩
  · have h1 := hall k hk
    rw [e, rk_fw hc] at h1
    rw [e, fw_lt hc ha, fw_eq hc ha]
    simp
    omega
theorem last_next {E : List (Nat × It)} {k : Nat} (hk : k < E.length) (ok : Wo (en E k).2) (hle : ∀ c, c < E.length → Le (fun x : It => ((rk x.f : Nat) : Int)) (en E k) (en E c)) : ∃ a n : Nat, a < 20 ∧ (en E k).2.f = fw a ∧ ((en E k).1 : Int) = (n : Int) ∧ ∀ c, c < (outE E k).length → a < rk (en (outE E k) c).2.f ∨ (a = rk (en (outE E k) c).2.f ∧ n ≤ (en (outE E k) c).1) := by
  obtain ⟨c, hc, e⟩ := ok
  refine ⟨c, (en E k).1, hc, e, rfl, fun j hj => ?_⟩
  rw [outE_length] at hj
  have hm : ∃ q, q < E.length ∧ en (outE E k) j = en E q := by
    rw [outE_get hk hj]
    split
    · exact ⟨E.length - 1, by omega, rfl⟩
    · exact ⟨j, by omega, rfl⟩
  obtain ⟨q, hq, e2⟩ := hm
  rw [e2]
  have h1 := hle q hq
  unfold Le at h1
  simp only [e, rk_fw hc] at h1
  rcases h1 with h1 | ⟨h1, h2⟩
  · exact .inl (by omega)
  · exact .inr ⟨by omega, h2⟩
set_option maxRecDepth 100000 in
set_option maxHeartbeats 8000000 in
theorem heapSorts_any (ao : Option Addr) (len cap : Nat) (ls : List Int) (bo : Option Addr) (len2 cap2 : Nat) (os : List OpD) (w : World) (hl : ls.length = len) (hls : IntsAt w ao ls) (hc : len ≤ cap) (hl2 : os.length = len2) (ho : OpsAt w bo os) (hok : ∀ o ∈ os, o.Ok) (hc2 : len2 ≤ cap2) : Calls Try.prog 7 #[.slice ao len cap, .slice bo len2 cap2] w fun e w' => e = .returned (.bool true) ∧ w.grownBy w' none := by
  have haw := awake_any w
  have HA := hide (And.intro hl (And.intro hls (And.intro hl2 (And.intro ho hok))))
  clear hl hls hl2 ho hok
  obtain ⟨m, hm⟩ : ∃ m, m = min len 300 := ⟨_, rfl⟩
  have HM := hide hm
  have hm1 : m ≤ 300 := by omega
  have hm2 : m ≤ len := by omega
  have hsl := slice_T ao len cap m (by omega)
  have hmc : m ≤ cap := by omega
  go_enter Try.func7, Try.ntmps7
  go_wp2_with fail
  refine haw.mono ?_
  clear haw
  rintro e w1 ⟨rfl, g1⟩
  have HG1 := hide g1
  clear g1
  go_upto_region 3 with fail
  go_cut [0] from 26 to 30 (fun s0 wx => s0 = .slice ao m cap ∧ wx = w1)
  case first =>
    by_cases hcs : 300 < len
    · have hm3 : m = 300 := by omega
      have HM3 := hide hm3
      rw [hm3] at hsl
      rw [show (((300 : Nat) : Int)) = 300 from rfl] at hsl
      clear hm hm3 hm1 hm2 hmc
      go_wp2_with fail
      go_meet
      case rel => exact ⟨by rw [HM3.out], rfl⟩
    · have hm3 : m = len := by omega
      have HM3 := hide hm3
      rw [hm3] at hsl
      clear hm hm3 hm1 hm2 hmc
      go_wp2_with fail
      go_meet
      case rel => exact ⟨by rw [HM3.out], rfl⟩
  case rest =>
  obtain ⟨rfl, hwx⟩ := hcut
  obtain rfl := hwx.symm
  clear hsl hm hm1 hm2 hmc
  have hnew := ho_new w w1 HG1.out
  go_wp2_with fail
  refine hnew.mono ?_
  clear hnew
  rintro e w2 ⟨h, rfl, h2⟩
  have H2 : Hid (SrS w w2 h (.slice none 0 0) (.slice none 0 0) [] [] [] 0 0 ∧ Rel [] [] []) := ⟨⟨h2, World.ownsRow_nil _ _ _ _, World.ownsRow_nil _ _ _ _⟩, ⟨rfl, fun n hn => by simp at hn, fun i hi => by simp at hi⟩⟩
  clear h2 HG1
  go_wp2
  go_loopg [6, 7, 8] m (fun q va vt v wr => ∃ i : Nat, v = .int .i64 (i : Int) ∧ q = m - i ∧ i ≤ m ∧ Hid (∃ E A Th, A.length = i ∧ E.length ≤ i ∧ SrS w wr h va vt E A Th i i ∧ Rel E A Th) ∧ (∃ a1 a2, va = .slice a1 i a2) ∧ (∃ b1 b2, vt = .slice b1 i b2))
  case atStart => exact ⟨0, rfl, rfl, Nat.zero_le _, ⟨[], [], [], rfl, Nat.le_refl _, H2.out⟩, ⟨_, _, rfl⟩, ⟨_, _, rfl⟩⟩
  case round =>
    obtain ⟨i, rfl, hq, hi, HS, ⟨a1, a2, rfl⟩, ⟨b1, b2, rfl⟩⟩ := hrel
    have HQ := hide hq
    clear hq H2
    obtain ⟨E, A, Th, hAi, hEi, hS⟩ := HS.out
    have HS1 := hide (And.intro hAi (And.intro hEi hS))
    clear HS hAi hEi hS
    by_cases hlt : i < m
    · have hil : i < ls.length := by have := HM.out; have := HA.out.1; omega
      obtain ⟨x, hx⟩ : ∃ x, ls[i]? = some x := ⟨_, List.getElem?_eq_getElem hil⟩
      obtain ⟨blk, off, hao, cx⟩ := (HA.out.2.1.grown HS1.out.2.2.1.ho.grown) i x hx
      subst hao
      have HPk := hide (fun W => pick_any x 20 20 W rfl (by omega) (by omega))
      have hr0 : 0 ≤ x % 20 := Int.emod_nonneg _ (by decide)
      have hr1 : x % 20 < 20 := Int.emod_lt_of_pos _ (by decide)
      rw [show (((20 : Nat) : Int)) = 20 from rfl] at HPk
      obtain ⟨r, hr⟩ : ∃ r : Nat, x % 20 = (r : Int) := ⟨(x % 20).toNat, by omega⟩
      rw [hr] at HPk hr1
      have HR := hide (show r < 20 by omega)
      have hmi : m ≤ 300 := by have := HM.out; omega
      have hmcap : m ≤ cap := by have := HM.out; omega
      have HI := hide (And.intro hlt (And.intro hmi hi))
      have hd1 : ((i : Int) < (m : Int)) = True := by simp; omega
      clear hr0 hr1 hr hil hi
      go_upto_region 12 with fail
      have hx0 : ∀ u v t, (wr.alloc (.cells #[u, v] t)).cell? ⟨blk, off + i, none⟩ = some (.int .i64 x) := fun u v t => (World.grownBy_alloc wr (.cells #[u, v] t) none).cell cx (by simp)
      have hx1 : ∀ u v t u2 v2 t2, ((wr.alloc (.cells #[u, v] t)).alloc (.cells #[u2, v2] t2)).cell? ⟨blk, off + i, none⟩ = some (.int .i64 x) := fun u v t u2 v2 t2 => (World.grownBy_alloc _ (.cells #[u2, v2] t2) none).cell (hx0 u v t) (by simp)
      obtain ⟨B0, hB0⟩ : ∃ B0, B0 = IntKind.u8.wrap (i : Int) := ⟨_, rfl⟩
      obtain ⟨B1, hB1⟩ : ∃ B1, B1 = IntKind.u8.wrap ((i : Int) / 256) := ⟨_, rfl⟩
      have hq1 : (convert 68 9 (.slice (some ⟨wr.heap.size, 0, none⟩) 2 2)).run Try.prog (wr.alloc (.cells #[.int .u8 (IntKind.u8.wrap (i : Int)), .int .u8 (IntKind.u8.wrap ((i : Int) / 256))] 5)).drew = .ok (.string (strOfNums [B0, B1])) (wr.alloc (.cells #[.int .u8 (IntKind.u8.wrap (i : Int)), .int .u8 (IntKind.u8.wrap ((i : Int) / 256))] 5)).drew := by
        rw [← hB0, ← hB1]
        obtain ⟨y0, y1⟩ := new2 wr (.int .u8 B0) (.int .u8 B1) 5 (grown_drew (wr.alloc (.cells #[.int .u8 B0, .int .u8 B1] 5)) none)
        exact conv2 _ _ _ _ y0 y1
      have hq2 : ∀ u v, (convert 68 9 (.slice (some ⟨wr.heap.size, 0, none⟩) 2 2)).run Try.prog ((wr.alloc (.cells #[.int .u8 (IntKind.u8.wrap (i : Int)), .int .u8 (IntKind.u8.wrap ((i : Int) / 256))] 5)).alloc (.cells #[u, v] 63)).drew = .ok (.string (strOfNums [B0, B1])) ((wr.alloc (.cells #[.int .u8 (IntKind.u8.wrap (i : Int)), .int .u8 (IntKind.u8.wrap ((i : Int) / 256))] 5)).alloc (.cells #[u, v] 63)).drew := by
        intro u v
        rw [← hB0, ← hB1]
        obtain ⟨y0, y1⟩ := new2 wr (.int .u8 B0) (.int .u8 B1) 5 (grown_trans (World.grownBy_alloc (wr.alloc (.cells #[.int .u8 B0, .int .u8 B1] 5)) (.cells #[u, v] 63) none) (grown_drew _ none))
        exact conv2 _ _ _ _ y0 y1
      have hq3 : ∀ u v, (convert 68 9 (.slice (some ⟨wr.heap.size + 1, 0, none⟩) 2 2)).run Try.prog ((wr.alloc (.cells #[u, v] 63)).alloc (.cells #[.int .u8 (IntKind.u8.wrap (i : Int)), .int .u8 (IntKind.u8.wrap ((i : Int) / 256))] 5)).drew = .ok (.string (strOfNums [B0, B1])) ((wr.alloc (.cells #[u, v] 63)).alloc (.cells #[.int .u8 (IntKind.u8.wrap (i : Int)), .int .u8 (IntKind.u8.wrap ((i : Int) / 256))] 5)).drew := by
        intro u v
        rw [← hB0, ← hB1]
        obtain ⟨y0, y1⟩ := new2 (wr.alloc (.cells #[u, v] 63)) (.int .u8 B0) (.int .u8 B1) 5 (grown_drew ((wr.alloc (.cells #[u, v] 63)).alloc (.cells #[.int .u8 B0, .int .u8 B1] 5)) none)
        rw [World.size_alloc] at y0 y1
        exact conv2 _ _ _ _ y0 y1
      clear hB0 hB1
      generalize strOfNums [B0, B1] = nm at *
      go_cut [9] from 40 to 53 (fun s9 wx => ∃ bX nm, s9 = .pointer (some ⟨bX, 0, none⟩) ∧ Hid (wr.grownBy wx none ∧ wx.heap[bX]? = some (.cells [Value.string nm, .float .f64 (fw r)].toArray 63 (0, 0))))
      case first =>
       go_region_law (first | (go_simp; go_wp2_with (go_at_call 13; refine (HPk.out _).mono ?_; rintro e w3 ⟨rfl, hw3⟩; obtain rfl := hw3.symm)))
       all_goals
        go_wp2
        go_meet
        case rel => first | exact meetA wr nm r _ _ | exact meetB wr nm r _ _
      case rest =>
      obtain ⟨bX, nm, rfl, HX⟩ := hcut
      clear hq1 hq2 hq3 hx0 hx1 cx HPk
      have hS3 := HS1.out.2.2.1.grown HX.out.1
      have x0 := cell_row HX.out.2 0
      have x1 := cell_row HX.out.2 1
      simp at x0 x1
      have hwo : Wo ⟨nm, fw r⟩ := ⟨r, HR.out, rfl⟩
      have HEl : Hid (E.length ≤ 300) := hide (by have := HS1.out.2.1; have := HI.out.1; have := HI.out.2.1; omega)
      have hpu := ho_push' hS3.ho (by have := HEl.out; omega) (by have := HI.out; omega) (by have := HI.out; omega) ⟨nm, fw r⟩ hwo
      simp only at hpu
      have H3 := hide hS3
      clear hS3 hwo
      go_wp2_with fail
      refine hpu.mono ?_
      clear hpu
      rintro e w4 ⟨rfl, h4, k4⟩
      have hb4 := k4.block bX _ 63 HX.out.2 (by decide) (by decide) (by decide)
      have y0 := cell_row (l := [Value.string nm, .float .f64 (fw r)]) hb4 0
      have y1 := cell_row (l := [Value.string nm, .float .f64 (fw r)]) hb4 1
      simp at y0 y1
      have H4 := hide (H3.out.heap h4 k4)
      clear h4 k4 hb4 x0 x1
      obtain ⟨i0, hi0, hz0, hz1, hz2⟩ := info_parts info63
      have HI0 := hide (And.intro hi0 (And.intro hz0 (And.intro hz1 hz2)))
      clear hi0 hz0 hz1 hz2
      have hin : i < 300 := by have := HI.out.1; have := HI.out.2.1; omega
      have gA := World.grownBy_alloc w4 (.cells #[.string nm, .float .f64 (fw r)] 63) none
      have hS4 := H4.out.grown gA
      have hrA := hS4.arow
      rw [HS1.out.1] at hrA
      have hsz := hS4.ho.grown.size
      have H5 := hide hS4
      clear gA hS4
      go_wp2_with (at_builtin; refine wpList_append_own _ rfl (.tmp 67) (.tmp 69) 65 rfl w.heap.size 63 i0 (.agg #[.string ⟨#[]⟩, .float .f64 0]) 2 24 Try.underlying65 HI0.out.1 HI0.out.2.1 HI0.out.2.2.1 HI0.out.2.2.2 rfl (by decide) (.slice a1 i a2) i (acells A) rfl hrA ⟨w4.heap.size, 0, none⟩ 1 1 [.string nm, .float .f64 (fw r)] rfl rfl (Go.Proofs.Ytkbhjdjdjfdikaa.cell2_new _ _ _ _) (by simp [Value.oneCell']) (by unfold maxLen; omega) (by omega) hsz ?_)
      intro v5 w5 ho5 hg5 hv5
      clear hv5 hrA
      obtain ⟨q1, q2, q3⟩ := H5.out.appA ho5 hg5
      obtain ⟨a3, a4, rfl, -⟩ := own_formB ho5
      have hAl : (A ++ [(⟨nm, fw r⟩ : It)]).length = i + 1 := by rw [List.length_append, HS1.out.1]; rfl
      have H6 : Hid (SrS w w5 h (.slice a3 (i + 1) a4) (.slice b1 i b2) (E ++ [(i, ⟨nm, fw r⟩)]) (A ++ [⟨nm, fw r⟩]) Th (i + 1) (i + 1)) := ⟨q3, by rw [hAl]; simpa [acells] using q1, q2⟩
      have HAl := hide hAl
      clear hAl q1 q2 q3 ho5 hg5 H5 H4 H3 HI0 y0 y1 hsz
      obtain ⟨i1, hi0, hz0, hz1, hz2⟩ := info_parts info4
      have HI0 := hide (And.intro hi0 (And.intro hz0 (And.intro hz1 hz2)))
      clear hi0 hz0 hz1 hz2
      have hTl : Th.length = i := by rw [HS1.out.2.2.2.len, HS1.out.1]
      have hS6 := H6.out.grown (World.grownBy_alloc w5 (.cells #[.bool true] 4) none)
      have hrT := hS6.trow
      rw [hTl] at hrT
      have hsz := hS6.ho.grown.size
      have H7 := hide (And.intro hS6 hTl)
      clear hS6 hTl
      go_wp2_with (at_builtin; refine wpList_append_own _ rfl (.tmp 71) (.tmp 72) 66 rfl w.heap.size 4 i1 (.bool false) 1 1 Try.underlying66 HI0.out.1 HI0.out.2.1 HI0.out.2.2.1 HI0.out.2.2.2 rfl (by decide) (.slice b1 i b2) i (bcells Th) rfl hrT ⟨w5.heap.size, 0, none⟩ 1 1 [.bool true] rfl rfl (Go.Proofs.Ytkbhjdjdjfdikaa.cell1_new _ _ _) (by simp [Value.oneCell']) (by unfold maxLen; omega) (by omega) hsz ?_)
      intro v6 w6 ho6 hg6 hv6
      clear hv6 hrT hsz
      obtain ⟨q1, q2, q3⟩ := H7.out.1.appT ho6 hg6
      obtain ⟨b3, b4, rfl, -⟩ := own_formB ho6
      have H8 : Hid (SrS w w6 h (.slice a3 (i + 1) a4) (.slice b3 (i + 1) b4) (E ++ [(i, ⟨nm, fw r⟩)]) (A ++ [⟨nm, fw r⟩]) (Th ++ [true]) (i + 1) (i + 1) ∧ Rel (E ++ [(i, ⟨nm, fw r⟩)]) (A ++ [⟨nm, fw r⟩]) (Th ++ [true])) := ⟨⟨q3, q2, by rw [List.length_append, H7.out.2]; simpa [bcells] using q1⟩, by have := HS1.out.2.2.2.push ⟨nm, fw r⟩; rw [HS1.out.1] at this; exact this⟩
      clear q1 q2 q3 ho6 hg6 H7 H6 HI0
      have hw1' : IntKind.i64.wrap ((i : Int) + 1) = (i : Int) + 1 := by rw [IntKind.wrap_i64]; omega
      go_wp2
      go_roundg (m - (i + 1))
      case measure => have := HQ.out; have := HI.out.1; omega
      case rel => exact ⟨i + 1, by simp, rfl, by have := HI.out.1; omega, ⟨_, _, _, HAl.out, by rw [List.length_append]; have := HS1.out.2.1; simp; omega, H8.out⟩, ⟨_, _, rfl⟩, ⟨_, _, rfl⟩⟩
    · --EXIT1
      obtain rfl : i = m := by omega
      have hd1 : decide ((i : Int) < (i : Int)) = false := by simp
      have hmi : i ≤ 300 := by have := HM.out; omega
      have hmcap : i ≤ cap := by have := HM.out; omega
      have hfw := few_any bo len2 cap2 hc2 wr
      generalize hK : min len2 300 = K at *
      have HK := hide hK
      have H9 : Hid (∃ E A Th B, A.length = i ∧ E.length ≤ i ∧ B ≤ i + 0 ∧ SrS w wr h (.slice a1 i a2) (.slice b1 i b2) E A Th i B ∧ Rel E A Th) := ⟨E, A, Th, i, HS1.out.1, HS1.out.2.1, Nat.le_refl _, HS1.out.2.2⟩
      clear hK HS1 hlt hi HQ
      go_wp2_with fail
      refine hfw.mono ?_
      clear hfw
      rintro e w3 ⟨rfl, hw3⟩
      obtain rfl := hw3.symm
      go_wp2
      go_loopg [12] K (fun q v wr => ∃ j : Nat, v = .int .i64 (j : Int) ∧ q = K - j ∧ j ≤ K ∧ Hid (∃ E A Th B, A.length = i ∧ E.length ≤ i ∧ B ≤ i + j ∧ SrS w wr h (.slice a1 i a2) (.slice b1 i b2) E A Th i B ∧ Rel E A Th))
      case atStart => exact ⟨0, rfl, rfl, Nat.zero_le _, H9.out⟩
      case round =>
        obtain ⟨j, rfl, hq, hj, HS⟩ := hrel
        have HQ := hide hq
        clear hq H9
        obtain ⟨E, A, Th, B, hAi, hEi, hBi, hS, hR⟩ := HS.out
        have HS1 := hide (And.intro hAi (And.intro hEi (And.intro hBi (And.intro hS hR))))
        clear HS hAi hEi hBi hS hR
        by_cases hlt : j < K ∧ 0 < i
        · obtain ⟨hlt, hi0⟩ := hlt
          have hjl : j < os.length := by have := HK.out; have := HA.out.2.2.1; omega
          obtain ⟨o, hoe⟩ : ∃ o, os[j]? = some o := ⟨_, List.getElem?_eq_getElem hjl⟩
          obtain ⟨blk, off, hbo, d0, d1, d2, d3⟩ := (HA.out.2.2.2.1.grown HS1.out.2.2.2.1.ho.grown) j o hoe
          subst hbo
          have hkc : K ≤ cap2 := by have := HK.out; omega
          have hK3 : K ≤ 300 := by have := HK.out; omega
          have hpk := pick_any o.N (i : Int) i wr rfl (by omega) (by omega)
          have hr0 : 0 ≤ o.N % (i : Int) := Int.emod_nonneg _ (by omega)
          have hr1 : o.N % (i : Int) < (i : Int) := Int.emod_lt_of_pos _ (by omega)
          obtain ⟨n, hn⟩ : ∃ n : Nat, o.N % (i : Int) = (n : Int) := ⟨(o.N % (i : Int)).toNat, by omega⟩
          rw [hn] at hpk hr1
          have hni : n < i := by omega
          have hAl : A.length = i := HS1.out.1
          have hTl : Th.length = i := by rw [HS1.out.2.2.2.2.len, hAl]
          obtain ⟨gt, ct, curt, hvt, hbt, hgt, hnt, -, -, htt⟩ := own_rowB HS1.out.2.2.2.1.trow (by omega)
          obtain ⟨ga, ca, cura, hva, hba, hga, hna, -, -, hta⟩ := own_rowB HS1.out.2.2.2.1.arow (by omega)
          rw [hTl] at hvt
          rw [hAl] at hva
          cases hvt
          cases hva
          have HW := hide (And.intro hlt (And.intro hi0 (And.intro hAl (And.intro hTl hK3))))
          have HJ := hide hj
          rw [hTl] at hnt
          rw [hAl] at hna
          clear hr0 hr1 hn hj hjl
          have hd2 : ((j : Int) < (K : Int)) = True := by simp; omega
          have hd3 : ((0 : Int) < (i : Int)) = True := by simp; omega
          by_cases hk4 : o.K = 4
          · rw [hk4] at d0
            clear d1 d3 hk4
            have hcell := own_cell hgt htt (bcells_get (Th := Th) (i := n) (by omega))
            have hfi := HS1.out.2.2.2.2.fi HS1.out.2.2.2.1.ho.hds (n := n) (by omega)
            have hdr := ho_drop' (HS1.out.2.2.2.1.ho.then (grown_drew wr none)) (by have := HS1.out.2.1; omega) (by omega) (by have := HS1.out.2.2.1; omega) (n : Int) (wf_i64 (by omega) (by omega))
            rw [hfi] at hdr
            have HD := hide hdr
            have HCx : Hid (∀ w3 : World, Oth wr.drew w3 → w3.cell? ⟨gt, n, none⟩ = some (.bool (bn Th n))) := fun w3 k => own_cell (k.block gt _ 4 hgt (by decide) (by decide) (by decide)) htt (bcells_get (Th := Th) (i := n) (by omega))
            have HGt := hide (And.intro hgt htt)
            clear hgt htt hga hta hdr hfi
            go_wp2_with fail
            refine hpk.mono ?_
            clear hpk
            rintro e w3 ⟨rfl, hw3⟩
            obtain rfl := hw3.symm
            go_upto_region 24 with fail
            clear d0 d2
            generalize bn Th n = bb at *
            go_region_held3 (fun w3 => w3.cell? ⟨gt, n, none⟩ = some (.bool bb)) (first | assumption | exact hcell | exact HCx.out _ (Oth.grown (grown_refl _ none))) ((go_at_call 26; refine HD.out.mono ?_; rintro e4 w4 ⟨rfl, h4, k4⟩; have hk4 := HCx.out w4 k4; have H4 := hide (And.intro h4 k4); clear h4 k4))
            have hS4 := (HS1.out.2.2.2.1.grown (grown_drew wr none)).heap H4.out.1 H4.out.2
            have hb4 := H4.out.2.block gt _ 4 HGt.out.1 (by decide) (by decide) (by decide)
            have fz4 : w4.frozen? ⟨gt, n, none⟩ = false := free_row hb4 n
            obtain ⟨q1, q2, q3⟩ := hS4.setT (n := n) (by rw [HW.out.2.2.2.1]) (by rw [HW.out.2.2.2.1]; exact hni)
            have hR5 := HS1.out.2.2.2.2.setT HS1.out.2.2.2.1.ho.hds (n := n) (by rw [HW.out.2.2.1]; exact hni)
            have hEl : ((fi E (n : Int)).elim E fun i => outE E i).length ≤ i := by
              have := HS1.out.2.1
              cases fi E (n : Int) with
              | none => exact this
              | some k => simp only [Option.elim]; rw [outE_length]; omega
            have H5 : Hid (∃ E A Th B, A.length = i ∧ E.length ≤ i ∧ B ≤ i + (j + 1) ∧ SrS w (w4.setCell ⟨gt, n, none⟩ (.bool false)) h (.slice (some ⟨ga, 0, none⟩) i a2) (.slice (some ⟨gt, 0, none⟩) i b2) E A Th i B ∧ Rel E A Th) := ⟨_, A, Th.set n false, B + 1, HW.out.2.2.1, hEl, by have := HS1.out.2.2.1; omega, ⟨q3, q2, by rw [List.length_set]; exact q1⟩, hR5⟩
            clear hS4 hb4 q1 q2 q3 hR5 hEl hcell HD HCx
            have hw3' : IntKind.i64.wrap ((j : Int) + 1) = (j : Int) + 1 := by rw [IntKind.wrap_i64]; have := HW.out.2.2.2.2; omega
            go_wp2
            go_roundg (K - (j + 1))
            case measure => have := HQ.out; have := HW.out.1; omega
            case rel => exact ⟨j + 1, by simp, rfl, by have := HW.out.1; omega, H5.out⟩
          · have hk5 : (o.K == 4) = false := by simpa using hk4
            have HP2 := hide (fun W => pick_any o.V 20 20 W rfl (by omega) (by omega))
            have hr0 : 0 ≤ o.V % 20 := Int.emod_nonneg _ (by decide)
            have hr1 : o.V % 20 < 20 := Int.emod_lt_of_pos _ (by decide)
            rw [show (((20 : Nat) : Int)) = 20 from rfl] at HP2
            obtain ⟨r, hr⟩ : ∃ r : Nat, o.V % 20 = (r : Int) := ⟨(o.V % 20).toNat, by omega⟩
            rw [hr] at HP2 hr1
            have HR := hide (show r < 20 by omega)
            have hca := own_cell hga hta (acells_get (A := A) (i := n) (by omega)).2
            have fza : wr.frozen? ⟨ga, n * 2 + 1, none⟩ = false := free_row hga _
            obtain ⟨q1, q2, q3⟩ := HS1.out.2.2.2.1.setA (n := n) (by rw [HW.out.2.2.1]) (by omega) (fw r)
            have hS5 : SrS w (wr.setCell ⟨ga, n * 2 + 1, none⟩ (.float .f64 (fw r))) h (.slice (some ⟨ga, 0, none⟩) i a2) (.slice (some ⟨gt, 0, none⟩) i b2) E (A.set n ⟨(an A n).s, fw r⟩) Th i B := ⟨q3, by rw [List.length_set]; exact q1, q2⟩
            have HS5 := hide hS5
            clear hr0 hr1 hr hk4 q1 q2 q3 hS5 hgt htt hga hta
            go_wp2_with fail
            refine hpk.mono ?_
            clear hpk
            rintro e w3 ⟨rfl, hw3⟩
            obtain rfl := hw3.symm
            go_wp2_with fail
            refine (HP2.out _).mono ?_
            rintro e w3 ⟨rfl, hw3⟩
            obtain rfl := hw3.symm
            go_upto_region 28 with fail
            rw [show floatOfInt .f64 (r : Int) = fw r from rfl]
            generalize wr.setCell ⟨ga, n * 2 + 1, none⟩ (.float .f64 (fw r)) = w5 at *
            clear hca fza d0 d1 d2 d3 HP2
            obtain ⟨gt2, ct2, curt, hvt2, hbt2, hgt, hnt2, -, -, htt⟩ := own_rowB HS5.out.trow (by have := HW.out.2.2.2.1; omega)
            obtain ⟨ga2, ca2, cura, hva2, hba2, hga, hna2, -, -, hta⟩ := own_rowB HS5.out.arow (by rw [List.length_set]; have := HW.out.2.2.1; omega)
            rw [HW.out.2.2.2.1] at hvt2
            rw [List.length_set, HW.out.2.2.1] at hva2
            cases hvt2
            cases hva2
            have hall : (an (A.set n ⟨(an A n).s, fw r⟩) n) = ⟨(an A n).s, fw r⟩ := by rw [an_set _ _ _ _ (by have := HW.out.2.2.1; omega), if_pos rfl]
            have hag := acells_get (A := A.set n ⟨(an A n).s, fw r⟩) (i := n) (by rw [List.length_set]; have := HW.out.2.2.1; omega)
            rw [hall] at hag
            have ct := own_cell hgt htt (bcells_get (Th := Th) (i := n) (by have := HW.out.2.2.2.1; omega))
            have c0 := own_cell hga hta hag.1
            have c1 := own_cell hga hta hag.2
            have HCx : Hid (∀ w3 : World, Oth w5.drew w3 → w3.cell? ⟨gt, n, none⟩ = some (.bool (bn Th n)) ∧ w3.cell? ⟨ga, n * 2, none⟩ = some (.string (an A n).s) ∧ w3.cell? ⟨ga, n * 2 + 1, none⟩ = some (.float .f64 (fw r))) := fun w3 k => ⟨own_cell (k.block gt _ 4 hgt (by decide) (by decide) (by decide)) htt (bcells_get (Th := Th) (i := n) (by have := HW.out.2.2.2.1; omega)), own_cell (k.block ga _ 63 hga (by decide) (by decide) (by decide)) hta hag.1, own_cell (k.block ga _ 63 hga (by decide) (by decide) (by decide)) hta hag.2⟩
            have hfi := HS1.out.2.2.2.2.fi HS1.out.2.2.2.1.ho.hds (n := n) (by have := HW.out.2.2.1; omega)
            have hse := ho_set' (HS5.out.ho.then (grown_drew w5 none)) (by have := HS1.out.2.1; omega) (n : Int) ⟨(an A n).s, fw r⟩ (wf_i64 (by omega) (by omega)) ⟨r, HR.out, rfl⟩
            rw [hfi] at hse
            have HD := hide hse
            have HAN := hide (show ∀ x, x = an A n → True from fun _ _ => trivial)
            clear hgt htt hga hta hse hfi hag hall HAN
            obtain ⟨nm, hnm⟩ : ∃ nm, nm = (an A n).s := ⟨_, rfl⟩
            rw [← hnm] at HCx HD HS5 c0
            have HNM := hide hnm
            clear hnm
            have HBB : Hid True := trivial
            generalize bn Th n = bb at *
            go_region_held3 (fun w3 => w3.cell? ⟨gt, n, none⟩ = some (.bool bb) ∧ w3.cell? ⟨ga, n * 2, none⟩ = some (.string nm) ∧ w3.cell? ⟨ga, n * 2 + 1, none⟩ = some (.float .f64 (fw r))) (first | assumption | exact ⟨ct, c0, c1⟩ | exact HCx.out _ (Oth.grown (grown_refl _ none))) ((go_at_call 27; refine HD.out.mono ?_; rintro e4 w4 ⟨rfl, h4, k4⟩; have hk4 := HCx.out w4 k4; have H4 := hide (And.intro h4 k4); clear h4 k4))
            have hS4 := (HS5.out.grown (grown_drew w5 none)).heap H4.out.1 H4.out.2
            have hR5 := HS1.out.2.2.2.2.setA HS1.out.2.2.2.1.ho.hds (n := n) (by rw [HW.out.2.2.1]; exact hni) ⟨nm, fw r⟩
            have hEl : ((fi E (n : Int)).elim E fun i => setI E i ⟨nm, fw r⟩).length ≤ i := by
              have := HS1.out.2.1
              cases fi E (n : Int) with
              | none => exact this
              | some k => simp only [Option.elim]; rw [setI_length]; omega
            have H5 : Hid (∃ E A Th B, A.length = i ∧ E.length ≤ i ∧ B ≤ i + (j + 1) ∧ SrS w w4 h (.slice (some ⟨ga, 0, none⟩) i a2) (.slice (some ⟨gt, 0, none⟩) i b2) E A Th i B ∧ Rel E A Th) := ⟨_, A.set n ⟨nm, fw r⟩, Th, B, by rw [List.length_set]; exact HW.out.2.2.1, hEl, by have := HS1.out.2.2.1; omega, hS4, hR5⟩
            clear hS4 hR5 hEl HD HCx ct c0 c1 HBB
            have hw3' : IntKind.i64.wrap ((j : Int) + 1) = (j : Int) + 1 := by rw [IntKind.wrap_i64]; have := HW.out.2.2.2.2; omega
            go_wp2
            go_roundg (K - (j + 1))
            case measure => have := HQ.out; have := HW.out.1; omega
            case rel => exact ⟨j + 1, by simp, rfl, by have := HW.out.1; omega, H5.out⟩
        · --EXIT2
          have hln := ho_len HS1.out.2.2.2.1.ho
          go_upto_region 20 with fail
          go_cut [84] from 76 to 84 (fun s84 wx => s84 = .bool false ∧ wx = wr)
          case first =>
            by_cases hjK : j < K
            · have hi0 : i = 0 := by omega
              have hd2 : ((j : Int) < (K : Int)) = True := by simp; omega
              have hd3 : decide ((0 : Int) < (i : Int)) = false := by simp; omega
              have HI0 := hide hi0
              clear hlt hi0 hln
              go_wp2_with fail
              go_meet
              case rel => exact ⟨congrArg Value.bool (by have := HI0.out; simp; omega), rfl⟩
            · have hd2 : decide ((j : Int) < (K : Int)) = false := by simp; omega
              clear hlt hln
              go_wp2_with fail
              go_meet
              case rel => exact ⟨rfl, rfl⟩
          case rest =>
          obtain ⟨rfl, hwx⟩ := hcut
          obtain rfl := hwx.symm
          have HJ2 := hide hj
          clear hlt hj HQ
          go_wp2_with fail
          refine hln.mono ?_
          clear hln
          rintro e w3 ⟨rfl, hw3⟩
          obtain rfl := hw3.symm
          obtain ⟨w5, hw5⟩ : ∃ w5, w5 = wr.alloc (.cells #[.string ⟨#[]⟩, .float .f64 13830554455654793216] 63) := ⟨_, rfl⟩
          have g5 : wr.grownBy w5 none := by rw [hw5]; exact World.grownBy_alloc wr _ none
          have n5 : w5.heap[wr.heap.size]? = some (.cells [Value.string ⟨#[]⟩, .float .f64 13830554455654793216].toArray 63 (0, 0)) := by rw [hw5]; exact heap_alloc_new wr _
          obtain ⟨bL, hbL⟩ : ∃ bL, bL = wr.heap.size := ⟨_, rfl⟩
          rw [← hbL] at n5
          have hbw : w.heap.size ≤ bL := by rw [hbL]; exact HS1.out.2.2.2.1.ho.grown.size
          have hab : (Value.slice a1 i a2).ownBlock ≠ some bL := fun e => by have := (HS1.out.2.2.2.1.arow.lt bL e).2; omega
          have H5 : Hid (∃ A Th B, A.length = i ∧ E.length ≤ i ∧ B + E.length ≤ 1000 ∧ SrS w w5 h (.slice a1 i a2) (.slice b1 i b2) E A Th i B ∧ Rel E A Th ∧ LastOk w5 bL E (-1)) := ⟨A, Th, B, HS1.out.1, HS1.out.2.1, by have := HS1.out.2.1; have := HS1.out.2.2.1; have := HK.out; have := HJ2.out; omega, HS1.out.2.2.2.1.grown g5, HS1.out.2.2.2.2, ⟨_, _, n5, .inl ⟨rfl, rfl⟩⟩⟩
          have HB := hide (And.intro hbw (And.intro hab (And.intro hw5 hbL)))
          clear g5 n5 hbw hab hw5 hbL
          go_upto_region 32 with fail
          rw [← HB.out.2.2.2, ← HB.out.2.2.1]
          go_loopg [14, 16] E.length (fun q l v wr => ∃ (E : List (Nat × It)) (at' : Int), l = .int .i64 (E.length : Int) ∧ v = .int .i64 at' ∧ q = E.length ∧ Hid (∃ A Th B, A.length = i ∧ E.length ≤ i ∧ B + E.length ≤ 1000 ∧ SrS w wr h (.slice a1 i a2) (.slice b1 i b2) E A Th i B ∧ Rel E A Th ∧ LastOk wr bL E at'))
          case atStart => exact ⟨E, -1, rfl, rfl, rfl, H5.out⟩
          case round =>
            obtain ⟨E, at', rfl, rfl, rfl, HS⟩ := hrel
            clear H5 HS1
            obtain ⟨A, Th, B, hAi, hEi, hBi, hS, hR, hL⟩ := HS.out
            have HS1 := hide (And.intro hAi (And.intro hEi (And.intro hBi (And.intro hS (And.intro hR hL)))))
            clear HS hAi hEi hBi hS hR hL
            by_cases hz : 0 < E.length
            · have hpo := ho_pop' HS1.out.2.2.2.1.ho hz (by have := HS1.out.2.1; omega) (by omega) (by have := HS1.out.2.2.1; omega)
              have hE3 : E.length ≤ 300 := by have := HS1.out.2.1; omega
              have HE3 := hide hE3
              obtain ⟨ne, hne⟩ : ∃ ne, ne = E.length := ⟨_, rfl⟩
              rw [← hne] at hz hE3 ⊢
              have HNE := hide hne
              clear hne
              go_wp2_with fail
              refine hpo.mono ?_
              clear hpo
              rintro e w3 ⟨k, hk, hle, rfl, h3, k3⟩
              have hout := HS1.out.2.2.2.2.1.out k hk
              have hwo := h3.ok
              obtain ⟨nx, hnx⟩ : ∃ nx, nx = (en E k).1 := ⟨_, rfl⟩
              obtain ⟨sx, hsx⟩ : ∃ sx, sx = (en E k).2.s := ⟨_, rfl⟩
              obtain ⟨fx, hfx⟩ : ∃ fx, fx = (en E k).2.f := ⟨_, rfl⟩
              rw [← hnx, ← hsx, ← hfx]
              have H3 := hide (And.intro hk (And.intro hle (And.intro h3 (And.intro k3 (And.intro hout (And.intro hnx (And.intro hsx hfx)))))))
              clear hk hle h3 k3 hout hwo hnx hsx hfx
              go_upto_region 35 with fail
              --R35
              obtain ⟨sL, fL, hbL0, hLc⟩ := HS1.out.2.2.2.2.2
              have hbL3 := H3.out.2.2.2.1.block bL _ 63 hbL0 (by decide) (by decide) (by decide)
              obtain ⟨w4, hw4⟩ : ∃ w4, w4 = w3.alloc (.cells #[.string sx, .float .f64 fx] 63) := ⟨_, rfl⟩
              have g4 : w3.grownBy w4 none := by rw [hw4]; exact World.grownBy_alloc w3 _ none
              have hX4 : w4.heap[w3.heap.size]? = some (.cells [Value.string sx, .float .f64 fx].toArray 63 (0, 0)) := by rw [hw4]; exact heap_alloc_new w3 _
              have hL4 := (g4.block bL (row_lt hbL3) (by simp)).trans hbL3
              obtain ⟨bx, hbx⟩ : ∃ bx, bx = w3.heap.size := ⟨_, rfl⟩
              rw [← hw4, ← hbx]
              rw [← hbx] at hX4
              have HS4 := hide ((HS1.out.2.2.2.1.heap H3.out.2.2.1 H3.out.2.2.2.1).grown g4)
              have hwo : Wo (en E k).2 := HS1.out.2.2.2.1.ho.ok _ (en_mem H3.out.1)
              obtain ⟨hfe, hfl, hfn⟩ := last_cond H3.out.1 hwo hLc
              rw [← H3.out.2.2.2.2.2.2.2] at hfe hfl hfn
              rw [← H3.out.2.2.2.2.2.1] at hfn
              have hni : nx < i := by have := H3.out.2.2.2.2.1.1; rw [← H3.out.2.2.2.2.2.1, HS1.out.1] at this; exact this
              have hAl : A.length = i := HS1.out.1
              have hTl : Th.length = i := by rw [HS1.out.2.2.2.2.1.len, hAl]
              obtain ⟨gt, ct, curt, hvt, hbt, hgt, hnt, -, -, htt⟩ := own_rowB HS4.out.trow (by omega)
              obtain ⟨ga, ca, cura, hva, hba, hga, hna, -, -, hta⟩ := own_rowB HS4.out.arow (by omega)
              rw [hTl] at hvt hnt
              rw [hAl] at hva hna
              cases hvt
              cases hva
              have ct := own_cell hgt htt (bcells_get (Th := Th) (i := nx) (by omega))
              have hbT : bn Th nx = true := by rw [H3.out.2.2.2.2.2.1]; exact H3.out.2.2.2.2.1.2.1
              have hag := acells_get (A := A) (i := nx) (by omega)
              have haN : an A nx = (en E k).2 := by rw [H3.out.2.2.2.2.2.1]; exact H3.out.2.2.2.2.1.2.2.symm
              rw [haN, ← H3.out.2.2.2.2.2.2.1, ← H3.out.2.2.2.2.2.2.2] at hag
              rw [hbT] at ct
              have c0 := own_cell hga hta hag.1
              have c1 := own_cell hga hta hag.2
              have x0 := cell_row hX4 0
              have x1 := cell_row hX4 1
              have l1 := cell_row hL4 1
              simp at x0 x1 l1
              have hne := fun W => neq63 W sx fx hfe
              have hgd := eqg63
              have hd1 : ((nx : Int) < 0) = False := by simp
              have hd2 : ((i : Int) ≤ (nx : Int)) = False := by simp; omega
              have hd3 : ((nx : Int) < (i : Int)) = True := by simp; omega
              have HW4 := hide (And.intro hw4 (And.intro hbx (And.intro hgt (And.intro hL4 (And.intro hX4 (And.intro hga (And.intro hni (And.intro hTl hwo))))))))
              clear hbL0 hLc hbL3 hw4 g4 hX4 hL4 hbx hwo hAl hTl hgt htt hga hta hag haN hbT hbt hba hfe
              go_cut [193] from 148 to 193 (fun s193 wx => s193 = .bool false ∧ ∃ nq, wx = w4.drewN nq)
              case first =>
                by_cases hfq : (FloatKind.f64.format.order fx fL == some .eq) = true
                · have hle := hfn hfq
                  have hd4 : ((nx : Int) < at') = False := by simp; omega
                  clear hfn hle
                  go_quiet (fail)
                  go_wp2
                  go_meet
                  case rel => exact ⟨rfl, _, rfl⟩
                · have hfq : (FloatKind.f64.format.order fx fL == some .eq) = false := by simpa using hfq
                  clear hfn
                  go_quiet (fail)
                  go_wp2
                  go_meet
                  case rel => exact ⟨rfl, _, rfl⟩
              case rest =>
              obtain ⟨rfl, nq, hw5⟩ := hcut
              have g5 : w4.grownBy wc none := by rw [hw5]; exact grown_drewN _ _ _
              clear hw5 ct c0 c1 x0 x1 l1 hne hgd hfl hfn hd1 hd2
              have HS5 := hide (HS4.out.grown g5)
              have hgt := (g5.block gt (row_lt HW4.out.2.2.1) (by simp)).trans HW4.out.2.2.1
              have hL5 := (g5.block bL (row_lt HW4.out.2.2.2.1) (by simp)).trans HW4.out.2.2.2.1
              have hX5 := (g5.block bx (row_lt HW4.out.2.2.2.2.1) (by simp)).trans HW4.out.2.2.2.2.1
              have fzt : wc.frozen? ⟨gt, nx, none⟩ = false := free_row hgt nx
              have ct : ∃ u, wc.cell? ⟨gt, nx, none⟩ = some u := by
                obtain ⟨g', c', cur', hv', -, hg', -, -, -, ht'⟩ := own_rowB HS5.out.trow (by rw [HW4.out.2.2.2.2.2.2.2.1]; omega)
                cases hv'
                exact ⟨_, own_cell hg' ht' (bcells_get (Th := Th) (i := nx) (by rw [HW4.out.2.2.2.2.2.2.2.1]; omega))⟩
              obtain ⟨ut, ct⟩ := ct
              obtain ⟨q1, q2, q3⟩ := HS5.out.setT (n := nx) (by rw [HW4.out.2.2.2.2.2.2.2.1]) (by rw [HW4.out.2.2.2.2.2.2.2.1]; exact hni)
              have HS6 : Hid (SrS w (wc.setCell ⟨gt, nx, none⟩ (.bool false)) h (.slice (some ⟨ga, 0, none⟩) i a2) (.slice (some ⟨gt, 0, none⟩) i b2) (outE E k) A (Th.set nx false) i (B + 1)) := ⟨q3, q2, by rw [List.length_set]; exact q1⟩
              have hgL : gt ≠ bL := fun e => by rw [e, hL5] at hgt; simp at hgt
              have hgX : gt ≠ bx := fun e => by rw [e, hX5] at hgt; simp at hgt
              obtain ⟨w6, hw6⟩ : ∃ w6, w6 = wc.setCell ⟨gt, nx, none⟩ (.bool false) := ⟨_, rfl⟩
              have hL6 : w6.heap[bL]? = some (.cells [Value.string sL, .float .f64 fL].toArray 63 (0, 0)) := by rw [hw6]; exact ((grown_setCell wc gt nx _).block bL (row_lt hL5) (by simp; omega)).trans hL5
              have hX6 : w6.heap[bx]? = some (.cells [Value.string sx, .float .f64 fx].toArray 63 (0, 0)) := by rw [hw6]; exact ((grown_setCell wc gt nx _).block bx (row_lt hX5) (by simp; omega)).trans hX5
              have x0 := cell_row hX6 0
              have x1 := cell_row hX6 1
              have l0 := cell_row hL6 0
              have l1 := cell_row hL6 1
              simp at x0 x1 l0 l1
              have fl0 : w6.frozen? ⟨bL, 0, none⟩ = false := free_row hL6 0
              have fl1 : w6.frozen? ⟨bL, 1, none⟩ = false := free_row hL6 1
              rw [← hw6] at HS6
              have HL6 := hide (And.intro hL6 hgL)
              clear g5 hgt hL5 hX5 q1 q2 q3 hgL hgX hL6 hX6
              go_upto_region 38 with fail
              rw [← hw6]
              clear hw6 ct fzt
              obtain ⟨w7, hw7⟩ : ∃ w7, w7 = (w6.setCell ⟨bL, 0, none⟩ (.string sx)).setCell ⟨bL, 1, none⟩ (.float .f64 fx) := ⟨_, rfl⟩
              have hL7 : w7.heap[bL]? = some (.cells [Value.string sx, .float .f64 fx].toArray 63 (0, 0)) := by rw [hw7]; exact row_setCell (row_setCell HL6.out.1 0 _) 1 _
              have k7 : Kept w6 w7 (fun q => q = bL) := by rw [hw7]; exact (Kept.of (grown_setCell w6 bL 0 _) (fun j e _ => by simpa using e.symm)).trans (Kept.of (grown_setCell _ bL 1 _) (fun j e _ => by simpa using e.symm)) (fun _ _ e => e)
              have HS7 : Hid (SrS w w7 h (.slice (some ⟨ga, 0, none⟩) i a2) (.slice (some ⟨gt, 0, none⟩) i b2) (outE E k) A (Th.set nx false) i (B + 1)) := by
                refine ⟨HS6.out.ho.other k7 (fun q e => ?_), row_keepB HS6.out.arow (fun g hg => ?_), row_keepB HS6.out.trow (fun g hg => ?_)⟩
                · subst e
                  exact ⟨HB.out.1, _, 63, HL6.out.1, by decide, by decide, by decide⟩
                · obtain ⟨_, c1, h1⟩ := own_blockB HS6.out.arow hg
                  exact k7.block g (row_lt h1) (fun e => HB.out.2.1 (by rw [hg, e]))
                · obtain ⟨_, c1, h1⟩ := own_blockB HS6.out.trow hg
                  exact k7.block g (row_lt h1) (fun e => by rw [e, HL6.out.1] at h1; simp at h1)
              have HR7 : Hid (Rel (outE E k) A (Th.set nx false) ∧ LastOk w7 bL (outE E k) (nx : Int)) := ⟨HS1.out.2.2.2.2.1.gone HS1.out.2.2.2.1.ho.hds H3.out.1 H3.out.2.2.2.2.2.1.symm, sx, fx, hL7, .inr (by rw [H3.out.2.2.2.2.2.2.2, H3.out.2.2.2.2.2.1]; exact last_next H3.out.1 HW4.out.2.2.2.2.2.2.2.2 H3.out.2.1)⟩
              have hwr : IntKind.i64.wrap ((ne : Int) - 1) = (ne : Int) - 1 := by rw [IntKind.wrap_i64]; omega
              clear hL7 k7
              go_wp2
              rw [← hw7]
              go_roundg (ne - 1)
              case measure => have := HNE.out; omega
              case rel => exact ⟨outE E k, nx, by have := HNE.out; rw [outE_length]; exact congrArg _ (by omega), rfl, by have := HNE.out; rw [outE_length]; omega, A, Th.set nx false, B + 1, HS1.out.1, by rw [outE_length]; have := HS1.out.2.1; omega, by rw [outE_length]; have := HS1.out.2.2.1; have := HNE.out; omega, HS7.out, HR7.out.1, HR7.out.2⟩
            · --EXIT3
              have hE0 : E.length = 0 := by omega
              rw [show ((E.length : Nat) : Int) = 0 by rw [hE0]; rfl]
              have hTl : Th.length = i := by rw [HS1.out.2.2.2.2.1.len, HS1.out.1]
              have HE0 := hide (And.intro hE0 hTl)
              have hpn := ho_pop_none HS1.out.2.2.2.1.ho hE0
              have HPN := hide hpn
              clear hpn hE0 hz hTl
              go_wp2
              go_loopg [20] i (fun q v wz => ∃ t : Nat, v = .int .i64 (t : Int) ∧ q = i - t ∧ t ≤ i ∧ wz = wr)
              case atStart => exact ⟨0, rfl, rfl, Nat.zero_le _, rfl⟩
              case round =>
                obtain ⟨t, rfl, hq, hti, hwz⟩ := hrel
                subst hwz
                have HQ := hide hq
                clear hq
                by_cases hlt : t < i
                · have hTl := HE0.out.2
                  obtain ⟨gt, ct, curt, hvt, hbt, hgt, hnt, -, -, htt⟩ := own_rowB HS1.out.2.2.2.1.trow (by omega)
                  rw [hTl] at hvt hnt
                  cases hvt
                  have ct := own_cell hgt htt (bcells_get (Th := Th) (i := t) (by omega))
                  have hbF : bn Th t = false := by
                    cases hb : bn Th t with
                    | false => rfl
                    | true =>
                      obtain ⟨q, hq, -⟩ := HS1.out.2.2.2.2.1.inn t (by rw [HS1.out.1]; exact hlt) hb
                      have := HE0.out.1
                      omega
                  rw [hbF] at ct
                  have hd2 : ((t : Int) < (i : Int)) = True := by simp; omega
                  have hw3' : IntKind.i64.wrap ((t : Int) + 1) = (t : Int) + 1 := by rw [IntKind.wrap_i64]; omega
                  clear hbF hTl hgt htt hti
                  go_wp2
                  go_roundg (i - (t + 1))
                  case measure => have := HQ.out; omega
                  case rel => exact ⟨t + 1, by simp, rfl, by omega, rfl⟩
                · have hd2 : ((t : Int) < (i : Int)) = False := by simp; omega
                  clear hlt hti
                  go_wp2_with fail
                  refine HPN.out.mono ?_
                  rintro e w3 ⟨rfl, h3⟩
                  have H3 := hide (h3.then (World.grownBy_alloc w3 (.cells #[.string ⟨#[]⟩, .float .f64 0] 63) none))
                  have hln := ho_len H3.out
                  rw [HE0.out.1] at hln
                  clear h3
                  go_wp2_with (go_at_call 28; refine hln.mono ?_; rintro e w5 ⟨rfl, hw5⟩; obtain rfl := hw5.symm)
                  go_ret
                  exact ⟨rfl, H3.out.grown⟩
end Go.Proofs.Ytkbhjdjdjfdikaa.Th
