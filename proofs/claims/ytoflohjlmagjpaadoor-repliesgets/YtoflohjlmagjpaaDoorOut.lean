/- The contract of a Writer's Out: a new row with just the bytes that were put. -/
import Derived.Test.YtoflohjlmagjpaaDoorWriter
import Derived.Deep.OwnRows
namespace Go.Proofs.YtoflohjlmagjpaaDoor
open Go.RowKit
attribute [local go_sem ↓] Go.wp_at_zero Go.wp_at_succ

theorem Tryd.info5 : (Tryd.prog.info? 5).map (fun i => (i.zero, i.size, i.bytes)) = some (some (.int .u8 0), 1, 1) := by kernel_rfl
/-- n cells of zeros. -/
def zrow (n : Nat) : List Value := List.replicate n (.int .u8 0)
theorem made_zrow (n : Nat) : madeCells #[.int .u8 0] n = (zrow n).toArray := by
  apply Array.ext'
  rw [toList_madeCells_one]
  rfl
theorem make_bytes (n : Nat) (h : n ≤ 281474976710656) (w : World) : (Instr.makeSlice 27 (.int .i64 (n : Int)) (.int .i64 (n : Int))).run Tryd.prog w = .ok (.slice (some ⟨w.heap.size, 0, none⟩) n n) (w.alloc (.cells (zrow n).toArray 5)) := by
  rw [run_make_row' (P := Tryd.prog) 27 5 (.int .u8 0) 1 Tryd.underlying27 Tryd.info5 rfl .i64 .i64 n (by omega) (by omega) w, made_zrow]
theorem sliceAt_all (g : Nat) (w : World) : (Instr.sliceAt 44 (.pointer (some ⟨g, 1, none⟩)) none none none).run Tryd.prog w = .ok (.slice (some ⟨g, 1, none⟩) 64 64) w := by
  simp [Instr.sliceAt, Instr.sureAddr, run_underlying Tryd.underlying44, Instr.sliceBounds, Addr.add_mid]
/-- What is still zeros, what has been laid behind them. -/
def orow (k : Nat) (rest : List Int) : List Value := zrow k ++ rest.map (Value.int .u8)
theorem orow_length (k : Nat) (rest : List Int) : (orow k rest).length = k + rest.length := by simp [orow, zrow]
theorem orow_splice (k : Nat) (c rest : List Int) : splice (orow (k + c.length) rest) k (c.map (Value.int .u8)) = orow k (c ++ rest) := by
  simp [splice, orow, zrow, List.take_append]
theorem zrow_orow (n : Nat) : zrow n = orow n [] := by simp [orow]

theorem at_of_block {w : World} {g : Nat} {v : Value} {c t : List Value} {e : TypeId} (h : w.heap[g]? = some (.cells (v :: (c ++ t)).toArray e (0, 0))) : ∀ j u, c[j]? = some u → w.cell? ((⟨g, 1, none⟩ : Addr).add j) = some u := by
  intro j u hu
  have hj := (List.getElem?_eq_some_iff.1 hu).1
  rw [Addr.add_lit, cell_row h, Nat.add_comm, List.getElem?_cons_succ, List.getElem?_append_left hj, hu]

theorem chain_length {w : World} : ∀ {cs : List (List Int)} {v : Value}, Chain w v cs → cs.reverse.flatten.length = 64 * cs.length
  | [], _, _ => rfl
  | c :: cs, v, ⟨_, v', _, _, hl, h⟩ => by
    have := chain_length h
    simp only [List.reverse_cons, List.flatten_append, List.length_append, List.flatten_cons, List.flatten_nil, List.append_nil, List.length_cons, hl, this]
    omega

set_option maxHeartbeats 1000000 in
set_option maxRecDepth 100000 in
theorem out_any (g : Nat) (bs : List Int) (w : World) (hW : WrAt w g bs) (hL : bs.length ≤ 281474976710656) :
    Calls Tryd.prog 25 #[.pointer (some ⟨g, 0, none⟩)] w fun e w' => e = .returned (.slice (some ⟨w.heap.size, 0, none⟩) bs.length bs.length) ∧ w'.heap[w.heap.size]? = some (.cells (bs.map (Value.int .u8)).toArray 5 (0, 0)) ∧ w.grownBy w' none := by
  obtain ⟨v, cs, op, hb, hl, hc, he⟩ := hW
  obtain ⟨n, hn⟩ : ∃ n, n = bs.length := ⟨_, rfl⟩
  rw [← hn] at hb hL he ⊢
  obtain ⟨r, hr⟩ : ∃ r, r = n % 64 := ⟨_, rfl⟩
  rw [← hr] at he
  have hr64 : r < 64 := by omega
  have hrn : r ≤ n := by omega
  have hr1 : (n : Int) % 64 = (r : Int) := by rw [hr]; simp
  have hr2 : (n : Int).tmod 64 = (r : Int) := by rw [hr]; simp [Int.tmod_eq_emod_of_nonneg]
  have hgl := row_lt hb
  have c65 : w.cell? ⟨g, 65, none⟩ = some (.int .i64 n) := by rw [cell_row hb, wrow_last _ _ _ hl]
  have hwm : IntKind.i64.wrap ((n - r : Nat) : Int) = ((n - r : Nat) : Int) := by rw [IntKind.wrap_i64]; omega
  have hmk := make_bytes n hL
  have hsa := sliceAt_all g
  obtain ⟨m, hm⟩ : ∃ m, m = n - r := ⟨_, rfl⟩
  have hm1 : (n : Int) - (r : Int) = (m : Int) := by omega
  rw [← hm] at hwm
  have hcut : ∀ w', (Instr.slice 27 (.slice (some ⟨w.heap.size, 0, none⟩) n n) (some (.int .i64 (m : Int))) none none).run Tryd.prog w' = .ok (.slice (cutA (some ⟨w.heap.size, 0, none⟩) m n) (n - m) (n - m)) w' := slice_from _ n n m (by omega)
  have c65' : (w.alloc (.cells (zrow n).toArray 5)).cell? ⟨g, 65, none⟩ = some (.int .i64 n) := by rw [World.cell?_alloc_lt _ _ _ hgl]; exact c65
  have HN := hide (And.intro hn (And.intro hr (And.intro hm (And.intro hb (And.intro hl (And.intro hc he))))))
  clear hn hr hm hb hl hc he
  go_enter Tryd.func25, Tryd.ntmps25
  go_wp2
  go_region_held3 (fun w' => w'.cell? ⟨g, 65, none⟩ = some (.int .i64 n)) (first | exact c65' | go_keep) (fail)
  obtain ⟨OV, hOV⟩ : ∃ OV, OV = (op.take r).map (Value.int .u8) := ⟨_, rfl⟩
  have hK : Hid (OV.length = Nat.min 64 (n - m) ∧ OV.length = r ∧ (0 < OV.length → cutA (some ⟨w.heap.size, 0, none⟩) m n = some ⟨w.heap.size, m, none⟩ ∧ ∃ ad, (some ⟨g, 1, none⟩ : Option Addr) = some ad ∧ ∀ j u, OV[j]? = some u → (w.alloc (.cells (zrow n).toArray 5)).drew.drew.cell? (ad.add j) = some u)
      ∧ m + OV.length ≤ (zrow n).length ∧ (∀ u ∈ OV, u.oneCell' = true) ∧ (w.alloc (.cells (zrow n).toArray 5)).drew.drew.heap[w.heap.size]? = some (.cells (zrow n).toArray 5 (0, 0))) := by
    obtain ⟨hn, hr, hm, hb, hl, hc, he⟩ := HN.out
    have hOl : OV.length = r := by rw [hOV]; simp; omega
    refine ⟨by rw [hOl]; simp only [Nat.min_def]; split <;> omega, hOl, ?_, by simp [zrow]; omega, ?_, heap_alloc_new w _⟩
    · intro hp
      refine ⟨by unfold cutA; rw [if_neg (by omega)]; simp [Addr.add_lit], _, rfl, ?_⟩
      intro j u hu
      have hlt : (((⟨g, 1, none⟩ : Addr).add j)).block < w.heap.size := by rw [addr_add_block]; exact hgl
      show (w.alloc (.cells (zrow n).toArray 5)).cell? _ = some u
      rw [World.cell?_alloc_lt _ _ _ hlt]
      refine at_of_block (c := op.map (Value.int .u8)) (t := [.int .i64 (n : Int)]) hb j u ?_
      rw [hOV, List.map_take, List.getElem?_take] at hu
      split at hu
      · exact hu
      · cases hu
    · intro u hu; rw [hOV, List.mem_map] at hu; obtain ⟨x, _, rfl⟩ := hu; rfl
  have HOV := hide hOV
  clear hOV
  go_wp2
  go_region_held3 (fun w' => True) (trivial) ((refine step_copy_grown rfl (.tmp 25) (.tmp 29) 27 27 rfl 5 Tryd.underlying27 Tryd.size5 _ _ _ _ _ _ (by rfl) (by rfl) w.heap.size m (zrow n) 5 hK.out.2.2.2.2.2 OV hK.out.1 hK.out.2.2.1 hK.out.2.2.2.1 hK.out.2.2.2.2.1 ?_; rw [hK.out.2.1]; intro w2 H2 hg2))
  have c0 : w2.cell? ⟨g, 0, none⟩ = some v := by
    obtain ⟨hn, hr, hm, hb, hl, hc, he⟩ := HN.out
    refine hg2.cell ?_ (by simp; omega)
    show (w.alloc (.cells (zrow n).toArray 5)).cell? _ = some v
    rw [World.cell?_alloc_lt _ _ _ hgl, cell_row hb, wrow_zero]
  go_wp2
  go_loopg [4, 5] cs.length (fun k at_ b wr => ∃ (ds : List (List Int)) (rest : List Int), ds.length = k ∧ at_ = .int .i64 ((64 * k : Nat) : Int) ∧ Chain wr b ds ∧ bs = ds.reverse.flatten ++ rest ∧ wr.heap[w.heap.size]? = some (.cells (orow (64 * k) rest).toArray 5 (0, 0)) ∧ w.grownBy wr none)
  case atStart =>
    obtain ⟨hn, hr, hm, hb, hl, hc, he⟩ := HN.out
    have hg : w.grownBy w2 none := grown_then (grown_then (World.grownBy_alloc w _ none) (grown_trans (grown_drew _ none) (grown_drew _ none)) (fun _ e => by cases e)) hg2 (fun k e => by cases e; exact Or.inl (Nat.le_refl _))
    have hc2 := Chain.kept hg (NoBlock.none _) cs v hc
    have hm64 : m = 64 * cs.length := by
      have h1 := chain_length hc
      have h2 : bs.length = cs.reverse.flatten.length + r := by rw [he]; simp; omega
      omega
    refine ⟨cs, op.take r, rfl, ?_, hc2, he, ?_, hg⟩
    · rw [← hm64]
    · have h2 := H2.out
      rw [HOV.out, zrow_orow, show n = m + (op.take r).length from by simp; omega, orow_splice, hm64] at h2
      simpa using h2
  case round =>
    obtain ⟨ds, rest, hdk, rfl, hch, hbs, hrow, hgr⟩ := hrel
    cases ds with
    | nil =>
      have hv : u5 = .pointer none := hch
      subst hv
      have hk0 : gk = 0 := by simpa using hdk.symm
      subst hk0
      have HR := hide (And.intro hbs hrow)
      clear hch hbs hrow hdk
      go_wp2
      go_ret
      obtain ⟨hbs, hrow⟩ := HR.out
      refine ⟨rfl, ?_, hgr⟩
      have hbr : bs = rest := by simpa using hbs
      rw [hbr]
      simpa [orow, zrow] using hrow
    | cons c ds =>
      obtain ⟨h, v', rfl, hb', hcl, hch'⟩ := hch
      obtain ⟨hn, hr, hm, hb, hl, hc, he⟩ := HN.out
      have hne : h ≠ w.heap.size := by
        intro e; rw [e, hrow] at hb'; simp at hb'
      have hcl2 := chain_length hch'
      have hbl : n = 64 * ds.length + 64 + rest.length := by
        rw [hn, hbs]
        simp only [List.reverse_cons, List.flatten_append, List.length_append, List.flatten_cons, List.flatten_nil, List.append_nil, hcl, hcl2]
      have hgk : gk = ds.length + 1 := by simpa using hdk.symm
      obtain ⟨A, hA⟩ : ∃ A, A = 64 * ds.length := ⟨_, rfl⟩
      have hA1 : 64 * (gk : Int) - 64 = (A : Int) := by omega
      have hA2 : ((64 * gk : Nat) : Int) - 64 = (A : Int) := by omega
      obtain ⟨CV, hCV⟩ : ∃ CV, CV = c.map (Value.int .u8) := ⟨_, rfl⟩
      have hsa' := sliceAt_all h
      have hcut' : ∀ w', (Instr.slice 27 (.slice (some ⟨w.heap.size, 0, none⟩) n n) (some (.int .i64 (A : Int))) none none).run Tryd.prog w' = .ok (.slice (cutA (some ⟨w.heap.size, 0, none⟩) A n) (n - A) (n - A)) w' := slice_from _ n n A (by omega)
      have hK' : Hid (CV.length = Nat.min 64 (n - A) ∧ CV.length = 64 ∧ (0 < CV.length → cutA (some ⟨w.heap.size, 0, none⟩) A n = some ⟨w.heap.size, A, none⟩ ∧ ∃ ad, (some ⟨h, 1, none⟩ : Option Addr) = some ad ∧ ∀ j u, CV[j]? = some u → wr.drew.cell? (ad.add j) = some u)
          ∧ A + CV.length ≤ (orow (64 * gk) rest).length ∧ (∀ u ∈ CV, u.oneCell' = true) ∧ wr.drew.heap[w.heap.size]? = some (.cells (orow (64 * gk) rest).toArray 5 (0, 0))) := by
        have hCl : CV.length = 64 := by rw [hCV]; simpa using hcl
        refine ⟨by rw [hCl]; simp only [Nat.min_def]; split <;> omega, hCl, ?_, by rw [orow_length]; omega, ?_, hrow⟩
        · intro _
          refine ⟨by unfold cutA; rw [if_neg (by omega)]; simp [Addr.add_lit], _, rfl, ?_⟩
          intro j u hu
          exact at_of_block (w := wr) (c := c.map (Value.int .u8)) (t := []) (by simpa using hb') j u (by rw [← hCV]; exact hu)
        · intro u hu; rw [hCV, List.mem_map] at hu; obtain ⟨x, _, rfl⟩ := hu; rfl
      have HR := hide (And.intro hA (And.intro hCV (And.intro hb' (And.intro hcl (And.intro hch' (And.intro hbs (And.intro hrow hgk)))))))
      have hA3 : A ≤ 281474976710656 := by omega
      have hA4 : 64 * gk ≤ 281474976710656 := by omega
      have hhl := row_lt hb'
      clear hn hr hm hb hl hc he hA hCV hb' hcl hch' hbs hrow hdk hcl2 hbl hgk
      go_wp2
      go_region_held3 (fun w' => True) (trivial) ((refine step_copy_grown rfl (.tmp 45) (.tmp 49) 27 27 rfl 5 Tryd.underlying27 Tryd.size5 _ _ _ _ _ _ (by rfl) (by rfl) w.heap.size A (orow (64 * gk) rest) 5 hK'.out.2.2.2.2.2 CV hK'.out.1 hK'.out.2.2.1 hK'.out.2.2.2.1 hK'.out.2.2.2.2.1 ?_; rw [hK'.out.2.1]; intro w3 H3 hg3))
      have c0' : w3.cell? ⟨h, 0, none⟩ = some v' := by
        obtain ⟨hA, hCV, hb', hcl, hch', hbs, hrow, hgk⟩ := HR.out
        refine hg3.cell (v := v') ?_ (by simpa using hne)
        show wr.cell? _ = some v'
        rw [cell_row hb']; rfl
      go_wp2
      go_roundg ds.length
      case measure => obtain ⟨hA, hCV, hb', hcl, hch', hbs, hrow, hgk⟩ := HR.out; omega
      case rel =>
        obtain ⟨hA, hCV, hb', hcl, hch', hbs, hrow, hgk⟩ := HR.out
        have hg3' : wr.grownBy w3 (some w.heap.size) := grown_trans (grown_drew wr _) hg3
        refine ⟨ds, c ++ rest, rfl, by rw [hA], Chain.kept hg3' (NoBlock.of hrow (by decide)) ds v' hch', ?_, ?_, grown_then hgr hg3' (fun k e => by cases e; exact Or.inl (Nat.le_refl _))⟩
        · rw [hbs]; simp
        · have h3 := H3.out
          rw [hCV, show 64 * gk = A + c.length from by omega, orow_splice, hA] at h3
          exact h3

end Go.Proofs.YtoflohjlmagjpaaDoor
