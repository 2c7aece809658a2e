/- Texts joined: OcOut, OcReader, OcRead2, OcRead3, OcKit, OcLent, OcOver. -/
import Derived.Test.YtahjckcfcdnlmaaGreatDoorJbAo
import Derived.Deep.OwnRows
import Derived.Laws.AppendOwnNone
import Derived.Deep.QuietTactic
import Derived.BigQuiet
/- The contract of a Writer's Out: a new row with just the bytes that were put. -/
namespace Go.Proofs.YtahjckcfcdnlmaaGreatDoor.Oc
open Go.RowKit
attribute [local go_sem ↓] Go.wp_at_zero Go.wp_at_succ

theorem Tryz.info5 : (Tryz.prog.info? 5).map (fun i => (i.zero, i.size, i.bytes)) = some (some (.int .u8 0), 1, 1) := by kernel_rfl
/-- n cells of zeros. -/
def zrow (n : Nat) : List Value := List.replicate n (.int .u8 0)
theorem made_zrow (n : Nat) : madeCells #[.int .u8 0] n = (zrow n).toArray := by
  apply Array.ext'
  rw [toList_madeCells_one]
  rfl
theorem make_bytes (n : Nat) (h : n ≤ 281474976710656) (w : World) : (Instr.makeSlice 24 (.int .i64 (n : Int)) (.int .i64 (n : Int))).run Tryz.prog w = .ok (.slice (some ⟨w.heap.size, 0, none⟩) n n) (w.alloc (.cells (zrow n).toArray 5)) := by
  rw [run_make_row' (P := Tryz.prog) 24 5 (.int .u8 0) 1 Tryz.underlying24 Tryz.info5 rfl .i64 .i64 n (by omega) (by omega) w, made_zrow]
theorem sliceAt_all (g : Nat) (w : World) : (Instr.sliceAt 89 (.pointer (some ⟨g, 1, none⟩)) none none none).run Tryz.prog w = .ok (.slice (some ⟨g, 1, none⟩) 64 64) w := by
  simp [Instr.sliceAt, Instr.sureAddr, run_underlying Tryz.underlying89, Instr.sliceBounds, Addr.add_mid]
/-- What is still zeros, what has been laid behind them. -/
def orow (k : Nat) (rest : List Int) : List Value := zrow k ++ rest.map (Value.int .u8)
theorem orow_length (k : Nat) (rest : List Int) : (orow k rest).length = k + rest.length := by simp [orow, zrow]
theorem orow_splice (k : Nat) (c rest : List Int) : splice (orow (k + c.length) rest) k (c.map (Value.int .u8)) = orow k (c ++ rest) := by
  simp [splice, orow, zrow, List.take_append]
theorem zrow_orow (n : Nat) : zrow n = orow n [] := by simp [orow]

theorem at_of_block {w : World} {g : Nat} {v : Value} {c t : List Value} {e : TypeId} (h : w.heap[g]? = some (.cells (v :: (c ++ t)).toArray e (0, 0))) : ∀ j u, c[j]? = some u → w.cell? ((⟨g, 1, none⟩ : Addr).add j) = some u := by
  intro j u hu
  have hj := (List.getElem?_eq_some_iff.1 hu).1
  rw [Addr.add_lit, cell_row h, Nat.add_comm, List.getElem?_cons_succ, List.getElem?_append_left hj, hu]

theorem chain_length {w : World} : ∀ {cs : List (List Int)} {v : Value}, Chain w v cs → cs.reverse.flatten.length = 64 * cs.length
  | [], _, _ => rfl
  | c :: cs, v, ⟨_, v', _, _, hl, h⟩ => by
    have := chain_length h
    simp only [List.reverse_cons, List.flatten_append, List.length_append, List.flatten_cons, List.flatten_nil, List.append_nil, List.length_cons, hl, this]
    omega

set_option maxHeartbeats 1000000 in
set_option maxRecDepth 100000 in
theorem out_any (g : Nat) (bs : List Int) (w : World) (hW : WrAt w g bs) (hL : bs.length ≤ 281474976710656) :
    Calls Tryz.prog 46 #[.pointer (some ⟨g, 0, none⟩)] w fun e w' => e = .returned (.slice (some ⟨w.heap.size, 0, none⟩) bs.length bs.length) ∧ w'.heap[w.heap.size]? = some (.cells (bs.map (Value.int .u8)).toArray 5 (0, 0)) ∧ w.grownBy w' none := by
  obtain ⟨v, cs, op, hb, hl, hc, he⟩ := hW
  obtain ⟨n, hn⟩ : ∃ n, n = bs.length := ⟨_, rfl⟩
  rw [← hn] at hb hL he ⊢
  obtain ⟨r, hr⟩ : ∃ r, r = n % 64 := ⟨_, rfl⟩
  rw [← hr] at he
  have hr64 : r < 64 := by omega
  have hrn : r ≤ n := by omega
  have hr1 : (n : Int) % 64 = (r : Int) := by rw [hr]; simp
  have hr2 : (n : Int).tmod 64 = (r : Int) := by rw [hr]; simp [Int.tmod_eq_emod_of_nonneg]
  have hgl := row_lt hb
  have c65 : w.cell? ⟨g, 65, none⟩ = some (.int .i64 n) := by rw [cell_row hb, wrow_last _ _ _ hl]
  have hwm : IntKind.i64.wrap ((n - r : Nat) : Int) = ((n - r : Nat) : Int) := by rw [IntKind.wrap_i64]; omega
  have hmk := make_bytes n hL
  have hsa := sliceAt_all g
  obtain ⟨m, hm⟩ : ∃ m, m = n - r := ⟨_, rfl⟩
  have hm1 : (n : Int) - (r : Int) = (m : Int) := by omega
  rw [← hm] at hwm
  have hcut : ∀ w', (Instr.slice 24 (.slice (some ⟨w.heap.size, 0, none⟩) n n) (some (.int .i64 (m : Int))) none none).run Tryz.prog w' = .ok (.slice (cutA (some ⟨w.heap.size, 0, none⟩) m n) (n - m) (n - m)) w' := slice_from _ n n m (by omega)
  have c65' : (w.alloc (.cells (zrow n).toArray 5)).cell? ⟨g, 65, none⟩ = some (.int .i64 n) := by rw [World.cell?_alloc_lt _ _ _ hgl]; exact c65
  have HN := hide (And.intro hn (And.intro hr (And.intro hm (And.intro hb (And.intro hl (And.intro hc he))))))
  clear hn hr hm hb hl hc he
  go_enter Tryz.func46, Tryz.ntmps46
  go_wp2
  go_region_held3 (fun w' => w'.cell? ⟨g, 65, none⟩ = some (.int .i64 n)) (first | exact c65' | go_keep) (fail)
  obtain ⟨OV, hOV⟩ : ∃ OV, OV = (op.take r).map (Value.int .u8) := ⟨_, rfl⟩
  have hK : Hid (OV.length = Nat.min 64 (n - m) ∧ OV.length = r ∧ (0 < OV.length → cutA (some ⟨w.heap.size, 0, none⟩) m n = some ⟨w.heap.size, m, none⟩ ∧ ∃ ad, (some ⟨g, 1, none⟩ : Option Addr) = some ad ∧ ∀ j u, OV[j]? = some u → (w.alloc (.cells (zrow n).toArray 5)).drew.drew.cell? (ad.add j) = some u)
      ∧ m + OV.length ≤ (zrow n).length ∧ (∀ u ∈ OV, u.oneCell' = true) ∧ (w.alloc (.cells (zrow n).toArray 5)).drew.drew.heap[w.heap.size]? = some (.cells (zrow n).toArray 5 (0, 0))) := by
    obtain ⟨hn, hr, hm, hb, hl, hc, he⟩ := HN.out
    have hOl : OV.length = r := by rw [hOV]; simp; omega
    refine ⟨by rw [hOl]; simp only [Nat.min_def]; split <;> omega, hOl, ?_, by simp [zrow]; omega, ?_, heap_alloc_new w _⟩
    · intro hp
      refine ⟨by unfold cutA; rw [if_neg (by omega)]; simp [Addr.add_lit], _, rfl, ?_⟩
      intro j u hu
      have hlt : (((⟨g, 1, none⟩ : Addr).add j)).block < w.heap.size := by rw [addr_add_block]; exact hgl
      show (w.alloc (.cells (zrow n).toArray 5)).cell? _ = some u
      rw [World.cell?_alloc_lt _ _ _ hlt]
      refine at_of_block (c := op.map (Value.int .u8)) (t := [.int .i64 (n : Int)]) hb j u ?_
      rw [hOV, List.map_take, List.getElem?_take] at hu
      split at hu
      · exact hu
      · cases hu
    · intro u hu; rw [hOV, List.mem_map] at hu; obtain ⟨x, _, rfl⟩ := hu; rfl
  have HOV := hide hOV
  clear hOV
  go_wp2
  go_region_held3 (fun w' => True) (trivial) ((refine step_copy_grown rfl (.tmp 25) (.tmp 29) 24 24 rfl 5 Tryz.underlying24 Tryz.size5 _ _ _ _ _ _ (by rfl) (by rfl) w.heap.size m (zrow n) 5 hK.out.2.2.2.2.2 OV hK.out.1 hK.out.2.2.1 hK.out.2.2.2.1 hK.out.2.2.2.2.1 ?_; rw [hK.out.2.1]; intro w2 H2 hg2))
  have c0 : w2.cell? ⟨g, 0, none⟩ = some v := by
    obtain ⟨hn, hr, hm, hb, hl, hc, he⟩ := HN.out
    refine hg2.cell ?_ (by simp; omega)
    show (w.alloc (.cells (zrow n).toArray 5)).cell? _ = some v
    rw [World.cell?_alloc_lt _ _ _ hgl, cell_row hb, wrow_zero]
  go_wp2
  go_loopg [4, 5] cs.length (fun k at_ b wr => ∃ (ds : List (List Int)) (rest : List Int), ds.length = k ∧ at_ = .int .i64 ((64 * k : Nat) : Int) ∧ Chain wr b ds ∧ bs = ds.reverse.flatten ++ rest ∧ wr.heap[w.heap.size]? = some (.cells (orow (64 * k) rest).toArray 5 (0, 0)) ∧ w.grownBy wr none)
  case atStart =>
    obtain ⟨hn, hr, hm, hb, hl, hc, he⟩ := HN.out
    have hg : w.grownBy w2 none := grown_then (grown_then (World.grownBy_alloc w _ none) (grown_trans (grown_drew _ none) (grown_drew _ none)) (fun _ e => by cases e)) hg2 (fun k e => by cases e; exact Or.inl (Nat.le_refl _))
    have hc2 := Chain.kept hg (NoBlock.none _) cs v hc
    have hm64 : m = 64 * cs.length := by
      have h1 := chain_length hc
      have h2 : bs.length = cs.reverse.flatten.length + r := by rw [he]; simp; omega
      omega
    refine ⟨cs, op.take r, rfl, ?_, hc2, he, ?_, hg⟩
    · rw [← hm64]
    · have h2 := H2.out
      rw [HOV.out, zrow_orow, show n = m + (op.take r).length from by simp; omega, orow_splice, hm64] at h2
      simpa using h2
  case round =>
    obtain ⟨ds, rest, hdk, rfl, hch, hbs, hrow, hgr⟩ := hrel
    cases ds with
    | nil =>
      have hv : u5 = .pointer none := hch
      subst hv
      have hk0 : gk = 0 := by simpa using hdk.symm
      subst hk0
      have HR := hide (And.intro hbs hrow)
      clear hch hbs hrow hdk
      go_wp2
      go_ret
      obtain ⟨hbs, hrow⟩ := HR.out
      refine ⟨rfl, ?_, hgr⟩
      have hbr : bs = rest := by simpa using hbs
      rw [hbr]
      simpa [orow, zrow] using hrow
    | cons c ds =>
      obtain ⟨h, v', rfl, hb', hcl, hch'⟩ := hch
      obtain ⟨hn, hr, hm, hb, hl, hc, he⟩ := HN.out
      have hne : h ≠ w.heap.size := by
        intro e; rw [e, hrow] at hb'; simp at hb'
      have hcl2 := chain_length hch'
      have hbl : n = 64 * ds.length + 64 + rest.length := by
        rw [hn, hbs]
        simp only [List.reverse_cons, List.flatten_append, List.length_append, List.flatten_cons, List.flatten_nil, List.append_nil, hcl, hcl2]
      have hgk : gk = ds.length + 1 := by simpa using hdk.symm
      obtain ⟨A, hA⟩ : ∃ A, A = 64 * ds.length := ⟨_, rfl⟩
      have hA1 : 64 * (gk : Int) - 64 = (A : Int) := by omega
      have hA2 : ((64 * gk : Nat) : Int) - 64 = (A : Int) := by omega
      obtain ⟨CV, hCV⟩ : ∃ CV, CV = c.map (Value.int .u8) := ⟨_, rfl⟩
      have hsa' := sliceAt_all h
      have hcut' : ∀ w', (Instr.slice 24 (.slice (some ⟨w.heap.size, 0, none⟩) n n) (some (.int .i64 (A : Int))) none none).run Tryz.prog w' = .ok (.slice (cutA (some ⟨w.heap.size, 0, none⟩) A n) (n - A) (n - A)) w' := slice_from _ n n A (by omega)
      have hK' : Hid (CV.length = Nat.min 64 (n - A) ∧ CV.length = 64 ∧ (0 < CV.length → cutA (some ⟨w.heap.size, 0, none⟩) A n = some ⟨w.heap.size, A, none⟩ ∧ ∃ ad, (some ⟨h, 1, none⟩ : Option Addr) = some ad ∧ ∀ j u, CV[j]? = some u → wr.drew.cell? (ad.add j) = some u)
          ∧ A + CV.length ≤ (orow (64 * gk) rest).length ∧ (∀ u ∈ CV, u.oneCell' = true) ∧ wr.drew.heap[w.heap.size]? = some (.cells (orow (64 * gk) rest).toArray 5 (0, 0))) := by
        have hCl : CV.length = 64 := by rw [hCV]; simpa using hcl
        refine ⟨by rw [hCl]; simp only [Nat.min_def]; split <;> omega, hCl, ?_, by rw [orow_length]; omega, ?_, hrow⟩
        · intro _
          refine ⟨by unfold cutA; rw [if_neg (by omega)]; simp [Addr.add_lit], _, rfl, ?_⟩
          intro j u hu
          exact at_of_block (w := wr) (c := c.map (Value.int .u8)) (t := []) (by simpa using hb') j u (by rw [← hCV]; exact hu)
        · intro u hu; rw [hCV, List.mem_map] at hu; obtain ⟨x, _, rfl⟩ := hu; rfl
      have HR := hide (And.intro hA (And.intro hCV (And.intro hb' (And.intro hcl (And.intro hch' (And.intro hbs (And.intro hrow hgk)))))))
      have hA3 : A ≤ 281474976710656 := by omega
      have hA4 : 64 * gk ≤ 281474976710656 := by omega
      have hhl := row_lt hb'
      clear hn hr hm hb hl hc he hA hCV hb' hcl hch' hbs hrow hdk hcl2 hbl hgk
      go_wp2
      go_region_held3 (fun w' => True) (trivial) ((refine step_copy_grown rfl (.tmp 45) (.tmp 49) 24 24 rfl 5 Tryz.underlying24 Tryz.size5 _ _ _ _ _ _ (by rfl) (by rfl) w.heap.size A (orow (64 * gk) rest) 5 hK'.out.2.2.2.2.2 CV hK'.out.1 hK'.out.2.2.1 hK'.out.2.2.2.1 hK'.out.2.2.2.2.1 ?_; rw [hK'.out.2.1]; intro w3 H3 hg3))
      have c0' : w3.cell? ⟨h, 0, none⟩ = some v' := by
        obtain ⟨hA, hCV, hb', hcl, hch', hbs, hrow, hgk⟩ := HR.out
        refine hg3.cell (v := v') ?_ (by simpa using hne)
        show wr.cell? _ = some v'
        rw [cell_row hb']; rfl
      go_wp2
      go_roundg ds.length
      case measure => obtain ⟨hA, hCV, hb', hcl, hch', hbs, hrow, hgk⟩ := HR.out; omega
      case rel =>
        obtain ⟨hA, hCV, hb', hcl, hch', hbs, hrow, hgk⟩ := HR.out
        have hg3' : wr.grownBy w3 (some w.heap.size) := grown_trans (grown_drew wr _) hg3
        refine ⟨ds, c ++ rest, rfl, by rw [hA], Chain.kept hg3' (NoBlock.of hrow (by decide)) ds v' hch', ?_, ?_, grown_then hgr hg3' (fun k e => by cases e; exact Or.inl (Nat.le_refl _))⟩
        · rw [hbs]; simp
        · have h3 := H3.out
          rw [hCV, show 64 * gk = A + c.length from by omega, orow_splice, hA] at h3
          exact h3

end Go.Proofs.YtahjckcfcdnlmaaGreatDoor.Oc
/- The contracts of a Reader's calls, of Of and of bytes.Clone. -/
namespace Go.Proofs.YtahjckcfcdnlmaaGreatDoor.Oc
open Go.RowKit

/-- append(s, x...), s the call's own, x bytes that lie somewhere (or nil). -/
theorem wpList_append_at {w : World} {ops : Array Oper} {rest : List Oper} {o : Oper} {a : Act} {Q : Exit → Act → World → Prop} (hgd : o.guard = none) (s x : Operand)
    (ho : o.op = .call { callee := .builtin .append, args := #[s, x], argTypes := #[24, 24] }) (base : Nat) (v : Value) (n : Nat) (xs : List Value) (hs : a.eval s = v) (hown : w.ownsRow base 5 1 v n xs)
    (ao : Option Addr) (m c : Nat) (ys : List Int) (hx : a.eval x = .slice ao m c) (hm : ys.length = m) (hat : At w ao ys) (hnil : ao = none → m = 0 ∧ c = 0)
    (hbytes : n + m ≤ 140737488355328) (hbase : base ≤ w.heap.size)
    (h : ∀ v' w', w'.ownsRow base 5 1 v' (n + m) (xs ++ ys.map (Value.int .u8)) → w.grownBy w' v.ownBlock → wpList Tryz.prog ops Q rest (a.put o.dst v') w') : wpList Tryz.prog ops Q (o :: rest) a w := by
  obtain ⟨i0, hi, hz0, hz1, hz2⟩ := info_parts Tryz.info5
  cases ao with
  | none =>
    obtain ⟨rfl, rfl⟩ := hnil rfl
    refine wpList_append_own_none hgd s x 24 ho base 5 i0 1 Tryz.underlying24 hi v n xs hs hown hx (h v w ?_ (grown_refl w _))
    have : ys = [] := List.eq_nil_of_length_eq_zero hm
    subst this
    simpa using hown
  | some ad =>
    refine wpList_append_own _ hgd s x 24 ho base 5 i0 (.int .u8 0) 1 1 Tryz.underlying24 hi hz0 hz1 hz2 rfl (by decide) v n xs hs hown ad m c (ys.map (Value.int .u8)) hx (by simp [hm]) ?_ ?_ (by unfold maxLen; omega) (by omega) hbase (fun v' w' h1 h2 _ => h v' w' h1 h2)
    · intro j u hu
      rw [List.getElem?_map] at hu
      cases hj : ys[j]? with
      | none => simp [hj] at hu
      | some y =>
        simp [hj] at hu
        obtain ⟨a', ha', hc'⟩ := hat j y hj
        cases ha'
        rw [← hu]; exact hc'
    · intro u hu; rw [List.mem_map] at hu; obtain ⟨y, _, rfl⟩ := hu; rfl

/-- An owned row of bytes, as bytes that lie somewhere. -/
theorem own_at {w : World} {base n : Nat} {v : Value} {xs : List Int} (h : w.ownsRow base 5 1 v n (xs.map (Value.int .u8))) :
    ∃ ao cap, v = .slice ao n cap ∧ xs.length = n ∧ n ≤ cap ∧ cap ≤ maxLen ∧ At w ao xs ∧ (ao = none → n = 0 ∧ cap = 0) ∧ (∀ a, ao = some a → base ≤ a.block ∧ a.block < w.heap.size ∧ ∃ c, w.heap[a.block]? = some (.cells c 5 (0, 0))) := by
  obtain ⟨hl, h⟩ := h
  simp at hl
  rcases h with ⟨rfl, rfl⟩ | ⟨g, cap, cur, rfl, hb, hg, hn, hm, hs, ht⟩
  · have : xs = [] := List.eq_nil_of_length_eq_zero hl
    subst this
    exact ⟨none, 0, rfl, rfl, Nat.le_refl _, Nat.zero_le _, At.nil _ _, fun _ => ⟨rfl, rfl⟩, fun a e => by cases e⟩
  · refine ⟨some ⟨g, 0, none⟩, cap, rfl, hl, hn, hm, ?_, (fun e => by cases e), fun a e => by cases e; exact ⟨hb, row_lt hg, cur, hg⟩⟩
    intro j u hu
    refine ⟨_, rfl, ?_⟩
    rw [Addr.add_lit, Nat.zero_add, cell_of_row w g j cur 5 (0, 0) hg]
    have h1 : (cur.toList.take (n * 1))[j]? = some (Value.int .u8 u) := by rw [ht, List.getElem?_map, hu]; rfl
    rw [List.getElem?_take] at h1
    split at h1
    · simpa using h1
    · cases h1

set_option maxHeartbeats 400000 in
theorem clone_any (ao : Option Addr) (n cap : Nat) (xs : List Int) (w : World) (hn : xs.length = n) (hat : At w ao xs) (hnil : ao = none → n = 0 ∧ cap = 0) (hb : n ≤ 140737488355328) :
    Calls Tryz.prog 78 #[.slice ao n cap] w fun e w' => ∃ v, e = .returned v ∧ w'.ownsRow w.heap.size 5 1 v n (xs.map (Value.int .u8)) ∧ w.grownBy w' none := by
  have Hn := hide hn
  clear hn
  have hq := fun w' => Lib.run_eql_slice_nil (P := Tryz.prog) w' 24 5 ao n cap 0 0 Tryz.underlying24
  cases ao with
  | none =>
    obtain ⟨rfl, rfl⟩ := hnil rfl
    have : xs = [] := List.eq_nil_of_length_eq_zero Hn.out
    subst this
    clear Hn
    go_enter Tryz.func78, Tryz.ntmps78
    go_wp2
    go_ret
    exact ⟨_, rfl, World.ownsRow_nil _ _ _ _, grown_refl _ _⟩
  | some a =>
    go_enter Tryz.func78, Tryz.ntmps78
    go_wp2_with (at_builtin; refine wpList_append_at rfl (.tmp 5) (.tmp 6) rfl w.heap.size (.slice (some ⟨w.heap.size, 0, none⟩) 0 0) 0 [] rfl ?_ (some a) n cap xs rfl Hn.out ?_ (fun e => by cases e) (by omega) (by simp) ?_)
    · exact World.ownsRow_made w #[] 0 (Nat.le_refl _) (Nat.zero_le _) rfl
    · exact hat.kept (World.grownBy_alloc w _ none) (by simp)
    · intro v' w' hown hg
      obtain ⟨ao', cap', rfl, hr⟩ := own_at hown
      clear hr
      go_wp2
      go_ret
      exact ⟨_, rfl, hown, grown_then (World.grownBy_alloc w _ none) hg (fun k e => by cases e; exact Or.inl (Nat.le_refl _))⟩

/-- The cells of a Reader. -/
def rrow (ao : Option Addr) (n cap : Nat) (e : Int) : List Value := [.slice ao n cap, .int .i64 e, .bool true]
/-- The Reader at the head of block b has the bytes xs left, and the error e. -/
def RdAt (w : World) (b : Nat) (xs : List Int) (e : Int) : Prop :=
  ∃ ao cap, w.heap[b]? = some (.cells (rrow ao xs.length cap e).toArray 136 (0, 0)) ∧ xs.length ≤ cap ∧ cap ≤ maxLen ∧ At w ao xs ∧ Off ao b ∧ (ao = none → cap = 0) ∧ (e ≠ 0 → xs = []) ∧ (∀ a, ao = some a → ∃ c, w.heap[a.block]? = some (.cells c 5 (0, 0)))

theorem RdAt.lt {w : World} {b : Nat} {xs : List Int} {e : Int} (h : RdAt w b xs e) : b < w.heap.size := by obtain ⟨ao, cap, hb, _⟩ := h; exact row_lt hb
theorem RdAt.noBlock {w : World} {b : Nat} {xs : List Int} {e : Int} (h : RdAt w b xs e) : NoBlock w (some b) := by obtain ⟨ao, cap, hb, _⟩ := h; exact NoBlock.of hb (by decide)

/-- The row that may be written holds no bytes. -/
def NoBytes (w : World) (row : Option Nat) : Prop := ∀ k c fr, row = some k → w.heap[k]? ≠ some (.cells c 5 fr)
theorem NoBytes.none (w : World) : NoBytes w none := fun _ _ _ e => by cases e
theorem NoBytes.of {w : World} {g : Nat} {c : Array Value} {t : TypeId} {fr : Nat × Nat} (h : w.heap[g]? = some (.cells c t fr)) (ht : t ≠ 5) : NoBytes w (some g) := by
  intro k c' fr' e h'
  cases e
  rw [h] at h'
  simp at h'
  exact ht h'.2.1
theorem RdAt.noBytes {w : World} {b : Nat} {xs : List Int} {e : Int} (h : RdAt w b xs e) : NoBytes w (some b) := by obtain ⟨ao, cap, hb, _⟩ := h; exact NoBytes.of hb (by decide)
theorem WrAt.noBytes {w : World} {g : Nat} {bs : List Int} (h : WrAt w g bs) : NoBytes w (some g) := by obtain ⟨v, cs, op, hb, _⟩ := h; exact NoBytes.of hb (by decide)

theorem RdAt.kept {w w' : World} {b : Nat} {xs : List Int} {e : Int} {row : Option Nat} (h : RdAt w b xs e) (hg : w.grownBy w' row) (hne : row ≠ some b) (hr : NoBytes w row) : RdAt w' b xs e := by
  obtain ⟨ao, cap, hb, h1, h2, hat, ho, h3, h4, h5⟩ := h
  have hne' : ∀ a, ao = some a → some a.block ≠ row := fun a ha e => by
    obtain ⟨c, hc⟩ := h5 a ha
    exact hr a.block c (0, 0) e.symm hc
  refine ⟨ao, cap, (hg.block b (row_lt hb) (fun e => hne e.symm)).trans hb, h1, h2, hat.kept hg hne', ho, h3, h4, fun a ha => ?_⟩
  obtain ⟨c, hc⟩ := h5 a ha
  exact ⟨c, (hg.block _ (row_lt hc) (hne' a ha)).trans hc⟩

/-- What n bytes taken off leave: what is given, what is left, the error. -/
def takeF (xs : List Int) (e n : Int) : List Int × List Int × Int :=
  if e ≠ 0 then ([], xs, e) else if n < 0 then ([], [], 2) else if (xs.length : Int) < n then ([], [], 4) else (xs.take n.toNat, xs.drop n.toNat, 0)

theorem rrow_set (ao ao' : Option Addr) (n n' cap cap' : Nat) (e : Int) : (rrow ao n cap e).set 0 (.slice ao' n' cap') = rrow ao' n' cap' e := rfl

/-- A slice that was given. -/
def Given (w : World) (b : Nat) (v : Value) (xs : List Int) : Prop :=
  ∃ ao cap, v = .slice ao xs.length cap ∧ xs.length ≤ cap ∧ cap ≤ maxLen ∧ At w ao xs ∧ Off ao b ∧ (ao = none → cap = 0) ∧ (∀ a, ao = some a → ∃ c, w.heap[a.block]? = some (.cells c 5 (0, 0)))

theorem given_nil (w : World) (b : Nat) : Given w b (.slice none 0 0) [] := ⟨none, 0, rfl, Nat.le_refl _, Nat.zero_le _, At.nil _ _, (fun a e => by cases e), fun _ => rfl, (fun a e => by cases e)⟩
/-- A Reader that has met an error. -/
theorem rd_err {w : World} {b n cap : Nat} {ao : Option Addr} {e E : Int} (hb : w.heap[b]? = some (.cells (rrow ao n cap e).toArray 136 (0, 0))) :
    RdAt ((w.setCell ⟨b, 0, none⟩ (.slice none 0 0)).setCell ⟨b, 1, none⟩ (.int .i64 E)) b [] E ∧ w.grownBy ((w.setCell ⟨b, 0, none⟩ (.slice none 0 0)).setCell ⟨b, 1, none⟩ (.int .i64 E)) (some b) := by
  refine ⟨⟨none, 0, ?_, Nat.le_refl _, Nat.zero_le _, At.nil _ _, (fun a e => by cases e), fun _ => rfl, fun _ => rfl, (fun a e => by cases e)⟩, grown_trans (grown_setCell w b 0 _) (grown_setCell _ b 1 _)⟩
  exact row_setCell (row_setCell hb 0 _) 1 _

/-- A Reader off which n bytes were taken. -/
theorem rd_cut {w : World} {b n cap : Nat} {ao : Option Addr} {xs : List Int} (hb : w.heap[b]? = some (.cells (rrow ao xs.length cap 0).toArray 136 (0, 0))) (hn : n ≤ xs.length) (h1 : xs.length ≤ cap) (h2 : cap ≤ maxLen) (hat : At w ao xs) (ho : Off ao b) (h3 : ao = none → cap = 0)
    (h5 : ∀ a, ao = some a → ∃ c, w.heap[a.block]? = some (.cells c 5 (0, 0))) :
    Given (w.setCell ⟨b, 0, none⟩ (.slice (cutA ao n cap) (xs.length - n) (cap - n))) b (.slice ao n cap) (xs.take n) ∧
    RdAt (w.setCell ⟨b, 0, none⟩ (.slice (cutA ao n cap) (xs.length - n) (cap - n))) b (xs.drop n) 0 ∧ w.grownBy (w.setCell ⟨b, 0, none⟩ (.slice (cutA ao n cap) (xs.length - n) (cap - n))) (some b) := by
  have hg := grown_setCell w b 0 (.slice (cutA ao n cap) (xs.length - n) (cap - n))
  have hat' := hat.kept hg ho.ne
  have hl : (xs.take n).length = n := by simp; omega
  have hd : (xs.drop n).length = xs.length - n := by simp
  have h5' : ∀ a, ao = some a → ∃ c, (w.setCell ⟨b, 0, none⟩ (.slice (cutA ao n cap) (xs.length - n) (cap - n))).heap[a.block]? = some (.cells c 5 (0, 0)) := fun a ha => by
    obtain ⟨c, hc⟩ := h5 a ha
    exact ⟨c, (hg.block _ (row_lt hc) (ho.ne a ha)).trans hc⟩
  refine ⟨⟨ao, cap, by rw [hl], by omega, h2, hat'.take n, ho, h3, h5'⟩, ⟨cutA ao n cap, cap - n, ?_, by omega, by omega, hat'.cut n cap h1, ho.cut n cap, ?_, fun h => absurd rfl h, ?_⟩, hg⟩
  · rw [hd, row_setCell hb, rrow_set]
  · intro e
    unfold cutA at e
    split at e
    · omega
    · cases ao with
      | none => have := h3 rfl; omega
      | some a => simp at e
  · intro a ha
    unfold cutA at ha
    split at ha
    · exact h5' a ha
    · cases ao with
      | none => simp at ha
      | some x => simp at ha; rw [← ha, addr_add_block]; exact h5' x rfl

set_option maxHeartbeats 1000000 in
theorem cut_any (b : Nat) (xs : List Int) (e n : Int) (w : World) (hR : RdAt w b xs e) (hm1 : -9223372036854775808 ≤ n) (hm2 : n ≤ 9223372036854775807) :
    Calls Tryz.prog 121 #[.pointer (some ⟨b, 0, none⟩), .int .i64 n] w fun r w' => ∃ v, r = .returned v ∧ Given w' b v (takeF xs e n).1 ∧ RdAt w' b (takeF xs e n).2.1 (takeF xs e n).2.2 ∧ w.grownBy w' (some b) := by
  obtain ⟨ao, cap, hb, h1, h2, hat, ho, h3, h4, h5⟩ := hR
  unfold maxLen at h2
  have c0 : w.cell? ⟨b, 0, none⟩ = some (.slice ao xs.length cap) := by rw [cell_row hb]; rfl
  have c1 : w.cell? ⟨b, 1, none⟩ = some (.int .i64 e) := by rw [cell_row hb]; rfl
  have f0 : w.frozen? ⟨b, 0, none⟩ = false := free_row hb _
  have f1 : w.frozen? ⟨b, 1, none⟩ = false := free_row hb _
  have HB := hide (And.intro hb (And.intro hat (And.intro ho (And.intro h4 (And.intro h3 h5)))))
  clear hb hat ho h4 h3 h5
  by_cases he : e = 0
  · subst he
    by_cases hn : n < 0
    · have HT : Hid (takeF xs 0 n = ([], [], 2)) := by show _ = _; simp [takeF, hn]
      go_enter Tryz.func121, Tryz.ntmps121
      go_wp2
      go_ret
      obtain ⟨e1, e2⟩ := rd_err (E := 2) HB.out.1
      rw [HT.out]
      exact ⟨_, rfl, given_nil _ _, e1, e2⟩
    · by_cases hl : (xs.length : Int) < n
      · have HT : Hid (takeF xs 0 n = ([], [], 4)) := by show _ = _; simp [takeF, hn, hl]
        go_enter Tryz.func121, Tryz.ntmps121
        go_wp2
        go_ret
        obtain ⟨e1, e2⟩ := rd_err (E := 4) HB.out.1
        rw [HT.out]
        exact ⟨_, rfl, given_nil _ _, e1, e2⟩
      · obtain ⟨k, rfl⟩ := Int.eq_ofNat_of_zero_le (Int.not_lt.1 hn)
        have hk : k ≤ xs.length := by omega
        have HT : Hid (takeF xs 0 k = (xs.take k, xs.drop k, 0)) := by show _ = _; simp [takeF, hl]
        have hcut := slice_from ao xs.length cap k hk
        go_enter Tryz.func121, Tryz.ntmps121
        go_wp2
        go_ret
        obtain ⟨hb, hat, ho, h4, h3, h5⟩ := HB.out
        obtain ⟨e1, e2, e3⟩ := rd_cut (n := k) hb hk h1 (by unfold maxLen; exact h2) hat ho h3 h5
        rw [HT.out]
        exact ⟨_, rfl, e1, e2, e3⟩
  · have HT : Hid (takeF xs e n = ([], xs, e)) := by show _ = _; simp [takeF, he]
    have he' : (e == 0) = false := beq_eq_false_iff_ne.2 he
    go_enter Tryz.func121, Tryz.ntmps121
    go_wp2
    go_ret
    obtain ⟨hb, hat, ho, h4, h3, h5⟩ := HB.out
    rw [HT.out]
    exact ⟨_, rfl, given_nil _ _, ⟨ao, cap, hb, h1, h2, hat, ho, h3, h4, h5⟩, grown_refl _ _⟩
end Go.Proofs.YtahjckcfcdnlmaaGreatDoor.Oc
/- The contracts of a Reader's other calls. -/
namespace Go.Proofs.YtahjckcfcdnlmaaGreatDoor.Oc
open Go.RowKit

theorem RdAt.made {w : World} {b : Nat} {xs : List Int} {e : Int} (h : RdAt w b xs e) : w.cell? ⟨b, 2, none⟩ = some (.bool true) := by obtain ⟨ao, cap, hb, _⟩ := h; rw [cell_row hb]; rfl
theorem RdAt.err {w : World} {b : Nat} {xs : List Int} {e : Int} (h : RdAt w b xs e) : w.cell? ⟨b, 1, none⟩ = some (.int .i64 e) := by obtain ⟨ao, cap, hb, _⟩ := h; rw [cell_row hb]; rfl
theorem RdAt.rest {w : World} {b : Nat} {xs : List Int} {e : Int} (h : RdAt w b xs e) : ∃ ao cap, w.cell? ⟨b, 0, none⟩ = some (.slice ao xs.length cap) := by obtain ⟨ao, cap, hb, _⟩ := h; exact ⟨ao, cap, by rw [cell_row hb]; rfl⟩

set_option maxHeartbeats 400000 in
theorem isNone_nil (w : World) : Calls Tryz.prog 120 #[.pointer none] w fun e w' => e = .returned (.bool true) ∧ w' = w := by
  go_enter Tryz.func120, Tryz.ntmps120
  go_wp2
  go_ret
  exact ⟨rfl, rfl⟩
set_option maxHeartbeats 400000 in
theorem isNone_at (b : Nat) (m : Bool) (w : World) (h : w.cell? ⟨b, 2, none⟩ = some (.bool m)) : Calls Tryz.prog 120 #[.pointer (some ⟨b, 0, none⟩)] w fun e w' => e = .returned (.bool (!m)) ∧ w' = w := by
  go_enter Tryz.func120, Tryz.ntmps120
  go_wp2
  go_ret
  exact ⟨rfl, rfl⟩

set_option maxHeartbeats 400000 in
theorem next_any (b : Nat) (xs : List Int) (e n : Int) (w : World) (hR : RdAt w b xs e) (hm1 : -9223372036854775808 ≤ n) (hm2 : n ≤ 9223372036854775807) :
    Calls Tryz.prog 106 #[.pointer (some ⟨b, 0, none⟩), .int .i64 n] w fun r w' => ∃ v, r = .returned v ∧ Given w' b v (takeF xs e n).1 ∧ RdAt w' b (takeF xs e n).2.1 (takeF xs e n).2.2 ∧ w.grownBy w' (some b) := by
  go_enter Tryz.func106, Tryz.ntmps106
  go_wp2_with fail
  refine (isNone_at b true w hR.made).mono ?_
  rintro e1 w' ⟨rfl, rfl⟩
  go_wp2_with fail
  refine (cut_any b xs e n _ hR hm1 hm2).mono ?_
  rintro e1 w' ⟨v, rfl, hG, hR', hg⟩
  obtain ⟨ao, cap, rfl, hrest⟩ := hG
  have H := hide hrest
  clear hrest
  go_wp2
  go_ret
  exact ⟨_, rfl, ⟨ao, cap, rfl, H.out⟩, hR', hg⟩

theorem takeF_given (xs : List Int) (e n : Int) : ((takeF xs e n).1.length : Int) ≤ max n 0 ∧ ∀ x ∈ (takeF xs e n).1, x ∈ xs := by
  unfold takeF
  split
  · simp; omega
  · split
    · simp; omega
    · split
      · simp; omega
      · refine ⟨by simp; omega, fun x hx => List.mem_of_mem_take hx⟩

set_option maxHeartbeats 1000000 in
theorem rnum_any (b : Nat) (xs : List Int) (e S : Int) (size : Nat) (w : World) (hR : RdAt w b xs e) (hB : Byt xs) (hS : S = (size : Int)) (hs : size ≤ 8) :
    Calls Tryz.prog 79 #[.pointer (some ⟨b, 0, none⟩), .int .i64 S] w fun r w' => r = .returned (.int .u64 (leV (takeF xs e S).1)) ∧ RdAt w' b (takeF xs e S).2.1 (takeF xs e S).2.2 ∧ w.grownBy w' (some b) := by
  have hS1 : 0 ≤ S := by omega
  have hS2 : S ≤ 8 := by omega
  obtain ⟨⟨G, R, E⟩, hT⟩ : ∃ p, takeF xs e S = p := ⟨_, rfl⟩
  have hnx := next_any b xs e S w hR (by omega) (by omega)
  have hGl' : G.length ≤ 8 ∧ Byt G := by
    have := takeF_given xs e S
    rw [hT] at this
    exact ⟨by have := this.1; simp only at this; omega, fun x hx => hB x (this.2 x hx)⟩
  obtain ⟨hGl, hGB⟩ := hGl'
  rw [hT] at hnx ⊢
  simp only at hnx ⊢
  have HN := hide hnx
  have HT := hide hT
  clear hS hT hnx
  go_enter Tryz.func79, Tryz.ntmps79
  go_wp2_with fail
  refine HN.out.mono ?_
  rintro e1 w1 ⟨v, rfl, hG, hR', hg⟩
  obtain ⟨ao, cap, rfl, hl, hcm, hat, ho, hn, h5⟩ := hG
  have H := hide (And.intro hR' (And.intro hg hat))
  clear hR' hg hat hn h5 ho HN HT
  go_wp2
  go_loopg [5, 12] G.length (fun k n i wr => ∃ j : Nat, k + j = G.length ∧ i = .int .i64 j ∧ n = .int .u64 (leV (G.take j)) ∧ wr = w1)
  case atStart => exact ⟨0, by simp, rfl, by simp [leV], rfl⟩
  case round =>
    obtain ⟨j, hkj, rfl, rfl, rfl⟩ := hrel
    by_cases hk : 0 < gk
    · have hj : j < G.length := by omega
      obtain ⟨a, rfl, hc⟩ := H.out.2.2 j G[j] (by simp [hj])
      have hx := hGB G[j] (by simp)
      go_wp2
      go_roundg (gk - 1)
      case measure => omega
      case rel =>
        have h8 := or_step (G.take j) G[j] (hGB.take j) hx (by simp; omega)
        have hlen : (G.take j).length = j := by simp; omega
        rw [hlen] at h8
        refine ⟨j + 1, by omega, by go_num, ?_, rfl⟩
        rw [h8, List.take_succ_eq_append_getElem hj]
    · have hj : j = G.length := by omega
      subst hj
      go_wp2
      go_ret
      rw [List.take_length]
      exact ⟨rfl, H.out.1, H.out.2.1⟩
end Go.Proofs.YtahjckcfcdnlmaaGreatDoor.Oc
/- The contracts of a Reader's calls: numbers, Take, Left, Err, End; of Of. -/
namespace Go.Proofs.YtahjckcfcdnlmaaGreatDoor.Oc
open Go.RowKit

theorem own_base {w : World} {base base' n : Nat} {v : Value} {xs : List Value} {e : TypeId} {size : Nat} (h : w.ownsRow base' e size v n xs) (hb : base ≤ base') : w.ownsRow base e size v n xs := by
  obtain ⟨h1, h2⟩ := h
  refine ⟨h1, ?_⟩
  rcases h2 with h2 | ⟨g, cap, cur, hv, hg, r⟩
  · exact Or.inl h2
  · exact Or.inr ⟨g, cap, cur, hv, Nat.le_trans hb hg, r⟩

theorem takeF_bytes {xs : List Int} (h : Byt xs) (e n : Int) : Byt (takeF xs e n).1 ∧ Byt (takeF xs e n).2.1 := by
  refine ⟨fun x hx => h x ((takeF_given xs e n).2 x hx), ?_⟩
  unfold takeF
  split
  · exact h
  · split
    · intro x hx; cases hx
    · split
      · intro x hx; cases hx
      · exact h.drop _

theorem takeF_value {xs : List Int} (h : Byt xs) (e : Int) (k : Nat) : 0 ≤ leV (takeF xs e k).1 ∧ leV (takeF xs e k).1 < 2 ^ (8 * k) := by
  have h1 := leV_bound _ (takeF_bytes h e k).1
  have h2 := (takeF_given xs e k).1
  refine ⟨h1.1, Int.lt_of_lt_of_le h1.2 ?_⟩
  have h3 : (takeF xs e k).1.length ≤ k := by omega
  have h4 : (2 : Nat) ^ (8 * (takeF xs e k).1.length) ≤ 2 ^ (8 * k) := Nat.pow_le_pow_right (by omega) (by omega)
  have h5 : ((2 ^ (8 * (takeF xs e k).1.length) : Nat) : Int) ≤ ((2 ^ (8 * k) : Nat) : Int) := Int.ofNat_le.2 h4
  simpa using h5

set_option maxHeartbeats 400000 in
theorem rtwo_any (b : Nat) (xs : List Int) (e : Int) (w : World) (hR : RdAt w b xs e) (hB : Byt xs) :
    Calls Tryz.prog 55 #[.pointer (some ⟨b, 0, none⟩)] w fun r w' => r = .returned (.int .u16 (leV (takeF xs e 2).1)) ∧ RdAt w' b (takeF xs e 2).2.1 (takeF xs e 2).2.2 ∧ w.grownBy w' (some b) := by
  have hv := takeF_value hB e 2
  have hr := rnum_any b xs e 2 2 w hR hB rfl (by omega)
  simp only [show (((2 : Nat) : Int)) = 2 from rfl] at hv
  have hv1 : leV (takeF xs e 2).1 < 65536 := hv.2
  have hv0 := hv.1
  clear hv
  generalize leV (takeF xs e 2).1 = V at *
  have HR := hide hr
  clear hr
  go_enter Tryz.func55, Tryz.ntmps55
  go_wp2_with fail
  refine HR.out.mono ?_
  rintro e1 w1 ⟨rfl, hR', hg⟩
  go_wp2
  go_ret
  exact ⟨rfl, hR', hg⟩
set_option maxHeartbeats 400000 in
theorem rfour_any (b : Nat) (xs : List Int) (e : Int) (w : World) (hR : RdAt w b xs e) (hB : Byt xs) :
    Calls Tryz.prog 56 #[.pointer (some ⟨b, 0, none⟩)] w fun r w' => r = .returned (.int .u32 (leV (takeF xs e 4).1)) ∧ RdAt w' b (takeF xs e 4).2.1 (takeF xs e 4).2.2 ∧ w.grownBy w' (some b) := by
  have hv := takeF_value hB e 4
  have hr := rnum_any b xs e 4 4 w hR hB rfl (by omega)
  simp only [show (((4 : Nat) : Int)) = 4 from rfl] at hv
  have hv1 : leV (takeF xs e 4).1 < 4294967296 := hv.2
  have hv0 := hv.1
  clear hv
  generalize leV (takeF xs e 4).1 = V at *
  have HR := hide hr
  clear hr
  go_enter Tryz.func56, Tryz.ntmps56
  go_wp2_with fail
  refine HR.out.mono ?_
  rintro e1 w1 ⟨rfl, hR', hg⟩
  go_wp2
  go_ret
  exact ⟨rfl, hR', hg⟩
set_option maxHeartbeats 400000 in
theorem reight_any (b : Nat) (xs : List Int) (e : Int) (w : World) (hR : RdAt w b xs e) (hB : Byt xs) :
    Calls Tryz.prog 57 #[.pointer (some ⟨b, 0, none⟩)] w fun r w' => r = .returned (.int .u64 (leV (takeF xs e 8).1)) ∧ RdAt w' b (takeF xs e 8).2.1 (takeF xs e 8).2.2 ∧ w.grownBy w' (some b) := by
  have hv := takeF_value hB e 8
  have hr := rnum_any b xs e 8 8 w hR hB rfl (by omega)
  simp only [show (((8 : Nat) : Int)) = 8 from rfl] at hv
  have hv1 : leV (takeF xs e 8).1 < 18446744073709551616 := hv.2
  have hv0 := hv.1
  clear hv
  generalize leV (takeF xs e 8).1 = V at *
  have HR := hide hr
  clear hr
  go_enter Tryz.func57, Tryz.ntmps57
  go_wp2_with fail
  refine HR.out.mono ?_
  rintro e1 w1 ⟨rfl, hR', hg⟩
  go_wp2
  go_ret
  exact ⟨rfl, hR', hg⟩
/-- What End answers. -/
def endF (xs : List Int) (e : Int) : Int := if e ≠ 0 then e else if xs = [] then 0 else 5
set_option maxHeartbeats 400000 in
theorem of_any (ao : Option Addr) (n cap : Nat) (xs : List Int) (w : World) (hn : xs.length = n) (hat : At w ao xs) (hnil : ao = none → n = 0 ∧ cap = 0) (hb : n ≤ 140737488355328) :
    Calls Tryz.prog 54 #[.slice ao n cap] w fun r w' => ∃ B, r = .returned (.pointer (some ⟨B, 0, none⟩)) ∧ w.heap.size ≤ B ∧ RdAt w' B xs 0 ∧ w.grownBy w' none := by
  have Hn := hide hn
  clear hn
  go_enter Tryz.func54, Tryz.ntmps54
  go_wp2_with fail
  refine (clone_any ao n cap xs _ Hn.out hat hnil hb).mono ?_
  rintro e1 w1 ⟨v, rfl, hown, hg⟩
  obtain ⟨ao', cap', rfl, hl, hnc, hcm, hat', hnil', h5⟩ := own_at hown
  have H := hide (And.intro hl (And.intro hnc (And.intro hcm (And.intro hat' (And.intro hnil' (And.intro h5 hg))))))
  clear hl hnc hcm hat' hnil' h5 hg hown
  go_wp2
  go_ret
  obtain ⟨hl, hnc, hcm, hat', hnil', h5, hg⟩ := H.out
  have hga := World.grownBy_alloc w1 (.cells (rrow ao' xs.length cap' 0).toArray 136) none
  refine ⟨w1.heap.size, rfl, hg.size, ⟨ao', cap', ?_, by omega, hcm, ?_, ?_, fun e => (hnil' e).2, fun h => absurd rfl h, ?_⟩, ?_⟩
  · rw [hl]; exact heap_alloc_new w1 _
  · rw [← hl]; exact hat'.kept hga (by simp)
  · intro a ha e; have := (h5 a ha).2.1; omega
  · intro a ha
    obtain ⟨_, hlt, c, hc⟩ := h5 a ha
    exact ⟨c, (Below.heap_alloc _ _ _ hlt).trans hc⟩
  · exact grown_trans hg (World.grownBy_alloc w1 _ _)
end Go.Proofs.YtahjckcfcdnlmaaGreatDoor.Oc
/- The contracts of the statements' own helpers for bytes: SameBytes, CopyBytes. -/
namespace Go.Proofs.YtahjckcfcdnlmaaGreatDoor.Oc
open Go.RowKit
attribute [local go_sem ↓] Go.wp_at_zero Go.wp_at_succ

set_option maxHeartbeats 1000000 in
theorem same_eq (ao bo : Option Addr) (n c d : Nat) (xs : List Int) (w : World) (hn : xs.length = n) (ha : At w ao xs) (hb : At w bo xs) (hm : n ≤ 4611686018427387904) :
    Calls Tryz.prog 16 #[.slice ao n c, .slice bo n d] w fun e w' => e = .returned (.bool true) ∧ w.grownBy w' none := by
  have HA := hide (And.intro hn (And.intro ha hb))
  clear hn ha hb
  go_enter Tryz.func16, Tryz.ntmps16
  go_wp2
  go_loopg [5] n (fun k i wr => ∃ j : Nat, k + j = n ∧ i = .int .i64 j ∧ w.grownBy wr none)
  case atStart => exact ⟨0, by omega, rfl, grown_refl _ _⟩
  case round =>
    obtain ⟨j, hkj, rfl, hg⟩ := hrel
    by_cases hk : 0 < gk
    · obtain ⟨hn, ha, hb⟩ := HA.out
      have hj : j < xs.length := by omega
      obtain ⟨a, rfl, hca⟩ := ha j xs[j] (by simp [hj])
      obtain ⟨b, rfl, hcb⟩ := hb j xs[j] (by simp [hj])
      have hca' := hg.cell hca (by simp)
      have hcb' := hg.cell hcb (by simp)
      have h1 : (0 : Int) ≤ (j : Int) := by omega
      have h2 : (j : Int) < (n : Int) := by omega
      generalize xs[j] = x at *
      clear hn ha hb hca hcb hj
      go_wp2
      go_region_held3 (fun w' => w'.cell? (a.add j) = some (.int .u8 x) ∧ w'.cell? (b.add j) = some (.int .u8 x)) (go_keep) (fail)
      go_wp2
      go_roundg (gk - 1)
      case measure => omega
      case rel => exact ⟨j + 1, by omega, by go_num, grown_trans hg (grown_drew _ _)⟩
    · have hj : j = n := by omega
      subst hj
      go_wp2
      go_ret
      exact ⟨rfl, hg⟩

set_option maxHeartbeats 400000 in
theorem copy_any (ao : Option Addr) (n cap : Nat) (xs : List Int) (w : World) (hn : xs.length = n) (hat : At w ao xs) (hnil : ao = none → n = 0 ∧ cap = 0) (hb : n ≤ 140737488355328) :
    Calls Tryz.prog 14 #[.slice ao n cap] w fun e w' => ∃ v, e = .returned v ∧ w'.ownsRow w.heap.size 5 1 v n (xs.map (Value.int .u8)) ∧ w.grownBy w' none := by
  have Hn := hide hn
  clear hn
  go_enter Tryz.func14, Tryz.ntmps14
  go_wp2_with (at_builtin; refine wpList_append_at rfl (.tmp 4) (.tmp 5) rfl w.heap.size (.slice none 0 0) 0 [] rfl (World.ownsRow_nil _ _ _ _) ao n cap xs rfl Hn.out hat hnil (by omega) (Nat.le_refl _) ?_)
  intro v' w' hown hg
  obtain ⟨ao', cap', rfl, hr⟩ := own_at hown
  clear hr
  go_wp2
  go_ret
  exact ⟨_, rfl, by simpa using hown, grown_then (grown_refl w none) hg (fun k e => by cases e)⟩

/-- A Writer that has just been made. -/
theorem wr_new (w : World) (C : Array Value) (hC : C = (wrow (.pointer none) (List.replicate 64 0) 0).toArray) : WrAt (w.alloc (.cells C 91)) w.heap.size [] := by
  subst hC
  exact ⟨.pointer none, [], List.replicate 64 0, heap_alloc_new w _, by simp, rfl, by simp⟩

theorem zero53 : Tryz.zeroCells91 = (wrow (.pointer none) (List.replicate 64 0) 0).toArray := by kernel_rfl
theorem wr_zero (w : World) : WrAt (w.alloc (.cells Tryz.zeroCells91 91)) w.heap.size [] := wr_new w _ zero53

/-- A row of bytes that has just been laid. -/
theorem at_new (w : World) (xs : List Int) (C : Array Value) (hC : C = (xs.map (Value.int .u8)).toArray) : At (w.alloc (.cells C 5)) (some ⟨w.heap.size, 0, none⟩) xs := by
  subst hC
  intro j u hu
  refine ⟨_, rfl, ?_⟩
  rw [Addr.add_lit, Nat.zero_add, cell_row (heap_alloc_new w _), List.getElem?_map, hu]; rfl
/-- A row of bytes that is known whole. -/
theorem at_row {w : World} {A : Nat} {xs : List Int} {t : TypeId} (h : w.heap[A]? = some (.cells (xs.map (Value.int .u8)).toArray t (0, 0))) : At w (some ⟨A, 0, none⟩) xs := by
  intro j u hu
  refine ⟨_, rfl, ?_⟩
  rw [Addr.add_lit, Nat.zero_add, cell_row h, List.getElem?_map, hu]; rfl
theorem leB_258 : leB 258 2 = [2, 1] := by decide
theorem byt_123 : Byt [1, 2, 3] := by intro x hx; simp at hx; omega

end Go.Proofs.YtahjckcfcdnlmaaGreatDoor.Oc
/- The contracts of the statements' own helpers for bytes that are lent: markByte, LentBytes, KeptBytes, OverBytes. -/
namespace Go.Proofs.YtahjckcfcdnlmaaGreatDoor.Oc
open Go.RowKit
attribute [local go_sem ↓] Go.wp_at_zero Go.wp_at_succ

/-- The mark of a place. -/
def markB (k i : Int) : Int := IntKind.u64.wrap ((1000003 * (k + 7) + i) * 11400714819323198485) / 72057594037927936 % 256
theorem markB_byte (k i : Int) : 0 ≤ markB k i ∧ markB k i < 256 := by unfold markB; omega
set_option maxHeartbeats 400000 in
theorem mark_any (k i : Int) (w : World) (_hk0 : 0 ≤ k) (_hk : k ≤ 1000000) (_hi0 : 0 ≤ i) (_hi : i ≤ 1000000000000000000) :
    Calls Tryz.prog 20 #[.int .i64 k, .int .i64 i] w fun e w' => e = .returned (.int .u8 (markB k i)) ∧ w' = w := by
  go_enter Tryz.func20, Tryz.ntmps20
  go_wp2
  go_ret
  exact ⟨rfl, rfl⟩

/-- The first j marks. -/
def marks (k : Int) (j : Nat) : List Int := (List.range j).map fun (i : Nat) => markB k (i : Int)
theorem marks_length (k : Int) (j : Nat) : (marks k j).length = j := by simp [marks]
theorem marks_succ (k : Int) (j : Nat) : marks k (j + 1) = marks k j ++ [markB k (j : Int)] := by simp [marks, List.range_succ]
theorem marks_get (k : Int) (j i : Nat) (h : i < j) : (marks k j)[i]? = some (markB k (i : Int)) := by simp [marks, h]

theorem slice_to (ao : Option Addr) (len cap n : Nat) (h : n ≤ cap) (w : World) : (Instr.slice 24 (.slice ao len cap) none (some (.int .i64 (n : Int))) none).run Tryz.prog w = .ok (.slice ao n cap) w := by
  simp [Instr.slice, run_underlying Tryz.underlying24, Instr.sliceBounds, Instr.sliceBound, asIntOf, h]
  intro _; cases ao <;> simp [Addr.add]
theorem make_cap (n : Nat) (h : n ≤ 140737488355328) (w : World) : (Instr.makeSlice 24 (.int .i64 0) (.int .i64 ((n : Int) + 12))).run Tryz.prog w = .ok (.slice (some ⟨w.heap.size, 0, none⟩) 0 (n + 12)) (w.alloc (.cells (zrow (n + 12)).toArray 5)) := by
  obtain ⟨i0, hi, hz0, hz1, hz2⟩ := info_parts Tryz.info5
  rw [run_make (P := Tryz.prog) (w := w) 24 5 i0 (.int .u8 0) Tryz.underlying24 hi hz0 .i64 .i64 0 ((n : Int) + 12) (by omega) (by omega) (by rw [hz2]; omega) (by omega), hz1]
  have e : ((n : Int) + 12).toNat = n + 12 := by omega
  rw [e, Nat.mul_one]
  show Result.ok _ (w.alloc (.cells (madeCells #[.int .u8 0] (n + 12)) 5)) = _
  rw [made_zrow]
  rfl

/-- Bytes that were lent: they, and twelve marks behind their end. -/
def LentAt (w : World) (B : Nat) (v : Value) (xs : List Int) : Prop :=
  ∃ g cap, v = .slice (some ⟨g, 0, none⟩) xs.length cap ∧ w.ownsRow B 5 1 (.slice (some ⟨g, 0, none⟩) (xs.length + 12) cap) (xs.length + 12) ((xs ++ marks 1 12).map (Value.int .u8))

theorem cell_new (w : World) (v : Value) (t : TypeId) : (w.alloc (.cells #[v] t)).cell? ⟨w.heap.size, 0, none⟩ = some v := by
  rw [cell_of_row _ _ 0 #[v] t (0, 0) (heap_alloc_new w _)]; rfl

set_option maxHeartbeats 1000000 in
theorem lent_any (ao : Option Addr) (n cap : Nat) (xs : List Int) (w : World) (hn : xs.length = n) (hat : At w ao xs) (hnil : ao = none → n = 0 ∧ cap = 0) (hb : n ≤ 140737488355000) :
    Calls Tryz.prog 5 #[.slice ao n cap] w fun e w' => ∃ v, e = .returned v ∧ LentAt w' w.heap.size v xs ∧ w.grownBy w' none := by
  have Hn := hide hn
  have hmk := make_cap n (by omega)
  clear hn
  go_enter Tryz.func5, Tryz.ntmps5
  go_wp2_with (at_builtin; refine wpList_append_at rfl (.tmp 9) (.tmp 10) rfl w.heap.size (.slice (some ⟨w.heap.size, 0, none⟩) 0 (n + 12)) 0 [] rfl ?_ ao n cap xs rfl Hn.out ?_ hnil (by omega) (by simp) ?_)
  · exact World.ownsRow_made w _ (n + 12) (Nat.le_refl _) (by unfold maxLen; omega) (by simp [zrow])
  · exact hat.kept (World.grownBy_alloc w _ none) (by simp)
  · intro v1 w1 hown hg
    have G1 : Hid (w.grownBy w1 none) := grown_then (World.grownBy_alloc w _ none) hg (fun k e => by cases e; exact Or.inl (Nat.le_refl _))
    have HO := hide hown
    clear hown hg hmk
    go_wp2
    go_loopg [3, 4] 12 (fun k v i wr => ∃ j : Nat, k + j = 12 ∧ i = .int .i64 j ∧ wr.ownsRow w.heap.size 5 1 v (n + j) ((xs ++ marks 1 j).map (Value.int .u8)) ∧ w.grownBy wr none)
    case atStart => exact ⟨0, rfl, rfl, by simpa [marks] using HO.out, G1.out⟩
    case round =>
      obtain ⟨j, hkj, rfl, hown, hg⟩ := hrel
      by_cases hk : 0 < gk
      · have HO2 := hide (And.intro hown hg)
        clear hown hg
        go_wp2_with (first | (go_at_call 20; refine (mark_any 1 j _ (by omega) (by omega) (by omega) (by omega)).mono ?_; rintro e w' ⟨rfl, rfl⟩) | (at_builtin; refine wpList_append_at rfl (.tmp 16) (.tmp 19) rfl w.heap.size _ (n + j) ((xs ++ marks 1 j).map (Value.int .u8)) rfl (HO2.out.1.alloc _) (some ⟨_, 0, none⟩) 1 1 [markB 1 j] rfl rfl ?_ (fun e => by cases e) (by omega) ?_ ?_))
        · exact at_new _ [markB 1 j] _ rfl
        · have := HO2.out.2.size; simp; omega
        · intro v' w' hown' hg'
          go_wp2
          go_roundg (gk - 1)
          case measure => omega
          case rel =>
            refine ⟨j + 1, by omega, by go_num, ?_, ?_⟩
            · rw [marks_succ]; simpa [Nat.add_assoc] using hown'
            · refine grown_then (grown_trans HO2.out.2 (World.grownBy_alloc _ _ none)) hg' (fun k e => Or.inl (HO2.out.1.lt k e).1)
      · have hj : j = 12 := by omega
        subst hj
        obtain ⟨ao', cap', rfl, hl, hnc, hcm, hat', hnil', h5⟩ := own_at hown
        obtain ⟨a', rfl⟩ : ∃ a', ao' = some a' := by
          cases ao' with
          | none => have := (hnil' rfl).1; omega
          | some a' => exact ⟨a', rfl⟩
        have hst := slice_to (some a') (n + 12) cap' n (by omega)
        have HO2 := hide (And.intro hown hg)
        clear hown hg hl hcm hat' hnil' h5
        go_wp2
        go_ret
        obtain ⟨hown, hg⟩ := HO2.out
        rcases hown.2 with ⟨hx, _⟩ | ⟨g, cap2, cur, hv, hr⟩
        · cases hx
        · cases hv
          refine ⟨_, rfl, ⟨g, cap', by rw [Hn.out]; rfl, ?_⟩, hg⟩
          rw [Hn.out]; exact hown
theorem grown_drewN (w : World) (n : Nat) (row : Option Nat) : w.grownBy (w.drewN n) row := ⟨rfl, rfl, rfl, Nat.le_refl _, fun _ _ _ => rfl⟩
/-- What is lent, as bytes that lie somewhere: they and the marks. -/
theorem LentAt.all {w : World} {B : Nat} {v : Value} {xs : List Int} (h : LentAt w B v xs) : ∃ g cap, v = .slice (some ⟨g, 0, none⟩) xs.length cap ∧ xs.length + 12 ≤ cap ∧ cap ≤ maxLen ∧ B ≤ g ∧ g < w.heap.size ∧
    At w (some ⟨g, 0, none⟩) (xs ++ marks 1 12) ∧ ∃ cur, w.heap[g]? = some (.cells cur 5 (0, 0)) ∧ cur.size = cap := by
  obtain ⟨g, cap, rfl, hown⟩ := h
  obtain ⟨ao', cap', hv, hl, hnc, hcm, hat', hnil', h5⟩ := own_at hown
  cases hv
  obtain ⟨hb, hlt, _⟩ := h5 _ rfl
  rcases hown.2 with ⟨hx, _⟩ | ⟨g2, cap2, cur, hv, _, hc, _, _, hs, _⟩
  · cases hx
  · cases hv
    exact ⟨g, cap, rfl, hnc, hcm, hb, hlt, hat', cur, hc, by simpa using hs⟩
theorem LentAt.at {w : World} {B : Nat} {v : Value} {xs : List Int} (h : LentAt w B v xs) : ∃ g cap, v = .slice (some ⟨g, 0, none⟩) xs.length cap ∧ xs.length ≤ cap ∧ cap ≤ maxLen ∧ B ≤ g ∧ g < w.heap.size ∧ At w (some ⟨g, 0, none⟩) xs ∧ ∃ cur, w.heap[g]? = some (.cells cur 5 (0, 0)) := by
  obtain ⟨g, cap, hv, h1, h2, h3, h4, h5, cur, hc, _⟩ := h.all
  refine ⟨g, cap, hv, by omega, h2, h3, h4, ?_, cur, hc⟩
  intro j u hu
  exact h5 j u (by rw [List.getElem?_append_left (List.getElem?_eq_some_iff.1 hu).1, hu])

set_option maxHeartbeats 1000000 in
theorem kept_any (g cap : Nat) (bo : Option Addr) (n d : Nat) (xs : List Int) (w : World) (hn : xs.length = n) (hc1 : n + 12 ≤ cap) (_hc2 : cap ≤ maxLen) (ha : At w (some ⟨g, 0, none⟩) (xs ++ marks 1 12)) (hb : At w bo xs) (hm : n ≤ 140737488355328) :
    Calls Tryz.prog 8 #[.slice (some ⟨g, 0, none⟩) n cap, .slice bo n d] w fun e w' => e = .returned (.bool true) ∧ w.grownBy w' none := by
  have HA := hide (And.intro hn (And.intro ha hb))
  unfold maxLen at _hc2
  have hst := slice_to (some ⟨g, 0, none⟩) n cap (n + 12) hc1
  have hst2 : ∀ w', (Instr.slice 24 (.slice (some ⟨g, 0, none⟩) n cap) none (some (.int .i64 ((n : Int) + 12))) none).run Tryz.prog w' = .ok (.slice (some ⟨g, 0, none⟩) (n + 12) cap) w' := hst
  clear hn ha hb hst
  go_enter Tryz.func8, Tryz.ntmps8
  go_wp2
  go_loopg [6] (n + 12) (fun k i wr => ∃ j : Nat, k + j = n + 12 ∧ i = .int .i64 j ∧ w.grownBy wr none)
  case atStart => exact ⟨0, by omega, rfl, grown_refl _ _⟩
  case round =>
    obtain ⟨j, hkj, rfl, hg⟩ := hrel
    by_cases hk : 0 < gk
    · obtain ⟨hn, ha, hb⟩ := HA.out
      have hj0 : (0 : Int) ≤ (j : Int) := by omega
      have hj1 : (j : Int) < ((n + 12 : Nat) : Int) := by omega
      by_cases hj : j < n
      · have hjx : j < xs.length := by omega
        obtain ⟨a, e1, hca⟩ := ha j xs[j] (by rw [List.getElem?_append_left hjx]; simp [hjx])
        cases e1
        obtain ⟨b, rfl, hcb⟩ := hb j xs[j] (by simp [hjx])
        have hca' := hg.cell hca (by simp)
        have hcb' := hg.cell hcb (by simp)
        rw [Addr.add_lit, Nat.zero_add] at hca'
        generalize xs[j] = x at *
        have hjn : (j : Int) < (n : Int) := by omega
        have hd1 : decide (n ≤ j) = false := by simp; omega
        clear hn ha hb hca hcb hst2 hjx
        go_wp2
        go_quiet (fail)
        go_wp2
        go_roundg (gk - 1)
        case measure => omega
        case rel => exact ⟨j + 1, by omega, by go_num, grown_trans hg (grown_drewN _ _ _)⟩
      · obtain ⟨i, hji⟩ : ∃ i, j = n + i := ⟨j - n, by omega⟩
        have hi : i < 12 := by omega
        obtain ⟨a, e1, hca⟩ := ha j (markB 1 i) (by rw [hji, List.getElem?_append_right (by omega), hn, Nat.add_sub_cancel_left, marks_get 1 12 i hi])
        cases e1
        have hca' := hg.cell hca (by simp)
        rw [Addr.add_lit, Nat.zero_add] at hca'
        have hd1 : decide (j < n) = false := by simp; omega
        have hd3 : decide (n ≤ j) = true := by simp; omega
        have hmk : ∀ w, Calls Tryz.prog 20 #[.int .i64 1, .int .i64 (i : Int)] w fun e w' => e = .returned (.int .u8 (markB 1 i)) ∧ w' = w := fun w => mark_any 1 i w (by omega) (by omega) (by omega) (by omega)
        have Hmk := hide hmk
        have hsub : (j : Int) - (n : Int) = (i : Int) := by omega
        have HJ := hide hji
        have hwi : IntKind.i64.wrap (i : Int) = (i : Int) := by rw [IntKind.wrap_i64]; omega
        generalize markB 1 (i : Int) = x at *
        clear hn ha hb hca hst2 hmk hji
        go_wp2
        go_quiet ((go_at_call 20; exact Calls.quiet_of_same (Hmk.out _)))
        go_wp2
        go_roundg (gk - 1)
        case measure => omega
        case rel => exact ⟨j + 1, by omega, by go_num, grown_trans hg (grown_drewN _ _ _)⟩
    · have hj : j = n + 12 := by omega
      subst hj
      go_wp2
      go_ret
      exact ⟨rfl, hg⟩
end Go.Proofs.YtahjckcfcdnlmaaGreatDoor.Oc
/- The contract of OverBytes; a Reader's bytes that lie behind a bound. -/
namespace Go.Proofs.YtahjckcfcdnlmaaGreatDoor.Oc
open Go.RowKit

set_option maxHeartbeats 1000000 in
theorem over_any (g cap n : Nat) (w : World) (hb : ∃ cur, w.heap[g]? = some (.cells cur 5 (0, 0)) ∧ cur.size = cap) (hc1 : n + 12 ≤ cap) (_hc2 : cap ≤ maxLen) (hm : n ≤ 140737488355328) :
    Calls Tryz.prog 10 #[.slice (some ⟨g, 0, none⟩) n cap] w fun e w' => e = .returned (.tuple #[]) ∧ w.grownBy w' (some g) := by
  unfold maxLen at _hc2
  have hst2 : ∀ w', (Instr.slice 24 (.slice (some ⟨g, 0, none⟩) n cap) none (some (.int .i64 ((n : Int) + 12))) none).run Tryz.prog w' = .ok (.slice (some ⟨g, 0, none⟩) (n + 12) cap) w' := slice_to (some ⟨g, 0, none⟩) n cap (n + 12) hc1
  have HB := hide hb
  clear hb
  go_enter Tryz.func10, Tryz.ntmps10
  go_wp2
  go_loopg [3] (n + 12) (fun k i wr => ∃ j : Nat, k + j = n + 12 ∧ i = .int .i64 j ∧ (∃ cur, wr.heap[g]? = some (.cells cur 5 (0, 0)) ∧ cur.size = cap) ∧ w.grownBy wr (some g))
  case atStart => exact ⟨0, by omega, rfl, HB.out, grown_refl _ _⟩
  case round =>
    obtain ⟨j, hkj, rfl, ⟨cur, hb, hs⟩, hg⟩ := hrel
    by_cases hk : 0 < gk
    · have hj1 : (j : Int) < ((n + 12 : Nat) : Int) := by omega
      have hjs : j < cur.size := by omega
      have hc : wr.cell? ⟨g, j, none⟩ = some cur[j] := by rw [cell_of_row wr g j cur 5 (0, 0) hb]; simp [hjs]
      have hf : wr.frozen? ⟨g, j, none⟩ = false := free_row hb _
      have Hb := hide (And.intro hb hs)
      obtain ⟨y, hy⟩ : ∃ y, y = cur[j] := ⟨_, rfl⟩
      rw [← hy] at hc
      clear hb hs hy hst2
      go_wp2_with (first | (go_at_call 20; refine (mark_any 2 j _ (by omega) (by omega) (by omega) (by omega)).mono ?_; rintro e w' ⟨rfl, rfl⟩) | go_in)
      go_roundg (gk - 1)
      case measure => omega
      case rel =>
        refine ⟨j + 1, by omega, by go_num, ⟨cur.setIfInBounds j (.int .u8 (markB 2 j)), ?_, by simp [Hb.out.2]⟩, grown_trans hg (grown_setCell _ g j _)⟩
        have h1 : _ = some (Obj.cells cur.toList.toArray 5 (0, 0)) := Hb.out.1
        have := row_setCell h1 j (.int .u8 (markB 2 j))
        rw [this]
        simp only [Option.some.injEq, Obj.cells.injEq, and_true]
        exact Array.ext' (by simp)
    · have hj : j = n + 12 := by omega
      subst hj
      clear hb hs
      go_wp2
      go_end0
      exact ⟨rfl, hg⟩

/-- A Reader whose bytes lie in blocks from lo on. -/
def RdLo (w : World) (b lo : Nat) : Prop := ∀ ao n cap a, w.cell? ⟨b, 0, none⟩ = some (.slice ao n cap) → ao = some a → lo ≤ a.block
theorem RdAt.keptLo {w w' : World} {b k lo : Nat} {xs : List Int} {e : Int} (h : RdAt w b xs e) (hlo : RdLo w b lo) (hg : w.grownBy w' (some k)) (hk : k < lo) (hkb : k ≠ b) : RdAt w' b xs e := by
  obtain ⟨ao, cap, hb, h1, h2, hat, ho, h3, h4, h5⟩ := h
  have hc : w.cell? ⟨b, 0, none⟩ = some (.slice ao xs.length cap) := by rw [cell_row hb]; rfl
  have hne' : ∀ a, ao = some a → some a.block ≠ some k := fun a ha e => by
    have := hlo ao _ _ a hc ha
    simp at e; omega
  refine ⟨ao, cap, (hg.block b (row_lt hb) (fun e => hkb (by simpa using e.symm))).trans hb, h1, h2, hat.kept hg hne', ho, h3, h4, fun a ha => ?_⟩
  obtain ⟨c, hc⟩ := h5 a ha
  exact ⟨c, (hg.block _ (row_lt hc) (hne' a ha)).trans hc⟩
theorem RdLo.kept {w w' : World} {b lo : Nat} {xs : List Int} {e : Int} {row : Option Nat} (h : RdLo w b lo) (hR : RdAt w b xs e) (hg : w.grownBy w' row) (hne : row ≠ some b) : RdLo w' b lo := by
  intro ao n cap a hc
  rw [World.cell?_of_block (w := w) (a := ⟨b, 0, none⟩) (hg.block b hR.lt (fun e => hne e.symm))] at hc
  exact h ao n cap a hc

set_option maxHeartbeats 400000 in
theorem of_lo (ao : Option Addr) (n cap : Nat) (xs : List Int) (w : World) (hn : xs.length = n) (hat : At w ao xs) (hnil : ao = none → n = 0 ∧ cap = 0) (hb : n ≤ 140737488355328) :
    Calls Tryz.prog 54 #[.slice ao n cap] w fun r w' => ∃ B, r = .returned (.pointer (some ⟨B, 0, none⟩)) ∧ w.heap.size ≤ B ∧ RdAt w' B xs 0 ∧ w.grownBy w' none ∧ RdLo w' B w.heap.size := by
  have Hn := hide hn
  clear hn
  go_enter Tryz.func54, Tryz.ntmps54
  go_wp2_with fail
  refine (clone_any ao n cap xs _ Hn.out hat hnil hb).mono ?_
  rintro e1 w1 ⟨v, rfl, hown, hg⟩
  obtain ⟨ao', cap', rfl, hl, hnc, hcm, hat', hnil', h5⟩ := own_at hown
  have H := hide (And.intro hl (And.intro hnc (And.intro hcm (And.intro hat' (And.intro hnil' (And.intro h5 hg))))))
  clear hl hnc hcm hat' hnil' h5 hg hown
  go_wp2
  go_ret
  obtain ⟨hl, hnc, hcm, hat', hnil', h5, hg⟩ := H.out
  have hga := World.grownBy_alloc w1 (.cells (rrow ao' xs.length cap' 0).toArray 136) none
  refine ⟨w1.heap.size, rfl, hg.size, ⟨ao', cap', ?_, by omega, hcm, ?_, ?_, fun e => (hnil' e).2, fun h => absurd rfl h, ?_⟩, ?_, ?_⟩
  · rw [hl]; exact heap_alloc_new w1 _
  · rw [← hl]; exact hat'.kept hga (by simp)
  · intro a ha e; have := (h5 a ha).2.1; omega
  · intro a ha
    obtain ⟨_, hlt, c, hc⟩ := h5 a ha
    exact ⟨c, (Below.heap_alloc _ _ _ hlt).trans hc⟩
  · exact grown_trans hg (World.grownBy_alloc w1 _ _)
  · intro ao2 n2 cap2 a hc ha
    have e1 : (w1.alloc (.cells (rrow ao' n cap' 0).toArray 136)).cell? ⟨w1.heap.size, 0, none⟩ = some (.slice ao' n cap') := by rw [cell_row (heap_alloc_new w1 _)]; rfl
    have e2 := e1.symm.trans hc
    simp at e2
    obtain ⟨e3, _⟩ := e2
    rw [← e3] at ha
    exact (h5 a ha).1
end Go.Proofs.YtahjckcfcdnlmaaGreatDoor.Oc
