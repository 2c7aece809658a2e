/- Texts joined: SlN, SlL0, SlL. -/
import Derived.Test.YtonokaelbpfjnaaGreatDoorJhAr
import Derived.Test.YtonokaelbpfjnaaGreatDoorJhAu
/- Load and Save of no slots. -/
namespace Go.Proofs.YtonokaelbpfjnaaGreatDoor
open Go.RowKit Ap
attribute [local go_sem ↓] Go.wp_at_zero Go.wp_at_succ
theorem results_cell_tmp3 {fn : Func} {p u x y : Tmp} {ty : TypeId} (h : fn.results = #[.cell p ty, .tmp u, .tmp x, .tmp y]) (tmps : Array Value) (P : Program) (w : World) :
    (results fn tmps).run P w =
      ((asAddr (tmps.getD p undef)).run P w).andThen fun a w₁ => ((loadVar ty a).run P w₁).andThen fun v w₂ => .ok (.tuple #[v, tmps.getD u undef, tmps.getD x undef, tmps.getD y undef]) w₂ := by
  simp only [results, h]
  simp [Sem.run_bind, Result.andThen]
set_option maxRecDepth 20000 in
set_option maxHeartbeats 2000000 in
theorem load_no {w : World} {p : Option Addr} (h : NoSlots w p) : Calls Tryz.prog 21 #[.pointer p] w fun e w' => e = .returned (.tuple #[.agg #[.int .u64 0, .int .u64 0, .int .i64 0, .int .u32 0], .slice none 0 0, .int .i64 0, .int .i64 1]) ∧ w.grownBy w' none := by
  have hn : NoSlots (w.alloc (.cells #[.int .u64 0, .int .u64 0, .int .i64 0, .int .u32 0] 35)) p := by
    rcases h with e | ⟨s, c1, e, h1⟩
    · exact .inl e
    · exact .inr ⟨s, c1, e, ((World.grownBy_alloc w (.cells #[.int .u64 0, .int .u64 0, .int .i64 0, .int .u32 0] 35) none).block _ (row_lt h1) (by simp)).trans h1⟩
  have H := hide (snone_no hn)
  have HG := hide (World.grownBy_alloc w (.cells #[.int .u64 0, .int .u64 0, .int .i64 0, .int .u32 0] 35) none)
  obtain ⟨e0, e1, e2, e3⟩ := Fm.box4 (heap_alloc_new w (.cells [Value.int .u64 0, .int .u64 0, .int .i64 0, .int .u32 0].toArray 35))
  clear h hn
  go_enter Tryz.func21, Tryz.ntmps21
  go_wp2_with fail
  refine H.out.mono ?_
  rintro e wx ⟨rfl, hwx⟩
  obtain rfl := hwx.symm
  have hbx := heap_alloc_new w (.cells [Value.int .u64 0, .int .u64 0, .int .i64 0, .int .u32 0].toArray 35)
  have f0 := free_row hbx 0
  have f1 := free_row hbx 1
  have f2 := free_row hbx 2
  have f3 := free_row hbx 3
  have HBX := hide hbx
  clear hbx
  generalize (w.alloc (.cells #[.int .u64 0, .int .u64 0, .int .i64 0, .int .u32 0] 35)) = w1 at *
  go_wp2
  obtain ⟨eb, eg⟩ := Fm.set4 HBX.out (.int .u64 0) (.int .u64 0) (.int .i64 0) (.int .u32 0)
  clear e0 e1 e2 e3 f0 f1 f2 f3
  obtain ⟨e0, e1, e2, e3⟩ := Fm.box4 eb
  have EG := hide (grown_then HG.out eg (fun j e => by cases e; exact Or.inl (Nat.le_refl _)))
  clear eb eg HG
  generalize (((w1.setCell ⟨w.heap.size, 0, none⟩ (.int .u64 0)).setCell ⟨w.heap.size, 1, none⟩ (.int .u64 0)).setCell ⟨w.heap.size, 2, none⟩ (.int .i64 0)).setCell ⟨w.heap.size, 3, none⟩ (.int .u32 0) = w2 at *
  refine bodyPost_ret (v := .tuple #[.agg #[.int .u64 0, .int .u64 0, .int .i64 0, .int .u32 0], .slice none 0 0, .int .i64 0, .int .i64 1]) ?_ rfl ?_
  · rw [results_cell_tmp3 rfl]; go_simp
  exact ⟨rfl, EG.out⟩
set_option maxRecDepth 20000 in
set_option maxHeartbeats 2000000 in
theorem save_no {w : World} {p : Option Addr} (h : NoSlots w p) (v : Value) (c : Int) : Calls Tryz.prog 27 #[.pointer p, v, .int .u64 c] w fun e w' => e = .returned (.tuple #[.agg #[.int .u64 0, .int .u64 0, .int .i64 0, .int .u32 0], .int .i64 1]) ∧ w.grownBy w' none := by
  have hn : NoSlots (w.alloc (.cells #[.int .u64 0, .int .u64 0, .int .i64 0, .int .u32 0] 35)) p := by
    rcases h with e | ⟨s, c1, e, h1⟩
    · exact .inl e
    · exact .inr ⟨s, c1, e, ((World.grownBy_alloc w (.cells #[.int .u64 0, .int .u64 0, .int .i64 0, .int .u32 0] 35) none).block _ (row_lt h1) (by simp)).trans h1⟩
  have H := hide (snone_no hn)
  have HG := hide (World.grownBy_alloc w (.cells #[.int .u64 0, .int .u64 0, .int .i64 0, .int .u32 0] 35) none)
  obtain ⟨e0, e1, e2, e3⟩ := Fm.box4 (heap_alloc_new w (.cells [Value.int .u64 0, .int .u64 0, .int .i64 0, .int .u32 0].toArray 35))
  clear h hn
  go_enter Tryz.func27, Tryz.ntmps27
  go_wp2_with fail
  refine H.out.mono ?_
  rintro e wx ⟨rfl, hwx⟩
  obtain rfl := hwx.symm
  have hbx := heap_alloc_new w (.cells [Value.int .u64 0, .int .u64 0, .int .i64 0, .int .u32 0].toArray 35)
  have f0 := free_row hbx 0
  have f1 := free_row hbx 1
  have f2 := free_row hbx 2
  have f3 := free_row hbx 3
  have HBX := hide hbx
  clear hbx
  generalize (w.alloc (.cells #[.int .u64 0, .int .u64 0, .int .i64 0, .int .u32 0] 35)) = w1 at *
  go_wp2
  obtain ⟨eb, eg⟩ := Fm.set4 HBX.out (.int .u64 0) (.int .u64 0) (.int .i64 0) (.int .u32 0)
  clear e0 e1 e2 e3 f0 f1 f2 f3
  obtain ⟨e0, e1, e2, e3⟩ := Fm.box4 eb
  have EG := hide (grown_then HG.out eg (fun j e => by cases e; exact Or.inl (Nat.le_refl _)))
  clear eb eg HG
  generalize (((w1.setCell ⟨w.heap.size, 0, none⟩ (.int .u64 0)).setCell ⟨w.heap.size, 1, none⟩ (.int .u64 0)).setCell ⟨w.heap.size, 2, none⟩ (.int .i64 0)).setCell ⟨w.heap.size, 3, none⟩ (.int .u32 0) = w2 at *
  refine bodyPost_ret (v := .tuple #[.agg #[.int .u64 0, .int .u64 0, .int .i64 0, .int .u32 0], .int .i64 1]) ?_ rfl ?_
  · rw [Fm.results_cell_tmp1 rfl]; go_simp
  exact ⟨rfl, EG.out⟩
end Go.Proofs.YtonokaelbpfjnaaGreatDoor
/- What Load tells: numbers alone. -/
namespace Go.Proofs.YtonokaelbpfjnaaGreatDoor
open Go.RowKit Ap

theorem rgo_cntL (m : Nat) (s : Dv) : (rgo m s).2.cnt ≤ s.cnt + m := by
  induction m generalizing s with
  | zero => simp [rgo]
  | succ m ih =>
    have h1 := s.next_le
    have h2 := ih s.next
    unfold rgo
    split
    · omega
    · simp only; omega
/-- No header. -/
def hd0 : Fm.Hd := ⟨0, 0, 0, 0⟩
/-- What Load tells. -/
structure Ld where
  h : Fm.Hd
  xs : Option (List Nat)
  at_ : Int
  code : Int
  s : Dv
/-- Where a claim's slot lies. -/
def fOf (Fa Fb : Nat) (a : Int) : Nat := if a = 0 then Fa else Fb
def bodyOf (size Fa Fb : Nat) (D : List Nat) (A : List Pr) (p : Fm.Hd × Int) : List Nat := bytesAt (now size D A) (fOf Fa Fb p.2 * size + size) p.1.n.toNat
/-- Claim by claim. -/
def lgo (size Fa Fb : Nat) (D : List Nat) (A : List Pr) : List (Fm.Hd × Int) → Dv → Ld
  | [], s => ⟨hd0, none, -1, 0, s⟩
  | p :: r, s =>
    if (rgo (pcn size size p.1.n.toNat) s).1 ≠ 0 then ⟨hd0, none, 0, (rgo (pcn size size p.1.n.toNat) s).1, (rgo (pcn size size p.1.n.toNat) s).2⟩
    else if sumN (bodyOf size Fa Fb D A p) = p.1.s then ⟨p.1, some (bodyOf size Fa Fb D A p), p.2, 0, (rgo (pcn size size p.1.n.toNat) s).2⟩
    else lgo size Fa Fb D A r (rgo (pcn size size p.1.n.toNat) s).2
/-- What both headers claim, the newest first. -/
def clm (size C Fa Fb : Nat) (D : List Nat) (A : List Pr) : List (Fm.Hd × Int) := srt (acc size C D A Fa 0 ++ acc size C D A Fb 1)
def ldA (size C Fa Fb : Nat) (s : Dv) (D : List Nat) (A : List Pr) : Ld :=
  if (rgo 1 s).1 ≠ 0 then ⟨hd0, none, 0, (rgo 1 s).1, (rgo 1 s).2⟩
  else if (rgo 1 (rgo 1 s).2).1 ≠ 0 then ⟨hd0, none, 0, (rgo 1 (rgo 1 s).2).1, (rgo 1 (rgo 1 s).2).2⟩
  else lgo size Fa Fb D A (clm size C Fa Fb D A) (rgo 1 (rgo 1 s).2).2
theorem readH_may {xs : List Int} (h : (Fm.readH xs).2 = 0) : (Fm.readH xs).1.May := by
  unfold Fm.readH at h ⊢
  split at h
  · simp at h
  · rename_i h1
    rw [if_neg h1]
    split at h
    · rename_i h2
      rw [if_pos h2]
      split at h
      · rename_i h3; rw [if_pos h3]; exact h3
      · simp at h
    · simp at h
/-- What is known of a claim. -/
structure ClOk (size C : Nat) (p : Fm.Hd × Int) : Prop where
  at_ : p.2 = 0 ∨ p.2 = 1
  n0 : 0 ≤ p.1.n
  n1 : p.1.n ≤ 67108864
  fit : p.1.n ≤ (((C - 1) * size : Nat) : Int)
  g : 1 ≤ p.1.g
theorem acc_ok {size C : Nat} {D : List Nat} {A : List Pr} {F : Nat} {a : Int} (ha : a = 0 ∨ a = 1) : ∀ p ∈ acc size C D A F a, ClOk size C p := by
  intro p hp
  unfold acc at hp
  split at hp
  · rename_i h
    simp at hp
    subst hp
    have hm := readH_may (xs := intz (bytesAt (now size D A) (F * size + 0) size)) h.1
    exact ⟨ha, hm.2.1, hm.2.2, h.2, hm.1⟩
  · simp at hp
theorem srt_mem {L : List (Fm.Hd × Int)} {p : Fm.Hd × Int} (h : p ∈ srt L) : p ∈ L := by
  unfold srt at h
  split at h
  · split at h <;> simp_all
    rcases h with h | h <;> simp [h]
  · exact h
theorem srt_length (L : List (Fm.Hd × Int)) : (srt L).length = L.length := by
  unfold srt
  split
  · split <;> rfl
  · rfl
theorem clm_ok {size C Fa Fb : Nat} {D : List Nat} {A : List Pr} : ∀ p ∈ clm size C Fa Fb D A, ClOk size C p := by
  intro p hp
  rcases List.mem_append.1 (srt_mem hp) with h | h
  · exact acc_ok (.inl rfl) p h
  · exact acc_ok (.inr rfl) p h
theorem clm_length (size C Fa Fb : Nat) (D : List Nat) (A : List Pr) : (clm size C Fa Fb D A).length = (acc size C D A Fa 0 ++ acc size C D A Fb 1).length := srt_length _
theorem clm_two (size C Fa Fb : Nat) (D : List Nat) (A : List Pr) : (clm size C Fa Fb D A).length ≤ 2 := by
  rw [clm_length, List.length_append]
  have h1 := acc_length size C D A Fa 0
  have h2 := acc_length size C D A Fb 1
  omega
theorem pcn_body {size C m : Nat} (hs : 1 ≤ size) (h : m ≤ (C - 1) * size) : pcn size size m ≤ C := by
  unfold pcn
  split
  · omega
  · rename_i hm
    have hC : 1 ≤ C := by
      rcases Nat.eq_zero_or_pos C with e | e
      · subst e; simp at h; omega
      · exact e
    obtain ⟨c, rfl⟩ : ∃ c, C = c + 1 := ⟨C - 1, by omega⟩
    have h2 : (size + m - 1) / size ≤ c := by
      have : size + m - 1 < (c + 1) * size := by
        rw [Nat.add_mul]; simp at h ⊢; omega
      have := Nat.div_lt_of_lt_mul (by rw [Nat.mul_comm]; exact this)
      exact Nat.le_of_lt_succ this
    generalize (size + m - 1) / size = q at *
    generalize size / size = r at *
    omega
end Go.Proofs.YtonokaelbpfjnaaGreatDoor
/- Load. -/
namespace Go.Proofs.YtonokaelbpfjnaaGreatDoor
open Go.RowKit Ap
attribute [local go_sem ↓] Go.wp_at_zero Go.wp_at_succ
/-- What Load leaves. -/
structure LdP (w0 w w' : World) (n size b : Nat) (k : Dk) (D : List Nat) (W : List Wt) (R : Ld) (v : Value) : Prop where
  dev : Dev w0 w' n size b R.s k D W
  kept : Kept w w' (fun i => k.own i ∨ i = b)
  no : R.xs = none → v = .slice none 0 0
  yes : ∀ xs, R.xs = some xs → ∃ g, v = .slice (some ⟨g, 0, none⟩) xs.length xs.length ∧ w.heap.size ≤ g ∧ w'.heap[g]? = some (.cells (bv xs).toArray 5 (0, 0))
section
variable {w0 w w' w2 : World} {n size b sl ra rb Fa Fb C : Nat} {s : Dv} {k : Dk} {D : List Nat} {W : List Wt}
/-- A claim's five cells. -/
theorem cs_cells {w : World} {g t : Nat} {L : List (Fm.Hd × Int)} {p : Fm.Hd × Int} (h : CsAt w g L) (hp : L[t]? = some p) :
    w.cell? ⟨g, t * 5, none⟩ = some (.int .u64 p.1.g) ∧ w.cell? ⟨g, t * 5 + 1, none⟩ = some (.int .u64 p.1.c) ∧ w.cell? ⟨g, t * 5 + 2, none⟩ = some (.int .i64 p.1.n) ∧ w.cell? ⟨g, t * 5 + 3, none⟩ = some (.int .u32 p.1.s) ∧ w.cell? ⟨g, t * 5 + 4, none⟩ = some (.int .i64 p.2) :=
  ⟨h t p hp 0 _ rfl, h t p hp 1 _ rfl, h t p hp 2 _ rfl, h t p hp 3 _ rfl, h t p hp 4 _ rfl⟩
theorem SlAt.one {w : World} {s ra rb : Nat} (h : SlAt w s ra rb) {a : Nat} (ha : a < 2) : w.cell? ⟨s, a, none⟩ = some (.pointer (some ⟨if a = 0 then ra else rb, 0, none⟩)) := by
  rcases (show a = 0 ∨ a = 1 by omega) with rfl | rfl
  · exact h.cells.1
  · exact h.cells.2
/-- Inside Load: its box for the header. -/
structure LdS (w0 w wr : World) (n size b : Nat) (st : Dv) (k : Dk) (D : List Nat) (W : List Wt) (X g : Nat) (L : List (Fm.Hd × Int)) : Prop where
  dev : Dev w0 wr n size b st k D W
  kept : Kept w wr (fun i => k.own i ∨ i = b)
  box : wr.heap[X]? = some (.cells (Fm.hdC hd0).toArray 35 (0, 0))
  row : 0 < L.length → CsAt wr g L
theorem box_fin {w3 w9 : World} {X : Nat} {st : Dv} {c : Array Value} {fr : Nat × Nat} (hd : Dev w0 w3 n size b st k D W) (hk : Kept w w3 (fun i => k.own i ∨ i = b)) (hb : w3.heap[X]? = some (.cells c 35 fr)) (hX : w.heap.size ≤ X) (hl : w0.heap.size ≤ X) (g : w3.grownBy w9 (some X)) : Dev w0 w9 n size b st k D W ∧ Kept w w9 (fun i => k.own i ∨ i = b) := by
  have hf := hd.far hb (by decide) (by decide) (by decide) (by decide)
  refine ⟨hd.row g ?_ hf.2 hl, hk.trans (Kept.of (S := fun j => j = X) g (fun j e _ => (Option.some.inj e).symm)) (fun j hj e => by omega)⟩
  rintro (e | ⟨x, hx, e⟩)
  · exact hf.1 e
  · have h3 := (hd.disk.disk.waits x hx).2.2.2
    rw [e, hb] at h3
    simp at h3
theorem CsAt.keptD {w w' : World} {g : Nat} {L : List (Fm.Hd × Int)} {S : Nat → Prop} (h : CsAt w g L) (hk : Kept w w' S) (hS : ¬ S g) : CsAt w' g L := fun j p hj i v hv => cell_kept hk (h j p hj i v hv) hS
set_option maxRecDepth 20000 in
set_option maxHeartbeats 8000000 in
theorem load_at (hl : SlAt w sl ra rb) (h : Dev w0 w n size b s k D W) (ha : RgAt w ra b Fa C) (hb : RgAt w rb b Fb C) (hFa : Fa + C ≤ n) (hFb : Fb + C ≤ n) (hC : 1 ≤ C) (hC2 : C ≤ 1000) (hs32 : 32 ≤ size) (hs : size ≤ 4096) (hcnt : s.cnt ≤ 80000) (hT : Fm.Cr.Tab w0) (hB : Bytes (now size D (abs W))) :
    Calls Tryz.prog 21 #[.pointer (some ⟨sl, 0, none⟩)] w fun e w' => ∃ v, e = .returned (.tuple #[Fm.hdV (ldA size C Fa Fb s D (abs W)).h, v, .int .i64 (ldA size C Fa Fb s D (abs W)).at_, .int .i64 (ldA size C Fa Fb s D (abs W)).code]) ∧ LdP w0 w w' n size b k D W (ldA size C Fa Fb s D (abs W)) v := by
  have g1 := World.grownBy_alloc w (.cells #[.int .u64 0, .int .u64 0, .int .i64 0, .int .u32 0] 35) none
  have bx : (w.alloc (.cells #[.int .u64 0, .int .u64 0, .int .i64 0, .int .u32 0] 35)).heap[w.heap.size]? = some (.cells (Fm.hdC hd0).toArray 35 (0, 0)) := heap_alloc_new w _
  generalize hw1 : w.alloc (.cells #[.int .u64 0, .int .u64 0, .int .i64 0, .int .u32 0] 35) = w1 at *
  have HN := hide (snone_at (hl.grown g1))
  have HCl := hide (claims_at (hl.grown g1) (h.then g1) (ha.grown g1) (hb.grown g1) hFa hFb hC (by omega) hs32 hs (by omega) hT hB)
  generalize hR : ldA size C Fa Fb s D (abs W) = R
  have HR := hide hR
  have HI := hide (And.intro hl (And.intro h (And.intro ha (And.intro hb (And.intro hT hB)))))
  have HG := hide (And.intro g1 (And.intro bx hw1))
  obtain ⟨e0, e1, e2, e3⟩ := Fm.box4 bx
  have f0 := free_row bx 0
  have f1 := free_row bx 1
  have f2 := free_row bx 2
  have f3 := free_row bx 3
  clear hl h ha hb hT hB hR g1 bx
  unfold Fm.hdV
  go_enter Tryz.func21, Tryz.ntmps21
  go_wp2_with fail
  clear hw1
  refine HN.out.mono ?_
  rintro e wx ⟨rfl, hwx⟩
  obtain rfl := hwx.symm
  go_wp2_with fail
  refine HCl.out.mono ?_
  clear HCl HN
  rintro e w2 hp
  have hoffX := new_off HI.out.2.1 (Nat.le_refl w.heap.size)
  have hlX : w0.heap.size ≤ w.heap.size := HI.out.2.1.disk.grown.size
  have hk1 : ∀ {w3 : World}, Kept w1 w3 (fun i => k.own i ∨ i = b) → Kept w w3 (fun i => k.own i ∨ i = b) := fun hk => (Kept.new HG.out.1 _).trans hk (fun _ _ e => e)
  have HK1 := hide (And.intro (@hk1) (And.intro hoffX hlX))
  clear hk1 hoffX hlX e0 e1 e2 e3 f0 f1 f2 f3
  obtain ⟨X, hX⟩ : ∃ X, X = w.heap.size := ⟨_, rfl⟩
  rw [← hX] at HG
  have HX := hide hX
  rcases hp with ⟨hz, rfl, hdev, hkept⟩ | ⟨hz1, hz2, rfl, hdev, hkept⟩ | ⟨hz1, hz2, hdev, hkept, so, cap, rfl, hrow⟩
  · have hRe : R = ⟨hd0, none, 0, (rgo 1 s).1, (rgo 1 s).2⟩ := by rw [← HR.out]; unfold ldA; rw [if_pos hz]
    subst hRe
    have hbx := hkept.at HG.out.2.1 (by rw [hX]; exact HK1.out.2.1)
    have HBX : Hid (w2.heap[X]? = some (.cells (Fm.hdC hd0).toArray 35 (0, 0)) ∧ Dev w0 w2 n size b (rgo 1 s).2 k D W ∧ Kept w w2 (fun i => k.own i ∨ i = b) ∧ w.heap.size ≤ X ∧ w0.heap.size ≤ X) := ⟨hbx, hdev, HK1.out.1 hkept, by omega, by rw [hX]; exact HK1.out.2.2⟩
    obtain ⟨e0, e1, e2, e3⟩ := Fm.box4 hbx
    have f0 := free_row hbx 0
    have f1 := free_row hbx 1
    have f2 := free_row hbx 2
    have f3 := free_row hbx 3
    unfold hd0 at e0 e1 e2 e3
    simp only at e0 e1 e2 e3
    have hne : ((rgo 1 s).1 != 0) = true := by simpa using hz
    rw [← HX.out]
    clear hbx hdev hkept HR hX
    go_wp2
    obtain ⟨eb, eg⟩ := Fm.set4 HBX.out.1 (.int .u64 0) (.int .u64 0) (.int .i64 0) (.int .u32 0)
    clear e0 e1 e2 e3 f0 f1 f2 f3
    obtain ⟨e0, e1, e2, e3⟩ := Fm.box4 eb
    have FIN := hide (And.intro (box_fin HBX.out.2.1 HBX.out.2.2.1 HBX.out.1 HBX.out.2.2.2.1 HBX.out.2.2.2.2 eg) eg)
    clear eb eg
    generalize ((((w2.setCell ⟨X, 0, none⟩ (.int .u64 0)).setCell ⟨X, 1, none⟩ (.int .u64 0)).setCell ⟨X, 2, none⟩ (.int .i64 0)).setCell ⟨X, 3, none⟩ (.int .u32 0)) = w9 at *
    refine bodyPost_ret (v := .tuple #[.agg #[.int .u64 0, .int .u64 0, .int .i64 0, .int .u32 0], .slice none 0 0, .int .i64 0, .int .i64 (rgo 1 s).1]) ?_ rfl ?_
    · rw [results_cell_tmp3 rfl]; go_simp
    exact ⟨_, rfl, FIN.out.1.1, FIN.out.1.2, fun _ => rfl, fun xs e => by cases e⟩
  · have hRe : R = ⟨hd0, none, 0, (rgo 1 (rgo 1 s).2).1, (rgo 1 (rgo 1 s).2).2⟩ := by rw [← HR.out]; unfold ldA; rw [if_neg (by simpa using hz1), if_pos hz2]
    subst hRe
    have hbx := hkept.at HG.out.2.1 (by rw [hX]; exact HK1.out.2.1)
    have HBX : Hid (w2.heap[X]? = some (.cells (Fm.hdC hd0).toArray 35 (0, 0)) ∧ Dev w0 w2 n size b (rgo 1 (rgo 1 s).2).2 k D W ∧ Kept w w2 (fun i => k.own i ∨ i = b) ∧ w.heap.size ≤ X ∧ w0.heap.size ≤ X) := ⟨hbx, hdev, HK1.out.1 hkept, by omega, by rw [hX]; exact HK1.out.2.2⟩
    obtain ⟨e0, e1, e2, e3⟩ := Fm.box4 hbx
    have f0 := free_row hbx 0
    have f1 := free_row hbx 1
    have f2 := free_row hbx 2
    have f3 := free_row hbx 3
    unfold hd0 at e0 e1 e2 e3
    simp only at e0 e1 e2 e3
    have hne : ((rgo 1 (rgo 1 s).2).1 != 0) = true := by simpa using hz2
    rw [← HX.out]
    clear hbx hdev hkept HR hX
    go_wp2
    obtain ⟨eb, eg⟩ := Fm.set4 HBX.out.1 (.int .u64 0) (.int .u64 0) (.int .i64 0) (.int .u32 0)
    clear e0 e1 e2 e3 f0 f1 f2 f3
    obtain ⟨e0, e1, e2, e3⟩ := Fm.box4 eb
    have FIN := hide (And.intro (box_fin HBX.out.2.1 HBX.out.2.2.1 HBX.out.1 HBX.out.2.2.2.1 HBX.out.2.2.2.2 eg) eg)
    clear eb eg
    generalize ((((w2.setCell ⟨X, 0, none⟩ (.int .u64 0)).setCell ⟨X, 1, none⟩ (.int .u64 0)).setCell ⟨X, 2, none⟩ (.int .i64 0)).setCell ⟨X, 3, none⟩ (.int .u32 0)) = w9 at *
    refine bodyPost_ret (v := .tuple #[.agg #[.int .u64 0, .int .u64 0, .int .i64 0, .int .u32 0], .slice none 0 0, .int .i64 0, .int .i64 (rgo 1 (rgo 1 s).2).1]) ?_ rfl ?_
    · rw [results_cell_tmp3 rfl]; go_simp
    exact ⟨_, rfl, FIN.out.1.1, FIN.out.1.2, fun _ => rfl, fun xs e => by cases e⟩
  · generalize hL : clm size C Fa Fb D (abs W) = L at *
    have hlen : (acc size C D (abs W) Fa 0 ++ acc size C D (abs W) Fb 1).length = L.length := by rw [← hL, clm_length]
    have hok : ∀ p ∈ L, ClOk size C p := by rw [← hL]; exact clm_ok
    have hl2 : L.length ≤ 2 := by rw [← hL]; exact clm_two _ _ _ _ _ _
    rw [show srt (acc size C D (abs W) Fa 0 ++ acc size C D (abs W) Fb 1) = L from hL] at hrow
    rw [hlen] at hrow ⊢
    have hRe : R = lgo size Fa Fb D (abs W) L (rgo 1 (rgo 1 s).2).2 := by
      rw [← HR.out]; unfold ldA; rw [if_neg (by simpa using hz1), if_neg (by simpa using hz2), hL]
    obtain ⟨g, hg⟩ : ∃ g, 0 < L.length → so = some ⟨g, 0, none⟩ ∧ w1.heap.size ≤ g ∧ CsAt w2 g L := by
      by_cases h0 : 0 < L.length
      · obtain ⟨g, h1⟩ := hrow h0
        exact ⟨g, fun _ => h1⟩
      · exact ⟨0, fun h => absurd h h0⟩
    have hgo : 0 < L.length → ¬ (k.own g ∨ g = b) := fun h0 => new_off (HI.out.2.1.then HG.out.1) (hg h0).2.1
    have hs1 := rgo_cntL 1 s
    have hs2 := rgo_cntL 1 (rgo 1 s).2
    have S0 : Hid (LdS w0 w w2 n size b (rgo 1 (rgo 1 s).2).2 k D W X g L) := ⟨hdev, HK1.out.1 hkept, hkept.at HG.out.2.1 (by rw [hX]; exact HK1.out.2.1), fun h0 => (hg h0).2.2⟩
    have hc0 : (rgo 1 (rgo 1 s).2).2.cnt ≤ s.cnt + 2 := by omega
    have HS := hide (And.intro hRe (And.intro hok (And.intro hgo hg)))
    rw [← HX.out]
    clear hdev hkept hrow hg hgo hok hRe hlen hL hz1 hz2 hs1 hs2 hX HR
    generalize (rgo 1 (rgo 1 s).2).2 = s2 at *
    obtain ⟨len, hlen⟩ : ∃ len, len = L.length := ⟨_, rfl⟩
    rw [← hlen] at hl2 ⊢
    have HLen := hide hlen
    clear hlen
    go_wp2
    go_loopg [27] len (fun q i wr => ∃ (t : Nat) (st : Dv), q + t = len ∧ i = .int .i64 (t : Int) ∧ st.cnt ≤ s.cnt + 2 + t * C ∧ Hid (R = lgo size Fa Fb D (abs W) (L.drop t) st ∧ LdS w0 w wr n size b st k D W X g L))
    case atStart => exact ⟨0, s2, by omega, rfl, by omega, HS.out.1, S0.out⟩
    case round =>
      obtain ⟨t, st, hqt, rfl, hct, HQ⟩ := hrel
      have hlenE := HLen.out
      obtain ⟨hQ1, hQ2⟩ := HQ.out
      have ht0 : (0 : Int) ≤ (t : Int) := by omega
      by_cases hq : 0 < gk
      · have htl : t < L.length := by omega
        have ht1 : (t : Int) < (len : Int) := by omega
        obtain ⟨p, hp⟩ : ∃ p, L[t]? = some p := ⟨_, List.getElem?_eq_getElem htl⟩
        have hpo := HS.out.2.1 p (List.mem_of_getElem? hp)
        obtain ⟨hso, hg1, _⟩ := HS.out.2.2.2 (by omega)
        have hgo := HS.out.2.2.1 (by omega)
        subst hso
        have hdrop : L.drop t = p :: L.drop (t + 1) := by
          rw [List.drop_eq_getElem_cons htl]
          rw [List.getElem?_eq_getElem htl] at hp
          rw [Option.some.inj hp]
        rw [hdrop] at hQ1
        obtain ⟨a, ha, ha2⟩ : ∃ a : Nat, p.2 = (a : Int) ∧ a < 2 := by
          rcases hpo.at_ with e | e
          · exact ⟨0, e, by omega⟩
          · exact ⟨1, e, by omega⟩
        obtain ⟨m, hm⟩ : ∃ m : Nat, p.1.n = (m : Int) := ⟨p.1.n.toNat, by have := hpo.n0; omega⟩
        obtain ⟨c0, c1, c2, c3, c4⟩ := cs_cells (hQ2.row (by omega)) hp
        rw [ha] at c4
        rw [hm] at c2
        have gY := World.grownBy_alloc wr (.cells #[.int .u64 p.1.g, .int .u64 p.1.c, .int .i64 (m : Int), .int .u32 p.1.s, .int .i64 (a : Int)] 117) none
        have bY : (wr.alloc (.cells #[.int .u64 p.1.g, .int .u64 p.1.c, .int .i64 (m : Int), .int .u32 p.1.s, .int .i64 (a : Int)] 117)).heap[wr.heap.size]? = some (.cells [Value.int .u64 p.1.g, .int .u64 p.1.c, .int .i64 (m : Int), .int .u32 p.1.s, .int .i64 (a : Int)].toArray 117 (0, 0)) := heap_alloc_new wr _
        generalize hwY : wr.alloc (.cells #[.int .u64 p.1.g, .int .u64 p.1.c, .int .i64 (m : Int), .int .u32 p.1.s, .int .i64 (a : Int)] 117) = wY at *
        obtain ⟨Y, hY⟩ : ∃ Y, Y = wr.heap.size := ⟨_, rfl⟩
        rw [← hY] at bY
        obtain ⟨hl, hdv, hra, hrb, hT, hB⟩ := HI.out
        have hrr : RgAt wr (if a = 0 then ra else rb) b (fOf Fa Fb p.2) C := by
          unfold fOf
          rw [ha]
          rcases (show a = 0 ∨ a = 1 by omega) with rfl | rfl
          · exact hra.keptD hdv hQ2.kept
          · exact hrb.keptD hdv hQ2.kept
        have hFr : fOf Fa Fb p.2 + C ≤ n := by unfold fOf; split <;> assumption
        have hslr := hl.keptD hdv hQ2.kept
        have hsloff : ¬ (k.own sl ∨ sl = b) := by
          have := hdv.far hl.head (by decide) (by decide) (by decide) (by decide)
          rintro (e | e)
          · exact this.1 e
          · exact this.2 e
        have hYoff : ¬ (k.own Y ∨ Y = b) := new_off hQ2.dev (by omega)
        have hxs : bytesAt (now size D (abs W)) (fOf Fa Fb p.2 * size + size) m = bodyOf size Fa Fb D (abs W) p := by
          unfold bodyOf; rw [hm]; rfl
        have hmn : p.1.n.toNat = m := by rw [hm]; rfl
        have hfitN : m ≤ (C - 1) * size := by have := hpo.fit; omega
        have hfit : size + m ≤ C * size := by
          obtain ⟨c, rfl⟩ : ∃ c, C = c + 1 := ⟨C - 1, by omega⟩
          rw [Nat.add_mul]; simp at hfitN ⊢; omega
        have hpcn := pcn_body (size := size) (by omega) hfitN
        have htC : t * C ≤ 1 * C := Nat.mul_le_mul_right _ (by omega)
        have HBd : Hid (∀ w3 : World, wY.grownBy w3 none → Calls Tryz.prog 75 #[.agg #[.pointer (some ⟨if a = 0 then ra else rb, 0, none⟩)], .agg #[.int .u64 p.1.g, .int .u64 p.1.c, .int .i64 (m : Int), .int .u32 p.1.s]] w3 fun e w' => ∃ v c, e = .returned (.tuple #[v, .bool (decide (c = 0 ∧ sumN (bodyOf size Fa Fb D (abs W) p) = p.1.s)), .int .i64 c]) ∧ ReadP w0 w3 w' n size b st k D W m (pcn size size m) (bodyOf size Fa Fb D (abs W) p) v c) := by
          intro w3 hg3
          have q := body_at ((hQ2.dev.then gY).then hg3) ((hrr.grown gY).grown hg3) hFr p.1 m hm hfit (by omega) hT (by have := hpo.n1; omega) (by rw [hxs]; exact fun x hx => hB x (List.mem_of_mem_drop (List.mem_of_mem_take hx)))
          rw [hxs] at q
          unfold rp Fm.hdV at q
          rw [hm] at q
          exact q
        have hS0 : ∀ w3 : World, Kept wY w3 (fun i => k.own i ∨ i = b) → w3.cell? ⟨Y, 0, none⟩ = some (.int .u64 p.1.g) ∧ w3.cell? ⟨Y, 1, none⟩ = some (.int .u64 p.1.c) ∧ w3.cell? ⟨Y, 2, none⟩ = some (.int .i64 (m : Int)) ∧ w3.cell? ⟨Y, 3, none⟩ = some (.int .u32 p.1.s) ∧ w3.cell? ⟨Y, 4, none⟩ = some (.int .i64 (a : Int)) ∧ w3.cell? ⟨sl, a, none⟩ = some (.pointer (some ⟨if a = 0 then ra else rb, 0, none⟩)) := by
          intro w3 hk3
          refine ⟨cell_kept hk3 (cell_row bY 0) hYoff, cell_kept hk3 (cell_row bY 1) hYoff, cell_kept hk3 (cell_row bY 2) hYoff, cell_kept hk3 (cell_row bY 3) hYoff, cell_kept hk3 (cell_row bY 4) hYoff, cell_kept hk3 ((hslr.grown gY).one ha2) hsloff⟩
        have HS0 := hide hS0
        have hKw : ∀ {w3 : World}, Kept wY w3 (fun i => k.own i ∨ i = b) → Kept w w3 (fun i => k.own i ∨ i = b) ∧ w3.heap[X]? = some (.cells (Fm.hdC hd0).toArray 35 (0, 0)) ∧ CsAt w3 g L := by
          intro w3 hk3
          have k9 : Kept wr w3 (fun i => k.own i ∨ i = b) := (Kept.new gY _).trans hk3 (fun _ _ e => e)
          have hXo : ¬ (k.own X ∨ X = b) := by rw [HX.out]; exact HK1.out.2.1
          exact ⟨hQ2.kept.trans k9 (fun _ _ e => e), k9.at hQ2.box hXo, (hQ2.row (by omega)).keptD k9 hgo⟩
        have HKw := hide (And.intro (@hKw) (And.intro (show w.heap.size ≤ wY.heap.size from Nat.le_trans hQ2.kept.size gY.size) (And.intro ha hm)))
        obtain ⟨u0, u1, u2, u3, u4, u5⟩ := hS0 wY (Kept.refl _ _)
        have HQ1 := hide (And.intro hQ1 (And.intro hmn hpcn))
        have ha0 : (0 : Int) ≤ (a : Int) := by omega
        have ha3 : (a : Int) < 2 := by omega
        have hY2 := hY.symm
        generalize (if a = 0 then ra else rb) = r at *
        clear hS0 hKw hrr hFr hslr hsloff hYoff hxs hfitN hfit bY hl hdv hra hrb hT hB hQ1 hQ2 HQ hpo hgo hg1 hdrop gY hY hm ha hmn hpcn htC hlenE
        go_wp2_with fail
        clear hY2 hwY c0 c1 c2 c3 c4
        go_region_held3 (fun w3 => w3.cell? ⟨Y, 0, none⟩ = some (.int .u64 p.1.g) ∧ w3.cell? ⟨Y, 1, none⟩ = some (.int .u64 p.1.c) ∧ w3.cell? ⟨Y, 2, none⟩ = some (.int .i64 (m : Int)) ∧ w3.cell? ⟨Y, 3, none⟩ = some (.int .u32 p.1.s) ∧ w3.cell? ⟨Y, 4, none⟩ = some (.int .i64 (a : Int)) ∧ w3.cell? ⟨sl, a, none⟩ = some (.pointer (some ⟨r, 0, none⟩))) (first | exact ⟨u0, u1, u2, u3, u4, u5⟩ | assumption | exact HS0.out _ (Kept.new (grown_drew wY none) _)) ((go_at_call 75; refine (HBd.out _ (grown_drew wY none)).mono ?_; rintro e4 w4 ⟨v4, c4, rfl, p4⟩; have hk4 := HS0.out _ ((Kept.new (grown_drew wY none) _).trans p4.kept (fun i _ e => e)); have P4 := hide (ReadP.pre (grown_drew wY none) p4); clear p4))
        obtain ⟨u0', u1', u2', u3', u4', u5'⟩ := hk4
        clear u0 u1 u2 u3 u4 u5 HBd HS0
        obtain ⟨hR1, hmn, hpcn⟩ := HQ1.out
        have hcode := P4.out.code
        obtain ⟨hk4w, hbx4, hcs4⟩ := HKw.out.1 P4.out.kept
        have HBX : Hid (w4.heap[X]? = some (.cells (Fm.hdC hd0).toArray 35 (0, 0)) ∧ Dev w0 w4 n size b (rgo (pcn size size m) st).2 k D W ∧ Kept w w4 (fun i => k.own i ∨ i = b) ∧ w.heap.size ≤ X ∧ w0.heap.size ≤ X) := ⟨hbx4, P4.out.dev, hk4w, by rw [HX.out]; exact Nat.le_refl _, by rw [HX.out]; exact HK1.out.2.2⟩
        have HCS := hide hcs4
        have hct2 := rgo_cntL (pcn size size m) st
        unfold lgo at hR1
        rw [hmn, ← hcode] at hR1
        clear hk4w hbx4 hcs4 hmn
        by_cases hc : c4 = 0
        · subst hc
          rw [if_neg (by simp)] at hR1
          by_cases hsum : sumN (bodyOf size Fa Fb D (abs W) p) = p.1.s
          · rw [if_pos hsum] at hR1
            obtain ⟨gv, hv, hgv, hbv, hlv⟩ := P4.out.ok rfl
            subst hv
            have hdt : (decide ((0 : Int) = 0) && decide (sumN (bodyOf size Fa Fb D (abs W) p) = p.1.s)) = true := by simp [hsum]
            have HV := hide (And.intro hR1 (And.intro hgv (And.intro hbv hlv)))
            have hwYs := HKw.out.2.1
            have haE := HKw.out.2.2.1
            have hmE := HKw.out.2.2.2
            have HE := hide (And.intro hwYs (And.intro haE hmE))
            obtain ⟨e0, e1, e2, e3⟩ := Fm.box4 HBX.out.1
            have f0 := free_row HBX.out.1 0
            have f1 := free_row HBX.out.1 1
            have f2 := free_row HBX.out.1 2
            have f3 := free_row HBX.out.1 3
            unfold hd0 at e0 e1 e2 e3
            simp only at e0 e1 e2 e3
            rw [hdt]
            clear hsum hR1 hgv hbv hlv hdt hct2 hpcn hcode HQ1 HKw hwYs haE hmE
            go_wp2
            go_region
            go_wp2
            obtain ⟨eb, eg⟩ := Fm.set4 HBX.out.1 (.int .u64 p.1.g) (.int .u64 p.1.c) (.int .i64 (m : Int)) (.int .u32 p.1.s)
            clear e0 e1 e2 e3 f0 f1 f2 f3
            have eb := (show ((((w4.setCell ⟨X, 0, none⟩ (.int .u64 p.1.g)).setCell ⟨X, 1, none⟩ (.int .u64 p.1.c)).setCell ⟨X, 2, none⟩ (.int .i64 (m : Int))).setCell ⟨X, 3, none⟩ (.int .u32 p.1.s)).drew.heap[X]? = _ from eb)
            have eg := grown_trans eg (grown_drew ((((w4.setCell ⟨X, 0, none⟩ (.int .u64 p.1.g)).setCell ⟨X, 1, none⟩ (.int .u64 p.1.c)).setCell ⟨X, 2, none⟩ (.int .i64 (m : Int))).setCell ⟨X, 3, none⟩ (.int .u32 p.1.s)) (some X))
            obtain ⟨e0, e1, e2, e3⟩ := Fm.box4 eb
            have FIN := hide (And.intro (box_fin HBX.out.2.1 HBX.out.2.2.1 HBX.out.1 HBX.out.2.2.2.1 HBX.out.2.2.2.2 eg) eg)
            clear eb eg
            generalize ((((w4.setCell ⟨X, 0, none⟩ (.int .u64 p.1.g)).setCell ⟨X, 1, none⟩ (.int .u64 p.1.c)).setCell ⟨X, 2, none⟩ (.int .i64 (m : Int))).setCell ⟨X, 3, none⟩ (.int .u32 p.1.s)).drew = w9 at *
            refine bodyPost_ret (v := .tuple #[.agg #[.int .u64 p.1.g, .int .u64 p.1.c, .int .i64 (m : Int), .int .u32 p.1.s], .slice (some ⟨gv, 0, none⟩) m m, .int .i64 (a : Int), .int .i64 0]) ?_ rfl ?_
            · rw [results_cell_tmp3 rfl]; go_simp
            have hRe := HV.out.1
            subst hRe
            refine ⟨.slice (some ⟨gv, 0, none⟩) m m, ?_, FIN.out.1.1, FIN.out.1.2, (fun e => by cases e), ?_⟩
            · rw [HE.out.2.1, HE.out.2.2]
            · intro xs e
              cases e
              refine ⟨gv, by rw [HV.out.2.2.2], Nat.le_trans HE.out.1 HV.out.2.1, ?_⟩
              exact (FIN.out.2.block gv (row_lt HV.out.2.2.1) (by intro e; cases e; have := HV.out.2.2.1; rw [HBX.out.1] at this; simp at this)).trans HV.out.2.2.1
          · rw [if_neg hsum] at hR1
            have hdt : (decide ((0 : Int) = 0) && decide (sumN (bodyOf size Fa Fb D (abs W) p) = p.1.s)) = false := by simp [hsum]
            have HV := hide (And.intro hR1 (show (rgo (pcn size size m) st).2.cnt ≤ s.cnt + 2 + (t + 1) * C by rw [Nat.add_mul]; omega))
            rw [hdt]
            clear hsum hR1 hdt hct2 hpcn hcode HQ1
            go_wp2
            go_roundg (gk - 1)
            case measure => omega
            case rel => exact ⟨t + 1, (rgo (pcn size size m) st).2, by omega, by go_num, HV.out.2, HV.out.1, HBX.out.2.1, HBX.out.2.2.1, HBX.out.1, fun _ => HCS.out⟩
        · rw [if_pos hc] at hR1
          have hv := P4.out.no hc
          subst hv
          have hne : (c4 != 0) = true := by simpa using hc
          have HV := hide hR1
          have hdt : (decide (c4 = 0) && decide (sumN (bodyOf size Fa Fb D (abs W) p) = p.1.s)) = false := by simp [hc]
          obtain ⟨e0, e1, e2, e3⟩ := Fm.box4 HBX.out.1
          have f0 := free_row HBX.out.1 0
          have f1 := free_row HBX.out.1 1
          have f2 := free_row HBX.out.1 2
          have f3 := free_row HBX.out.1 3
          unfold hd0 at e0 e1 e2 e3
          simp only at e0 e1 e2 e3
          rw [hdt]
          clear hR1 hdt hct2 hpcn hcode HQ1
          go_wp2
          obtain ⟨eb, eg⟩ := Fm.set4 HBX.out.1 (.int .u64 0) (.int .u64 0) (.int .i64 0) (.int .u32 0)
          clear e0 e1 e2 e3 f0 f1 f2 f3
          obtain ⟨e0, e1, e2, e3⟩ := Fm.box4 eb
          have FIN := hide (And.intro (box_fin HBX.out.2.1 HBX.out.2.2.1 HBX.out.1 HBX.out.2.2.2.1 HBX.out.2.2.2.2 eg) eg)
          clear eb eg
          generalize ((((w4.setCell ⟨X, 0, none⟩ (.int .u64 0)).setCell ⟨X, 1, none⟩ (.int .u64 0)).setCell ⟨X, 2, none⟩ (.int .i64 0)).setCell ⟨X, 3, none⟩ (.int .u32 0)) = w9 at *
          refine bodyPost_ret (v := .tuple #[.agg #[.int .u64 0, .int .u64 0, .int .i64 0, .int .u32 0], .slice none 0 0, .int .i64 0, .int .i64 c4]) ?_ rfl ?_
          · rw [results_cell_tmp3 rfl]; go_simp
          have hRe := HV.out
          subst hRe
          exact ⟨_, rfl, FIN.out.1.1, FIN.out.1.2, fun _ => rfl, fun xs e => by cases e⟩
      · have ht : t = L.length := by omega
        rw [List.drop_of_length_le (by omega)] at hQ1
        have HBX : Hid (wr.heap[X]? = some (.cells (Fm.hdC hd0).toArray 35 (0, 0)) ∧ Dev w0 wr n size b st k D W ∧ Kept w wr (fun i => k.own i ∨ i = b) ∧ w.heap.size ≤ X ∧ w0.heap.size ≤ X) := ⟨hQ2.box, hQ2.dev, hQ2.kept, by rw [HX.out]; exact Nat.le_refl _, by rw [HX.out]; exact HK1.out.2.2⟩
        have HV := hide hQ1
        have ht2 : ¬ (t : Int) < (len : Int) := by omega
        obtain ⟨e0, e1, e2, e3⟩ := Fm.box4 HBX.out.1
        have f0 := free_row HBX.out.1 0
        have f1 := free_row HBX.out.1 1
        have f2 := free_row HBX.out.1 2
        have f3 := free_row HBX.out.1 3
        unfold hd0 at e0 e1 e2 e3
        simp only at e0 e1 e2 e3
        clear hQ1 hQ2 ht hlenE HQ
        go_wp2
        obtain ⟨eb, eg⟩ := Fm.set4 HBX.out.1 (.int .u64 0) (.int .u64 0) (.int .i64 0) (.int .u32 0)
        clear e0 e1 e2 e3 f0 f1 f2 f3
        obtain ⟨e0, e1, e2, e3⟩ := Fm.box4 eb
        have FIN := hide (And.intro (box_fin HBX.out.2.1 HBX.out.2.2.1 HBX.out.1 HBX.out.2.2.2.1 HBX.out.2.2.2.2 eg) eg)
        clear eb eg
        generalize ((((wr.setCell ⟨X, 0, none⟩ (.int .u64 0)).setCell ⟨X, 1, none⟩ (.int .u64 0)).setCell ⟨X, 2, none⟩ (.int .i64 0)).setCell ⟨X, 3, none⟩ (.int .u32 0)) = w9 at *
        refine bodyPost_ret (v := .tuple #[.agg #[.int .u64 0, .int .u64 0, .int .i64 0, .int .u32 0], .slice none 0 0, .int .i64 (-1), .int .i64 0]) ?_ rfl ?_
        · rw [results_cell_tmp3 rfl]; go_simp
        have hRe := HV.out
        unfold lgo at hRe
        subst hRe
        exact ⟨_, rfl, FIN.out.1.1, FIN.out.1.2, fun _ => rfl, fun xs e => by cases e⟩
end
end Go.Proofs.YtonokaelbpfjnaaGreatDoor
