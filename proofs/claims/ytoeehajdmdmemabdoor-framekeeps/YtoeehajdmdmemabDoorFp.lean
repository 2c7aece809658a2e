/- The contracts of frame's own calls: Size, Put. -/
import Derived.Test.YtoeehajdmdmemabDoorOver
import Derived.Test.YtoeehajdmdmemabDoorCMore
import Derived.Test.YtoeehajdmdmemabDoorFy
namespace Go.Proofs.YtoeehajdmdmemabDoor
open Go.RowKit
attribute [local go_sem ↓] Go.wp_at_zero Go.wp_at_succ

/-- The table of crc. -/
abbrev Tab (w : World) : Prop := Cr.Tab w

theorem At.nats {w : World} {ao : Option Addr} {xs : List Int} (h : At w ao xs) (hB : Byt xs) : Cr.At w ao (nats xs) := by
  intro j u hu
  simp only [Go.Proofs.YtoeehajdmdmemabDoor.nats, List.getElem?_map] at hu
  cases hj : xs[j]? with
  | none => simp [hj] at hu
  | some x =>
    simp [hj] at hu
    obtain ⟨a, ha, hc⟩ := h j x hj
    refine ⟨a, ha, ?_⟩
    have hx := hB x (List.mem_of_getElem? hj)
    rw [hc, ← hu]
    have : ((x.toNat : Nat) : Int) = x := by omega
    rw [this]

theorem sum_any (ao : Option Addr) (n c : Nat) (xs : List Int) (w : World) (hn : xs.length = n) (hx : Byt xs) (hat : At w ao xs) (hT : Tab w) (hm : n ≤ 4611686018427387904) :
    Calls Tryd.prog 25 #[.slice ao n c] w fun e w' => e = .returned (.int .u32 (sumI xs)) ∧ w' = w :=
  Cr.sum_any ao n c (nats xs) w (by rw [nats_length, hn]) (nats_lt hx) (hat.nats hx) hT hm

/-- Size. -/
def sizeF (n : Int) : Int := if n < 0 ∨ 32 < n then 0 else 22 + n
set_option maxHeartbeats 400000 in
theorem size_any (n : Int) (w : World) (_h0 : -9223372036854775808 ≤ n) (_h1 : n ≤ 9223372036854775807) : Calls Tryd.prog 14 #[.int .i64 n] w fun e w' => e = .returned (.int .i64 (sizeF n)) ∧ w.grownBy w' none := by
  by_cases h : n < 0
  · have e : sizeF n = 0 := by unfold sizeF; rw [if_pos (Or.inl h)]
    rw [e]
    go_enter Tryd.func14, Tryd.ntmps14
    go_wp2
    go_ret
    exact ⟨rfl, grown_refl _ _⟩
  · by_cases h2 : 32 < n
    · have e : sizeF n = 0 := by unfold sizeF; rw [if_pos (Or.inr h2)]
      rw [e]
      go_enter Tryd.func14, Tryd.ntmps14
      go_wp2
      go_ret
      exact ⟨rfl, grown_refl _ _⟩
    · have e : sizeF n = 22 + n := by unfold sizeF; rw [if_neg (by omega)]
      rw [e]
      go_enter Tryd.func14, Tryd.ntmps14
      go_wp2
      go_ret
      exact ⟨by go_num, grown_refl _ _⟩

/-- A frame's cells, handed by its value. -/
def frV (e s : Int) (v : Value) : Value := .agg #[.int .u64 e, .int .u64 s, v]

set_option maxHeartbeats 1000000 in
theorem put_long (e s : Int) (ao : Option Addr) (n cap : Nat) (w : World) (hn : 32 < n) (hm : n ≤ 4611686018427387904) :
    Calls Tryd.prog 12 #[frV e s (.slice ao n cap)] w fun r w' => r = .returned (.tuple #[.slice none 0 0, .int .i64 3]) ∧ w.grownBy w' none := by
  unfold frV
  go_enter Tryd.func12, Tryd.ntmps12
  go_wp2
  go_ret2
  exact ⟨rfl, World.grownBy_alloc w _ none⟩

/-- Where bytes lie, if there are any. -/
def liveA (ao : Option Addr) (xs : List Int) : Option Addr := if xs = [] then none else ao
theorem liveA_some {ao : Option Addr} {xs : List Int} {a : Addr} (h : liveA ao xs = some a) : ao = some a ∧ xs ≠ [] := by
  unfold liveA at h
  split at h
  · cases h
  · rename_i h1; exact ⟨h, h1⟩
theorem At.live {w : World} {ao : Option Addr} {xs : List Int} (h : At w ao xs) {a : Addr} (ha : liveA ao xs = some a) : a.block < w.heap.size := by
  obtain ⟨h1, h2⟩ := liveA_some ha
  cases xs with
  | nil => exact absurd rfl h2
  | cons x r =>
    obtain ⟨a', ha', hc⟩ := h 0 x rfl
    rw [h1] at ha'
    cases ha'
    have hb : (a.add 0).block = a.block := addr_add_block a 0
    unfold World.cell? at hc
    rw [hb] at hc
    cases ho : w.heap[a.block]? with
    | none => rw [ho] at hc; simp at hc
    | some o => exact row_lt ho

set_option maxHeartbeats 400000 in
theorem behind_zero (g : Nat) (ao : Option Addr) (cap : Nat) (w : World) : Calls Tryd.prog 59 #[.pointer (some ⟨g, 0, none⟩), .slice ao 0 cap] w fun e w' => e = .returned (.tuple #[]) ∧ w' = w := by
  go_enter Tryd.func59, Tryd.ntmps59
  go_wp2
  go_loopg [1] 0 (fun _ v wr => v = .slice ao 0 cap ∧ wr = w)
  case atStart => exact ⟨rfl, rfl⟩
  case round =>
    obtain ⟨rfl, rfl⟩ := hrel
    go_wp2
    go_end0
    exact ⟨rfl, rfl⟩
set_option maxHeartbeats 400000 in
theorem put_zero (g : Nat) (ao : Option Addr) (cap : Nat) (w : World) : Calls Tryd.prog 28 #[.pointer (some ⟨g, 0, none⟩), .slice ao 0 cap] w fun e w' => e = .returned (.tuple #[]) ∧ w' = w := by
  go_enter Tryd.func28, Tryd.ntmps28
  go_wp2_with fail
  refine (behind_zero g ao cap w).mono ?_
  rintro e w1 ⟨rfl, rfl⟩
  go_wp2
  go_end0
  exact ⟨rfl, rfl⟩
theorem put_live (g n : Nat) (bs xs : List Int) (ao : Option Addr) (cap : Nat) (w : World) (hW : WrAt w g bs) (hn : xs.length = n) (hs : At w ao xs) (hoff : ∀ a, liveA ao xs = some a → a.block ≠ g) (hnc : n ≤ cap) (hcm : cap ≤ maxLen) (hL : bs.length + n ≤ 4611686018427387904) :
    Calls Tryd.prog 28 #[.pointer (some ⟨g, 0, none⟩), .slice ao n cap] w fun e w' => e = .returned (.tuple #[]) ∧ WrAt w' g (bs ++ xs) ∧ w.grownBy w' (some g) := by
  by_cases h0 : xs = []
  · subst h0
    obtain rfl : n = 0 := hn.symm
    refine (put_zero g ao cap w).mono ?_
    rintro e w1 ⟨rfl, rfl⟩
    exact ⟨rfl, by simpa using hW, grown_refl _ _⟩
  · refine put_any g n bs xs ao cap w hW hn hs (fun a ha => hoff a ?_) hnc hcm hL
    unfold liveA
    rw [if_neg h0]
    exact ha

/-- Where bytes lie, below a bound. -/
def Lies (w : World) (ao : Option Addr) : Prop := ∀ a, ao = some a → a.block < w.heap.size
theorem Lies.off {w : World} {ao : Option Addr} (h : Lies w ao) {g : Nat} (hg : w.heap.size ≤ g) : Off ao g := fun a ha => by have := h a ha; omega
theorem head_parts (f : Fr) : [] ++ leB (f.b.length : Int) 2 ++ leB f.e 8 ++ leB f.s 8 ++ f.b = f.head := by simp [Fr.head]

/-- Inside Put: the frame in its box B, the Writer behind it. -/
structure PutS (w wr : World) (B : Nat) (E S : Int) (v : Value) (bs : List Int) : Prop where
  box : wr.heap[B]? = some (.cells [Value.int .u64 E, .int .u64 S, v].toArray 34 (0, 0))
  wra : WrAt wr (B + 1) bs
  gr : w.grownBy wr none
theorem PutS.next {w wr wr' : World} {B : Nat} {E S : Int} {v : Value} {bs bs' : List Int} (h : PutS w wr B E S v bs) (hB : w.heap.size ≤ B) (hW : WrAt wr' (B + 1) bs') (hg : wr.grownBy wr' (some (B + 1))) : PutS w wr' B E S v bs' :=
  ⟨(hg.block B (row_lt h.box) (by simp)).trans h.box, hW, grown_then h.gr hg (fun j e => by cases e; exact Or.inl (by omega))⟩
theorem PutS.grown {w wr wr' : World} {B : Nat} {E S : Int} {v : Value} {bs : List Int} (h : PutS w wr B E S v bs) (hg : wr.grownBy wr' none) : PutS w wr' B E S v bs :=
  ⟨(hg.block B (row_lt h.box) (by simp)).trans h.box, h.wra.kept hg (by simp) (NoBlock.none _), grown_trans h.gr hg⟩
theorem PutS.start {w : World} {E S : Int} {v : Value} : PutS w ((w.alloc (.cells #[.int .u64 E, .int .u64 S, v] 34)).alloc (.cells Tryd.zeroCells83 83)) w.heap.size E S v [] := by
  have h1 := wr_zero (w.alloc (.cells #[.int .u64 E, .int .u64 S, v] 34))
  rw [World.size_alloc] at h1
  refine ⟨?_, h1, grown_trans (World.grownBy_alloc w _ none) (World.grownBy_alloc _ _ none)⟩
  exact (Below.heap_alloc _ _ _ (by simp)).trans (heap_alloc_new w _)

set_option maxHeartbeats 2000000 in
theorem fput_any (f : Fr) (hf : f.Ok) (hl : f.b.length ≤ 32) (ao : Option Addr) (n cap : Nat) (w : World) (hn : f.b.length = n) (hat : At w ao f.b) (hc : n ≤ cap) (hcm : cap ≤ maxLen) (hT : Tab w) (hw : 0 < w.heap.size) :
    Calls Tryd.prog 12 #[frV f.e f.s (.slice ao n cap)] w fun r w' => ∃ g, r = .returned (.tuple #[.slice (some ⟨g, 0, none⟩) (22 + n) (22 + n), .int .i64 0]) ∧ w.heap.size ≤ g ∧ w'.heap[g]? = some (.cells (f.out.map (Value.int .u8)).toArray 5 (0, 0)) ∧ w.grownBy w' none := by
  unfold frV
  have HF := hide (And.intro hf (And.intro hn (And.intro hat (And.intro hc (And.intro hcm (And.intro hT hw))))))
  have hn32 : n ≤ 32 := by omega
  clear hf hl hat hc hcm hT hw hn
  have P0 : Hid (PutS w ((w.alloc (.cells #[.int .u64 f.e, .int .u64 f.s, .slice ao n cap] 34)).alloc (.cells Tryd.zeroCells83 83)) w.heap.size f.e f.s (.slice ao n cap) []) := PutS.start
  have HB : Hid (w.heap.size ≤ w.heap.size) := Nat.le_refl _
  go_enter Tryd.func12, Tryd.ntmps12
  go_wp2_with fail
  generalize ((w.alloc (.cells #[.int .u64 f.e, .int .u64 f.s, .slice ao n cap] 34)).alloc (.cells Tryd.zeroCells83 83)) = w1 at *
  obtain ⟨B, hB⟩ : ∃ B, B = w.heap.size := ⟨_, rfl⟩
  rw [← hB] at P0 ⊢
  replace HB : Hid (w.heap.size ≤ B) := Nat.le_of_eq hB.symm
  clear hB
  refine (two_any (B + 1) [] n w1 P0.out.wra (by omega) (by omega) (by simp)).mono ?_
  rintro e w2 ⟨rfl, hW, hg⟩
  have P2 := hide (P0.out.next HB.out hW hg)
  clear hW hg P0
  have c0 := cell_row P2.out.box 0
  have c1 := cell_row P2.out.box 1
  have c2 := cell_row P2.out.box 2
  simp only [List.getElem?_cons_zero, List.getElem?_cons_succ] at c0 c1 c2
  go_wp2_with fail
  refine (eight_any (B + 1) _ f.e w2 P2.out.wra HF.out.1.e0 HF.out.1.e1 (by simp [leB_length])).mono ?_
  rintro e w3 ⟨rfl, hW, hg⟩
  have P3 := hide (P2.out.next HB.out hW hg)
  clear hW hg P2 c0 c1 c2
  have c0 := cell_row P3.out.box 0
  have c1 := cell_row P3.out.box 1
  have c2 := cell_row P3.out.box 2
  simp only [List.getElem?_cons_zero, List.getElem?_cons_succ] at c0 c1 c2
  go_wp2_with fail
  refine (eight_any (B + 1) _ f.s w3 P3.out.wra HF.out.1.s0 HF.out.1.s1 (by simp [leB_length])).mono ?_
  rintro e w4 ⟨rfl, hW, hg⟩
  have P4 := hide (P3.out.next HB.out hW hg)
  clear hW hg P3 c0 c1 c2
  have c0 := cell_row P4.out.box 0
  have c1 := cell_row P4.out.box 1
  have c2 := cell_row P4.out.box 2
  simp only [List.getElem?_cons_zero, List.getElem?_cons_succ] at c0 c1 c2
  go_wp2_with fail
  refine (put_live (B + 1) n _ f.b ao cap w4 P4.out.wra HF.out.2.1 (HF.out.2.2.1.kept P4.out.gr (fun _ _ e => by cases e)) (fun a ha => by have := HF.out.2.2.1.live ha; have := HB.out; omega) HF.out.2.2.2.1 HF.out.2.2.2.2.1 (by simp [leB_length]; omega)).mono ?_
  rintro e w5 ⟨rfl, hW, hg⟩
  rw [← HF.out.2.1, head_parts] at hW
  have P5 := hide (P4.out.next HB.out hW hg)
  clear hW hg P4 c0 c1 c2
  have hbh := hide (Fr.head_byt HF.out.1.byt)
  go_wp2_with fail
  refine (out_any (B + 1) f.head w5 P5.out.wra (by rw [f.head_length, HF.out.2.1]; omega)).mono ?_
  rintro e w6 ⟨rfl, hr, hg⟩
  have P6 := hide (P5.out.grown hg)
  have HR := hide hr
  have T6 : Hid (Tab w6) := HF.out.2.2.2.2.2.1.grown P6.out.gr
  clear hr hg
  go_wp2_with fail
  refine (sum_any _ _ _ f.head w6 rfl hbh.out (at_row HR.out) T6.out (by rw [f.head_length, HF.out.2.1]; omega)).mono ?_
  rintro e w7 ⟨rfl, rfl⟩
  have hs := sumI_lt hbh.out
  go_wp2_with fail
  refine (four_any (B + 1) f.head (sumI f.head) w7 P6.out.wra hs.1 hs.2 (by rw [f.head_length, HF.out.2.1]; omega)).mono ?_
  rintro e w8 ⟨rfl, hW, hg⟩
  have P8 := hide (P6.out.next HB.out hW hg)
  clear hW hg P6 P5 HR T6
  go_wp2_with fail
  refine (out_any (B + 1) _ w8 P8.out.wra (by simp [leB_length, f.head_length, HF.out.2.1]; omega)).mono ?_
  rintro e w9 ⟨rfl, hr, hg⟩
  have hlen := f.out_length
  rw [HF.out.2.1] at hlen
  rw [show f.head ++ leB (sumI f.head) 4 = f.out from rfl] at hr ⊢
  rw [hlen]
  have HR := hide (And.intro hr hg)
  clear hr hg hs
  go_wp2
  go_ret2
  exact ⟨_, rfl, P8.out.gr.size, HR.out.1, grown_trans P8.out.gr HR.out.2⟩
end Go.Proofs.YtoeehajdmdmemabDoor
