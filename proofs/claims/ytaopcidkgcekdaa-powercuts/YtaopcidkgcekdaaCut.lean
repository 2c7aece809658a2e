/- A device that is armed, beside a disk of the same. -/
import Derived.Test.YtaopcidkgcekdaaAsk
import Derived.Test.YtaopcidkgcekdaaAwk
namespace Go.Proofs.Ytaopcidkgcekdaa
open Go.RowKit Ap

section
variable {w0 w : World} {n size b d : Nat} {s : Dv} {k : Dk} {D : List Nat} {W : List Wt}
theorem does_any (hd : k.d = d) (h : DkS w0 w k n size D W) (hW : W.length ≤ 1000) (o : Stp) (hk : o.kd = 1 ∨ o.kd = 2 ∨ o.kd = 3) (bo : Option Addr) (bc : Nat) (fo : Option Addr) (fc : Nat) (hs : SIn w o bo bc fo fc) :
    Calls Try.prog 14 #[.pointer (some ⟨d, 0, none⟩), .agg (scells o bo bc fo fc).toArray] w fun e w' => Done w0 w w' n size k D W o e := by
  subst hd
  obtain ⟨kd, on, at_, B, raw, F⟩ := o
  rcases hk with rfl | rfl | rfl
  · exact does_write h hW on at_ B raw F bo bc fo fc hs
  · exact does_read h on at_ B raw F bo bc fo fc
  · exact does_sync h on at_ B raw F bo bc fo fc
theorem asks_any (h : Dev w0 w n size b s k D W) (hW : W.length ≤ 1000) (hc : s.cnt < 100000) (o : Stp) (hk : o.kd = 1 ∨ o.kd = 2 ∨ o.kd = 3) (bo : Option Addr) (bc : Nat) (fo : Option Addr) (fc : Nat) (hs : SIn w o bo bc fo fc) :
    Calls Try.prog 12 #[.pointer (some ⟨b, 0, none⟩), .agg (scells o bo bc fo fc).toArray] w fun e w' => Asked w0 w w' n size b s k D W o e := by
  obtain ⟨kd, on, at_, B, raw, F⟩ := o
  rcases hk with rfl | rfl | rfl
  · exact asks_write h hW hc on at_ B raw F bo bc fo fc hs
  · exact asks_read h hc on at_ B raw F bo bc fo fc
  · exact asks_sync h hc on at_ B raw F bo bc fo fc
end
/-- The kind that a step is taken for. -/
def Stp.norm (o : Stp) : Stp := { o with kd := if o.kd = 1 ∨ o.kd = 2 then o.kd else 3 }
theorem norm_kd (o : Stp) : o.norm.kd = 1 ∨ o.norm.kd = 2 ∨ o.norm.kd = 3 := by
  unfold Stp.norm
  simp only
  split
  · rename_i h; rcases h with h | h
    · exact .inl h
    · exact .inr (.inl h)
  · exact .inr (.inr rfl)
/-- A device that was armed with n, behind j operations. -/
def devSt (n : Int) (j : Nat) : Dv := if n < 0 then ⟨false, -1, j⟩ else if j ≤ n.toNat then ⟨false, n - j, j⟩ else ⟨true, -1, n.toNat⟩
/-- How many of them were done. -/
def cutDn (n : Int) (j : Nat) : Nat := if n < 0 then j else min j n.toNat
theorem devSt_zero (n : Int) : Dv.anew.armed n = devSt n 0 := by
  unfold devSt Dv.armed Dv.anew
  by_cases h : n < 0
  · simp [h]; omega
  · simp [h]; omega
theorem devSt_next (n : Int) (j : Nat) : (devSt n j).next = devSt n (j + 1) := by
  unfold devSt
  by_cases h : n < 0
  · rw [if_pos h, if_pos h]; rfl
  · rw [if_neg h, if_neg h]
    by_cases h1 : j ≤ n.toNat
    · rw [if_pos h1]
      by_cases h2 : j + 1 ≤ n.toNat
      · rw [if_pos h2]
        have e : ¬ n - (j : Int) = 0 := by omega
        have e2 : 0 < n - (j : Int) := by omega
        simp only [Dv.next, Bool.false_eq_true, if_false, if_neg e, if_pos e2]
        congr 1
        omega
      · rw [if_neg h2]
        have e : n - (j : Int) = 0 := by omega
        have e2 : j = n.toNat := by omega
        simp only [Dv.next, Bool.false_eq_true, if_false, if_pos e]
        rw [e2]
    · rw [if_neg h1, if_neg (by omega)]
      rfl
theorem devSt_goes (n : Int) (j : Nat) : (devSt n j).goes = !(decide (0 ≤ n) && decide (n ≤ (cutDn n j : Int))) := by
  unfold devSt cutDn
  by_cases h : n < 0
  · rw [if_pos h]
    have : ¬ 0 ≤ n := by omega
    simp [Dv.goes, this]
  · rw [if_neg h, if_neg h]
    have h0 : 0 ≤ n := by omega
    by_cases h1 : j ≤ n.toNat
    · rw [if_pos h1, Nat.min_eq_left h1]
      by_cases h2 : n ≤ (j : Int)
      · have e : n - (j : Int) = 0 := by omega
        simp [Dv.goes, e, h0, h2]
      · have e : ¬ n - (j : Int) = 0 := by omega
        simp [Dv.goes, e, h2]
    · rw [if_neg h1, Nat.min_eq_right (by omega)]
      have : n ≤ (n.toNat : Int) := by omega
      simp [Dv.goes, h0]
      omega
theorem devSt_cnt (n : Int) (j : Nat) : (devSt n j).cnt = cutDn n j := by
  unfold devSt cutDn
  split
  · rfl
  · split
    · simp; omega
    · simp; omega
theorem devSt_off (n : Int) (j : Nat) : (devSt n (j + 1)).off = (decide (0 ≤ n) && decide (n ≤ (cutDn n j : Int))) := by
  unfold devSt cutDn
  by_cases h : n < 0
  · rw [if_pos h]
    have : ¬ 0 ≤ n := by omega
    simp [this]
  · rw [if_neg h, if_neg h]
    have h0 : 0 ≤ n := by omega
    by_cases h1 : j + 1 ≤ n.toNat
    · rw [if_pos h1, Nat.min_eq_left (by omega)]
      have : ¬ n ≤ (j : Int) := by omega
      simp [this]
    · rw [if_neg h1]
      have : n ≤ ((min j n.toNat : Nat) : Int) := by omega
      simp [h0, this]
theorem cutDn_refused {n : Int} {j : Nat} (h0 : 0 ≤ n) (h : n ≤ (cutDn n j : Int)) : cutDn n (j + 1) = cutDn n j := by
  unfold cutDn at *
  rw [if_neg (by omega)] at *
  rw [if_neg (by omega)]
  omega
theorem cutDn_done {n : Int} {j : Nat} (h : ¬ (0 ≤ n ∧ n ≤ (cutDn n j : Int))) : cutDn n (j + 1) = cutDn n j + 1 := by
  unfold cutDn at *
  by_cases h0 : n < 0
  · rw [if_pos h0, if_pos h0]
  · rw [if_neg h0] at h
    rw [if_neg h0, if_neg h0]
    omega
theorem cutDn_le (n : Int) (j : Nat) : cutDn n j ≤ j := by unfold cutDn; split <;> omega
/-- The device over kv beside the disk ku. -/
structure Cut (w0 w : World) (n size b d : Nat) (s : Dv) (kv ku : Dk) (D : List Nat) (V U : List Wt) : Prop where
  dev : Dev w0 w n size b s kv D V
  u : DkS w0 w ku n size D U
  ud : ku.d = d
  same : abs V = abs U
  sep : Sep kv V ku U
section
variable {w0 w w' : World} {n size b d : Nat} {s s' : Dv} {kv ku kv' ku' : Dk} {D D' : List Nat} {V U V' U' : List Wt}
theorem Cut.ub (h : Cut w0 w n size b d s kv ku D V U) : ¬ foot ku U b := by
  rintro (e | ⟨x, hx, rfl⟩)
  · exact h.u.disk.other_off h.dev.dev.head (by decide) (by decide) (by decide) e
  · have := (h.u.disk.waits x hx).2.2.2
    have h2 := h.dev.dev.head
    rw [this] at h2
    simp at h2
theorem Cut.then (h : Cut w0 w n size b d s kv ku D V U) (hg : w.grownBy w' none) : Cut w0 w' n size b d s kv ku D V U := ⟨h.dev.then hg, h.u.then hg, h.ud, h.same, h.sep⟩
theorem Cut.row {r : Nat} (h : Cut w0 w n size b d s kv ku D V U) (hg : w.grownBy w' (some r)) (h0 : w0.heap.size ≤ r) {c : Array Value} {t : TypeId} (hr : w.heap[r]? = some (.cells c t (0, 0))) (h1 : t ≠ 32) (h2 : t ≠ 5) (h3 : t ≠ 71) (h4 : t ≠ 35) : Cut w0 w' n size b d s kv ku D V U := by
  have off : ∀ {k : Dk} {X : List Wt}, DkS w0 w k n size D X → ∀ i, foot k X i → i ≠ r := by
    rintro k X hk i (e | ⟨x, hx, rfl⟩) rfl
    · exact hk.disk.other_off hr h1 h2 h3 e
    · have := (hk.disk.waits x hx).2.2.2
      rw [hr] at this
      simp at this
      exact h2 this.2
  refine ⟨⟨h.dev.disk.row hg (off h.dev.disk) h0, h.dev.dev.same (hg.block b h.dev.dev.lt ?_), h.dev.low⟩, h.u.row hg (off h.u) h0, h.ud, h.same, h.sep⟩
  intro e
  have e : b = r := Option.some.inj e
  subst e
  have := h.dev.dev.head
  rw [hr] at this
  simp at this
  exact h4 this.2
theorem sep_dvm (hs : Sep kv V ku U) (hu : DiskAt w ku n size D U) (m : DvM w w' b kv kv' V V') : Sep kv' V' ku U := by
  refine ⟨?_, ?_⟩
  · intro i hi hf
    rcases m.own i hi with e | e
    · exact hs.l i e hf
    · have := hu.lt i hf; omega
  · rintro i hi (hf | ⟨x, hx, rfl⟩)
    · rcases m.own i hf with e | e
      · exact hs.r i hi (.inl e)
      · have := hu.lt i (.inl hi); omega
    · rcases m.blk x hx with ⟨y, hy, e⟩ | e
      · exact hs.r _ hi (.inr ⟨y, hy, e⟩)
      · have := hu.lt _ (.inl hi); omega
/-- The device has gone on. -/
theorem Cut.u_ask (h : Cut w0 w n size b d s kv ku D V U) (hd : Dev w0 w' n size b s' kv' D' V') (m : DvM w w' b kv kv' V V') : DkS w0 w' ku n size D U :=
  ⟨h.u.disk.kept m.kept (by rintro i hi (e | e); exact h.sep.l i e hi; have e : i = b := e; exact h.ub (e ▸ hi)), h.u.own, hd.disk.grown⟩
/-- It was refused. -/
theorem Cut.refused (h : Cut w0 w n size b d s kv ku D V U) (hd : Dev w0 w' n size b s' kv' D' V') (m : DvM w w' b kv kv' V V') (e : (D', abs V') = (D, abs V)) : Cut w0 w' n size b d s' kv' ku D' V' U := by
  obtain ⟨e1, e2⟩ := Prod.mk.inj e
  subst e1
  exact ⟨hd, h.u_ask hd m, h.ud, e2.trans h.same, sep_dvm h.sep h.u.disk m⟩
/-- Both have done the same. -/
theorem Cut.both {w1 : World} (h : Cut w0 w n size b d s kv ku D V U) (hd : Dev w0 w1 n size b s' kv' D' V') (m : DvM w w1 b kv kv' V V') {D2 : List Nat} (hu : DkS w0 w' ku' n size D2 U') (mu : Moved w1 w' ku ku' U U') (e : (D', abs V') = (D2, abs U')) : Cut w0 w' n size b d s' kv' ku' D' V' U' := by
  obtain ⟨e1, e2⟩ := Prod.mk.inj e
  subst e1
  have s1 := sep_dvm h.sep h.u.disk m
  have ku1 := h.u_ask hd m
  have hub : ¬ foot ku U b := h.ub
  refine ⟨⟨hd.disk.other s1 mu hu.grown, ?_, hd.low⟩, hu, mu.d.trans h.ud, e2, s1.moved hd.disk.disk mu⟩
  exact hd.dev.kept mu.kept (fun e => hub (.inl e))
end
end Go.Proofs.Ytaopcidkgcekdaa
