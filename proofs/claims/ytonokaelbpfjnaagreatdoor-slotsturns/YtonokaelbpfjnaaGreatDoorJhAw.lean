/- Texts joined: SlS0, SlF. -/
import Derived.Test.YtonokaelbpfjnaaGreatDoorJhAv
import Derived.Test.YtonokaelbpfjnaaGreatDoorJhAm
/- What Save comes to: numbers alone. -/
namespace Go.Proofs.YtonokaelbpfjnaaGreatDoor
open Go.RowKit Ap

theorem byt_take {xs : List Int} (h : Fm.Byt xs) (n : Nat) : Fm.Byt (xs.take n) := fun x hx => h x (List.mem_of_mem_take hx)
theorem byt_drop {xs : List Int} (h : Fm.Byt xs) (n : Nat) : Fm.Byt (xs.drop n) := fun x hx => h x (List.mem_of_mem_drop hx)
theorem leV_lt {xs : List Int} (h : Fm.Byt xs) (n : Nat) (hn : xs.length ≤ n) : 0 ≤ Fm.leV xs ∧ Fm.leV xs < 2 ^ (8 * n) := by
  have h1 := Fm.leV_bound xs h
  refine ⟨h1.1, Int.lt_of_lt_of_le h1.2 ?_⟩
  have : (2 : Nat) ^ (8 * xs.length) ≤ 2 ^ (8 * n) := Nat.pow_le_pow_right (by decide) (by omega)
  exact_mod_cast this
theorem zHd_ok : (⟨0, 0, 0, 0⟩ : Fm.Hd).Ok := ⟨by decide, by decide, by decide, by decide, by decide, by decide, by decide, by decide⟩
theorem hdOf_ok {E : List Int} (h : Fm.Byt E) : (Fm.hdOf E).Ok := by
  have b1 := leV_lt (xs := (E.drop 4).take 8) (byt_take (byt_drop h 4) 8) 8 (by simp; omega)
  have b2 := leV_lt (xs := ((E.drop 4).drop 8).take 8) (byt_take (byt_drop (byt_drop h 4) 8) 8) 8 (by simp; omega)
  have b3 := leV_lt (xs := (((E.drop 4).drop 8).drop 8).take 4) (byt_take (byt_drop (byt_drop (byt_drop h 4) 8) 8) 4) 4 (by simp; omega)
  have b4 := leV_lt (xs := ((((E.drop 4).drop 8).drop 8).drop 4).take 4) (byt_take (byt_drop (byt_drop (byt_drop (byt_drop h 4) 8) 8) 4) 4) 4 (by simp; omega)
  simp only [Nat.reduceMul, Int.reducePow] at b1 b2 b3 b4
  exact ⟨b1.1, b1.2, b2.1, b2.2, by show _ ≤ Fm.leV _; omega, by show Fm.leV _ ≤ _; omega, b4.1, b4.2⟩
theorem readH_ok {xs : List Int} (h : Fm.Byt xs) : (Fm.readH xs).1.Ok := by
  unfold Fm.readH
  split
  · exact zHd_ok
  · split
    · split
      · exact hdOf_ok (byt_take h 32)
      · exact zHd_ok
    · exact zHd_ok
theorem bytesAt_bytes {A : List Nat} (h : Bytes A) (o m : Nat) : Bytes (bytesAt A o m) := fun x hx => h x (List.mem_of_mem_drop (List.mem_of_mem_take hx))
theorem acc_hok {size C : Nat} {D : List Nat} {A : List Pr} {F : Nat} {a : Int} (hB : Bytes (now size D A)) : ∀ p ∈ acc size C D A F a, p.1.Ok := by
  intro p hp
  unfold acc at hp
  split at hp
  · simp at hp
    subst hp
    exact readH_ok (intz_byt (bytesAt_bytes hB _ _))
  · simp at hp
theorem clm_hok {size C Fa Fb : Nat} {D : List Nat} {A : List Pr} (hB : Bytes (now size D A)) : ∀ p ∈ clm size C Fa Fb D A, p.1.Ok := by
  intro p hp
  rcases List.mem_append.1 (srt_mem hp) with h | h
  · exact acc_hok hB p h
  · exact acc_hok hB p h
theorem lgo_hok {size Fa Fb : Nat} {D : List Nat} {A : List Pr} : ∀ (L : List (Fm.Hd × Int)) (s : Dv), (∀ p ∈ L, p.1.Ok ∧ (p.2 = 0 ∨ p.2 = 1)) → (lgo size Fa Fb D A L s).h.Ok ∧ ((lgo size Fa Fb D A L s).at_ = 0 ∨ (lgo size Fa Fb D A L s).at_ = 1 ∨ (lgo size Fa Fb D A L s).at_ = -1)
  | [], s, _ => ⟨zHd_ok, .inr (.inr rfl)⟩
  | p :: r, s, h => by
    unfold lgo
    split
    · exact ⟨zHd_ok, .inl rfl⟩
    · split
      · exact ⟨(h p (by simp)).1, (h p (by simp)).2.elim .inl (fun e => .inr (.inl e))⟩
      · exact lgo_hok r _ (fun q hq => h q (by simp [hq]))
theorem ldA_hok {size C Fa Fb : Nat} {s : Dv} {D : List Nat} {A : List Pr} (hB : Bytes (now size D A)) : (ldA size C Fa Fb s D A).h.Ok ∧ ((ldA size C Fa Fb s D A).at_ = 0 ∨ (ldA size C Fa Fb s D A).at_ = 1 ∨ (ldA size C Fa Fb s D A).at_ = -1) := by
  unfold ldA
  split
  · exact ⟨zHd_ok, .inl rfl⟩
  · split
    · exact ⟨zHd_ok, .inl rfl⟩
    · exact lgo_hok _ _ (fun p hp => ⟨clm_hok hB p hp, (clm_ok p hp).at_⟩)
theorem lgo_cnt {size C Fa Fb : Nat} {D : List Nat} {A : List Pr} (hs : 1 ≤ size) : ∀ (L : List (Fm.Hd × Int)) (s : Dv), (∀ p ∈ L, ClOk size C p) → (lgo size Fa Fb D A L s).s.cnt ≤ s.cnt + L.length * C
  | [], s, _ => by simp [lgo]
  | p :: r, s, h => by
    have ho := h p (by simp)
    have h1 := rgo_cntL (pcn size size p.1.n.toNat) s
    have h2 := pcn_body (size := size) (C := C) (m := p.1.n.toNat) hs (by have := ho.fit; have := ho.n0; omega)
    have h3 := lgo_cnt (Fa := Fa) (Fb := Fb) (D := D) (A := A) hs r (rgo (pcn size size p.1.n.toNat) s).2 (fun q hq => h q (by simp [hq]))
    have e : (p :: r).length * C = r.length * C + C := by rw [List.length_cons, Nat.add_mul, Nat.one_mul]
    rw [e]
    unfold lgo
    split
    · simp only; omega
    · split
      · simp only; omega
      · omega
theorem ldA_cnt {size C Fa Fb : Nat} {s : Dv} {D : List Nat} {A : List Pr} (hs : 1 ≤ size) : (ldA size C Fa Fb s D A).s.cnt ≤ s.cnt + 2 + 2 * C := by
  have h1 := rgo_cntL 1 s
  have h2 := rgo_cntL 1 (rgo 1 s).2
  have h3 := lgo_cnt (C := C) (Fa := Fa) (Fb := Fb) (D := D) (A := A) hs (clm size C Fa Fb D A) (rgo 1 (rgo 1 s).2).2 clm_ok
  have h4 : (clm size C Fa Fb D A).length * C ≤ 2 * C := Nat.mul_le_mul_right _ (clm_two _ _ _ _ _ _)
  unfold ldA
  split
  · simp only; omega
  · split
    · simp only; omega
    · omega
/-- What Save comes to. -/
structure Sv where
  code : Int
  h : Fm.Hd
  o : Dv × List Nat × List Pr
/-- The next header. -/
def nxH (h : Fm.Hd) (cov : Int) (xs : List Nat) : Fm.Hd := ⟨h.g + 1, cov, (xs.length : Int), sumN xs⟩
def svA (size C Fa Fb : Nat) (cov : Int) (xs : List Nat) (s : Dv) (D : List Nat) (A : List Pr) : Sv :=
  if (C - 1) * size < xs.length then ⟨3, hd0, s, D, A⟩
  else if (ldA size C Fa Fb s D A).code ≠ 0 then ⟨(ldA size C Fa Fb s D A).code, hd0, (ldA size C Fa Fb s D A).s, D, A⟩
  else if (ldA size C Fa Fb s D A).h.g = 18446744073709551615 then ⟨6, hd0, (ldA size C Fa Fb s D A).s, D, A⟩
  else if (puA size (if (ldA size C Fa Fb s D A).at_ = 0 then Fb else Fa) (nxH (ldA size C Fa Fb s D A).h cov xs) xs (ldA size C Fa Fb s D A).s D A).1 ≠ 0 then
    ⟨(puA size (if (ldA size C Fa Fb s D A).at_ = 0 then Fb else Fa) (nxH (ldA size C Fa Fb s D A).h cov xs) xs (ldA size C Fa Fb s D A).s D A).1, hd0, (puA size (if (ldA size C Fa Fb s D A).at_ = 0 then Fb else Fa) (nxH (ldA size C Fa Fb s D A).h cov xs) xs (ldA size C Fa Fb s D A).s D A).2⟩
  else ⟨0, nxH (ldA size C Fa Fb s D A).h cov xs, (puA size (if (ldA size C Fa Fb s D A).at_ = 0 then Fb else Fa) (nxH (ldA size C Fa Fb s D A).h cov xs) xs (ldA size C Fa Fb s D A).s D A).2⟩
theorem sumN_lt {xs : List Nat} (h : Bytes xs) : 0 ≤ sumN xs ∧ sumN xs < 4294967296 := by
  have := Fm.Cr.Poly.more_lt (s := 0) xs (by decide) h
  unfold sumN
  omega
theorem nxH_ok {h : Fm.Hd} {cov : Int} {xs : List Nat} (ho : h.Ok) (hg : h.g ≠ 18446744073709551615) (hc0 : 0 ≤ cov) (hc1 : cov < 18446744073709551616) (hx : Bytes xs) (hl : xs.length ≤ 67108864) : (nxH h cov xs).Ok ∧ (nxH h cov xs).May := by
  have h1 := sumN_lt hx
  have h2 := ho.g0
  have h3 := ho.g1
  refine ⟨⟨?_, ?_, hc0, hc1, ?_, ?_, h1.1, h1.2⟩, ?_, ?_, ?_⟩ <;> simp only [nxH] <;> omega
end Go.Proofs.YtonokaelbpfjnaaGreatDoor
/- Slots over a device that is not armed: one row of bytes, numbers alone. -/
namespace Go.Proofs.YtonokaelbpfjnaaGreatDoor
open Go.RowKit Ap

theorem stA_free {n size F a c : Nat} {xs : List Nat} {D : List Nat} {A : List Pr} (hs : 0 < size) (hA : (now size D A).length = n * size) (hfit : F * size + a + xs.length ≤ n * size) :
    ∃ c', c' ≤ c + 2 * pcn size a xs.length + 1 ∧ stA size F a xs (frD c) D A = (0, frD c', splice (now size D A) (F * size + a) xs, []) := by
  refine ⟨c + cst (full size a xs.length) (pcn size a xs.length) 0 + 1, ?_, ?_⟩
  · have := cst_le (full size a xs.length) (pcn size a xs.length) 0
    omega
  · unfold stA
    simp only
    rw [wgo_free]
    simp only [if_true, frD_goes, frD_next]
    have h1 := now_all (F := F) (at_ := a) (b := xs) hs hA hfit
    unfold now at h1
    unfold syncA
    simp only
    rw [show (stlP size (fun _ => size) D A A.length) = now size D A from rfl] at h1
    rw [h1]
theorem splice_len {A xs : List Nat} {o : Nat} (h : o + xs.length ≤ A.length) : (splice A o xs).length = A.length := by
  simp only [splice, List.length_append, List.length_take, List.length_drop]; omega
theorem puA_free {n size F c : Nat} {hd : Fm.Hd} {xs : List Nat} {D : List Nat} {A : List Pr} (hs : 32 ≤ size) (hA : (now size D A).length = n * size) (hfit : F * size + size + xs.length ≤ n * size) :
    ∃ c', c' ≤ c + 2 * pcn size size xs.length + 4 ∧ puA size F hd xs (frD c) D A = (0, frD c', splice (splice (now size D A) (F * size + size) xs) (F * size) (sect size hd), []) := by
  obtain ⟨c1, h1, e1⟩ := stA_free (c := c) (show 0 < size by omega) hA hfit
  have hl := splice_len (A := now size D A) (xs := xs) (o := F * size + size) (by rw [hA]; exact hfit)
  obtain ⟨c2, h2, e2⟩ := stA_free (n := n) (size := size) (F := F) (a := 0) (c := c1) (xs := sect size hd) (D := splice (now size D A) (F * size + size) xs) (A := []) (by omega) (by rw [now_nil, hl, hA]) (by rw [sect_length size hd hs]; omega)
  rw [sect_length size hd hs, pcn_one size (by omega)] at h2
  refine ⟨c2, by omega, ?_⟩
  unfold puA
  rw [e1]
  simp only [if_true]
  rw [e2, now_nil, Nat.add_zero]
/-- A slot holds a body, and its header. -/
structure Holds (T : List Nat) (size F : Nat) (hd : Fm.Hd) (xs : List Nat) : Prop where
  ok : hd.Ok
  may : hd.May
  n : hd.n = (xs.length : Int)
  s : sumN xs = hd.s
  head : bytesAt T (F * size) size = sect size hd
  body : bytesAt T (F * size + size) xs.length = xs
/-- A slot's first sector is no header. -/
def Blank (T : List Nat) (size F : Nat) : Prop := (Fm.readH (intz (bytesAt T (F * size) size))).2 ≠ 0
theorem sect_read {size : Nat} {hd : Fm.Hd} (_hs : 32 ≤ size) (ho : hd.Ok) (hm : hd.May) : Fm.readH (intz (sect size hd)) = (hd, 0) := by
  have e : intz (sect size hd) = hd.out ++ intz (zs (size - 32)) := by
    unfold sect
    have hl : (Fm.nats hd.out).length = 32 := by rw [Fm.nats_length, hd.out_length]
    have e1 : splice (zs size) 0 (Fm.nats hd.out) = Fm.nats hd.out ++ zs (size - 32) := by
      simp only [splice, List.take_zero, List.nil_append, hl, zs, List.drop_replicate, Nat.zero_add]
    rw [e1]
    unfold intz
    rw [List.map_append]
    congr 1
    unfold Fm.nats
    rw [List.map_map]
    conv => rhs; rw [← List.map_id hd.out]
    apply List.map_congr_left
    intro x hx
    have := hd.out_byt x hx
    simp; omega
  rw [e]
  exact Fm.readH_out hd ho hm _
theorem acc_holds {size C F : Nat} {D : List Nat} {A : List Pr} {a : Int} {hd : Fm.Hd} {xs : List Nat} (hs : 32 ≤ size) (h : Holds (now size D A) size F hd xs) (hl : xs.length ≤ (C - 1) * size) : acc size C D A F a = [(hd, a)] := by
  have e : hx size D A F = (hd, 0) := by unfold hx; rw [Nat.add_zero, h.head]; exact sect_read hs h.ok h.may
  unfold acc
  rw [e]
  rw [if_pos ⟨rfl, by show hd.n ≤ _; rw [h.n]; exact_mod_cast hl⟩]
theorem acc_blank {size C F : Nat} {D : List Nat} {A : List Pr} {a : Int} (h : Blank (now size D A) size F) : acc size C D A F a = [] := by
  unfold acc hx
  rw [Nat.add_zero, if_neg (fun e => h e.1)]
theorem ldA_free (size C Fa Fb c : Nat) (D : List Nat) (A : List Pr) : ldA size C Fa Fb (frD c) D A = lgo size Fa Fb D A (clm size C Fa Fb D A) (frD (c + 2)) := by
  unfold ldA
  rw [rgo_free]
  simp only [rgo_free]
  rfl
theorem lgo_first {size Fa Fb c : Nat} {D : List Nat} {A : List Pr} {hd : Fm.Hd} {a : Int} {xs : List Nat} (r : List (Fm.Hd × Int)) (h : Holds (now size D A) size (fOf Fa Fb a) hd xs) : lgo size Fa Fb D A ((hd, a) :: r) (frD c) = ⟨hd, some xs, a, 0, frD (c + pcn size size xs.length)⟩ := by
  have hn : hd.n.toNat = xs.length := by rw [h.n]; rfl
  have hb : bodyOf size Fa Fb D A (hd, a) = xs := by unfold bodyOf; rw [hn]; exact h.body
  unfold lgo
  simp only
  rw [hn, rgo_free, hb]
  rw [if_neg (by simp), if_pos h.s]
/-- What Load finds. -/
structure Found (T : List Nat) (size Fa Fb C : Nat) (R : Fm.Hd × Option (List Nat) × Int) : Prop where
  ld : ∀ (c : Nat) (D : List Nat) (A : List Pr), now size D A = T → ∃ c', c' ≤ c + 2 + C ∧ ldA size C Fa Fb (frD c) D A = ⟨R.1, R.2.1, R.2.2, 0, frD c'⟩
section
variable {T : List Nat} {size Fa Fb C : Nat} {ha hb : Fm.Hd} {xa xb : List Nat}
theorem found_none (h1 : Blank T size Fa) (h2 : Blank T size Fb) : Found T size Fa Fb C (hd0, none, -1) := ⟨fun c D A e => by
  subst e
  refine ⟨c + 2, by omega, ?_⟩
  rw [ldA_free]
  unfold clm
  rw [acc_blank h1, acc_blank h2]
  rfl⟩
theorem found_a (hs : 32 ≤ size) (h1 : Holds T size Fa ha xa) (hl : xa.length ≤ (C - 1) * size) (h2 : Blank T size Fb) : Found T size Fa Fb C (ha, some xa, 0) := ⟨fun c D A e => by
  subst e
  have hp := pcn_body (size := size) (by omega) hl
  refine ⟨c + 2 + pcn size size xa.length, by omega, ?_⟩
  rw [ldA_free]
  unfold clm
  rw [acc_holds hs h1 hl, acc_blank h2]
  exact lgo_first [] h1⟩
theorem found_ab (hs : 32 ≤ size) (h1 : Holds T size Fa ha xa) (hl : xa.length ≤ (C - 1) * size) (h2 : Holds T size Fb hb xb) (hl2 : xb.length ≤ (C - 1) * size) (hg : hb.g ≤ ha.g) : Found T size Fa Fb C (ha, some xa, 0) := ⟨fun c D A e => by
  subst e
  have hp := pcn_body (size := size) (by omega) hl
  refine ⟨c + 2 + pcn size size xa.length, by omega, ?_⟩
  rw [ldA_free]
  unfold clm
  rw [acc_holds hs h1 hl, acc_holds hs h2 hl2]
  have e : srt ([(ha, (0 : Int))] ++ [(hb, (1 : Int))]) = [(ha, 0), (hb, 1)] := by
    show (if ha.g < hb.g then _ else _) = _
    rw [if_neg (by omega)]
  rw [e]
  exact lgo_first _ h1⟩
theorem found_ba (hs : 32 ≤ size) (h1 : Holds T size Fa ha xa) (hl : xa.length ≤ (C - 1) * size) (h2 : Holds T size Fb hb xb) (hl2 : xb.length ≤ (C - 1) * size) (hg : ha.g < hb.g) : Found T size Fa Fb C (hb, some xb, 1) := ⟨fun c D A e => by
  subst e
  have hp := pcn_body (size := size) (by omega) hl2
  refine ⟨c + 2 + pcn size size xb.length, by omega, ?_⟩
  rw [ldA_free]
  unfold clm
  rw [acc_holds hs h1 hl, acc_holds hs h2 hl2]
  have e : srt ([(ha, (0 : Int))] ++ [(hb, (1 : Int))]) = [(hb, 1), (ha, 0)] := by
    show (if ha.g < hb.g then _ else _) = _
    rw [if_pos hg]
  rw [e]
  exact lgo_first _ h2⟩
end
/-- What a save leaves. -/
def svT (T : List Nat) (size F : Nat) (hd : Fm.Hd) (xs : List Nat) : List Nat := splice (splice T (F * size + size) xs) (F * size) (sect size hd)
theorem svT_len {T : List Nat} {n size F : Nat} {hd : Fm.Hd} {xs : List Nat} (hs : 32 ≤ size) (hT : T.length = n * size) (hfit : F * size + size + xs.length ≤ n * size) : (svT T size F hd xs).length = n * size := by
  unfold svT
  rw [splice_len, splice_len (by rw [hT]; omega), hT]
  rw [splice_len (by rw [hT]; omega), sect_length _ _ hs, hT]; omega
theorem svA_free {T : List Nat} {n size Fa Fb C : Nat} {R : Fm.Hd × Option (List Nat) × Int} {cov : Int} {xs : List Nat} (hf : Found T size Fa Fb C R) (hs : 32 ≤ size) (hT : T.length = n * size) (hFa : Fa + C ≤ n) (hFb : Fb + C ≤ n) (hC : 1 ≤ C) (hl : xs.length ≤ (C - 1) * size) (hg : R.1.g ≠ 18446744073709551615) (c : Nat) (D : List Nat) (A : List Pr) (hN : now size D A = T) :
    ∃ c', c' ≤ c + 3 * C + 6 ∧ svA size C Fa Fb cov xs (frD c) D A = ⟨0, nxH R.1 cov xs, frD c', svT T size (if R.2.2 = 0 then Fb else Fa) (nxH R.1 cov xs) xs, []⟩ := by
  obtain ⟨c1, h1, e1⟩ := hf.ld c D A hN
  have hp := pcn_body (size := size) (by omega) hl
  have hC2 : size + (C - 1) * size = C * size := by
    obtain ⟨c, rfl⟩ : ∃ c, C = c + 1 := ⟨C - 1, by omega⟩
    rw [Nat.add_mul]; simp; omega
  have hF : (if R.2.2 = 0 then Fb else Fa) + C ≤ n := by split <;> assumption
  have hfit : (if R.2.2 = 0 then Fb else Fa) * size + size + xs.length ≤ n * size := by
    have := Nat.mul_le_mul_right size hF
    rw [Nat.add_mul] at this
    omega
  obtain ⟨c2, h2, e2⟩ := puA_free (c := c1) (F := if R.2.2 = 0 then Fb else Fa) (hd := nxH R.1 cov xs) (xs := xs) (D := D) (A := A) hs (by rw [hN, hT]) hfit
  refine ⟨c2, by omega, ?_⟩
  unfold svA
  rw [if_neg (by omega), e1]
  simp only
  rw [if_neg (by simp), if_neg hg, e2]
  simp only
  rw [if_neg (by simp), hN]
  rfl
theorem bytesAt_off {T xs : List Nat} {o p m : Nat} (h : o + xs.length ≤ T.length) (hd : p + m ≤ o ∨ o + xs.length ≤ p) : bytesAt (splice T o xs) p m = bytesAt T p m := by
  apply List.ext_getElem?
  intro i
  rw [bytesAt_get, bytesAt_get]
  split
  · rw [splice_get _ _ _ _ h, if_neg (by omega)]
  · rfl
theorem bytesAt_same {T xs : List Nat} {o : Nat} (h : o + xs.length ≤ T.length) : bytesAt (splice T o xs) o xs.length = xs := by
  apply List.ext_getElem?
  intro i
  rw [bytesAt_get]
  split
  · rw [splice_get _ _ _ _ h, if_pos (by omega), show o + i - o = i by omega]
  · rw [List.getElem?_eq_none (by omega)]
theorem holds_saved {T : List Nat} {n size F : Nat} {hd : Fm.Hd} {xs : List Nat} (hs : 32 ≤ size) (hT : T.length = n * size) (hfit : F * size + size + xs.length ≤ n * size) (ho : hd.Ok) (hm : hd.May) (hn : hd.n = (xs.length : Int)) (hsum : sumN xs = hd.s) : Holds (svT T size F hd xs) size F hd xs := by
  have hl := sect_length size hd hs
  have h1 : (splice T (F * size + size) xs).length = T.length := splice_len (by rw [hT]; omega)
  refine ⟨ho, hm, hn, hsum, ?_, ?_⟩
  · unfold svT
    have := bytesAt_same (T := splice T (F * size + size) xs) (xs := sect size hd) (o := F * size) (by rw [h1, hT, hl]; omega)
    rw [hl] at this
    exact this
  · unfold svT
    rw [bytesAt_off (by rw [h1, hT, hl]; omega) (.inr (by rw [hl]; omega))]
    exact bytesAt_same (by rw [hT]; omega)
theorem svT_other {T : List Nat} {n size F G C : Nat} {hd : Fm.Hd} {xs : List Nat} (hs : 32 ≤ size) (hT : T.length = n * size) (hfit : F * size + size + xs.length ≤ n * size) (hl : xs.length ≤ (C - 1) * size) (hC : 1 ≤ C) (hFG : F + C ≤ G ∨ G + C ≤ F) (p m : Nat) (hp : G * size ≤ p) (hpm : p + m ≤ (G + C) * size) : bytesAt (svT T size F hd xs) p m = bytesAt T p m := by
  have hls := sect_length size hd hs
  have h1 : (splice T (F * size + size) xs).length = T.length := splice_len (by rw [hT]; omega)
  have hC2 : size + (C - 1) * size = C * size := by
    obtain ⟨c, rfl⟩ : ∃ c, C = c + 1 := ⟨C - 1, by omega⟩
    rw [Nat.add_mul]; simp; omega
  have hx : (F + C) * size = F * size + C * size := Nat.add_mul _ _ _
  have hy : (G + C) * size = G * size + C * size := Nat.add_mul _ _ _
  have key : p + m ≤ F * size ∨ F * size + C * size ≤ p := by
    rcases hFG with h | h
    · right
      have := Nat.mul_le_mul_right size h
      omega
    · left
      have := Nat.mul_le_mul_right size h
      omega
  unfold svT
  rw [bytesAt_off (by rw [h1, hT, hls]; omega) (by rw [hls]; omega), bytesAt_off (by rw [hT]; omega) (by omega)]
theorem Holds.other {T : List Nat} {n size F G C : Nat} {hd hd' : Fm.Hd} {xs ys : List Nat} (h : Holds T size G hd' ys) (hs : 32 ≤ size) (hT : T.length = n * size) (hfit : F * size + size + xs.length ≤ n * size) (hl : xs.length ≤ (C - 1) * size) (hl2 : ys.length ≤ (C - 1) * size) (hC : 1 ≤ C) (hFG : F + C ≤ G ∨ G + C ≤ F) : Holds (svT T size F hd xs) size G hd' ys := by
  have hC2 : size + (C - 1) * size = C * size := by
    obtain ⟨c, rfl⟩ : ∃ c, C = c + 1 := ⟨C - 1, by omega⟩
    rw [Nat.add_mul]; simp; omega
  have hy : (G + C) * size = G * size + C * size := Nat.add_mul _ _ _
  refine ⟨h.ok, h.may, h.n, h.s, ?_, ?_⟩
  · rw [svT_other hs hT hfit hl hC hFG _ _ (Nat.le_refl _) (by omega)]; exact h.head
  · rw [svT_other hs hT hfit hl hC hFG _ _ (Nat.le_add_right _ _) (by omega)]; exact h.body
theorem Blank.other {T : List Nat} {n size F G C : Nat} {hd : Fm.Hd} {xs : List Nat} (h : Blank T size G) (hs : 32 ≤ size) (hT : T.length = n * size) (hfit : F * size + size + xs.length ≤ n * size) (hl : xs.length ≤ (C - 1) * size) (hC : 1 ≤ C) (hFG : F + C ≤ G ∨ G + C ≤ F) : Blank (svT T size F hd xs) size G := by
  have hC2 : size + (C - 1) * size = C * size := by
    obtain ⟨c, rfl⟩ : ∃ c, C = c + 1 := ⟨C - 1, by omega⟩
    rw [Nat.add_mul]; simp; omega
  have hy : (G + C) * size = G * size + C * size := Nat.add_mul _ _ _
  unfold Blank
  rw [svT_other hs hT hfit hl hC hFG _ _ (Nat.le_refl _) (by omega)]
  exact h
theorem blank_zero (n size F : Nat) (hs : 32 ≤ size) (hF : F * size + size ≤ n) : Blank (zs n) size F := by
  have e : bytesAt (zs n) (F * size) size = zs size := by
    unfold bytesAt zs
    rw [List.drop_replicate, List.take_replicate, Nat.min_eq_left (by omega)]
  unfold Blank
  rw [e]
  unfold Fm.readH
  have hl : (intz (zs size)).length = size := by rw [intz_length]; simp [zs]
  rw [if_neg (by omega)]
  have hg : ¬ Fm.HGood ((intz (zs size)).take 32) := by
    intro h
    have h1 := h.1
    rw [List.take_take] at h1
    have h2 : (intz (zs size))[0]? = some 0 := by
      unfold intz zs
      rw [List.getElem?_map, List.getElem?_replicate, if_pos (by omega)]; rfl
    have h3 : ((intz (zs size)).take (min 4 32))[0]? = some 0 := by rw [List.getElem?_take, if_pos (by omega), h2]
    rw [h1] at h3
    simp at h3
  rw [if_neg hg]
  simp
end Go.Proofs.YtonokaelbpfjnaaGreatDoor
