/- Texts joined: FFx, FFy, FFp. -/
import Derived.Test.YtofdijaipjkfbaaGreatDoorJkAa
import Derived.Test.YtofdijaipjkfbaaGreatDoorJkAd
import Derived.Test.YtofdijaipjkfbaaGreatDoorJkAc
/- Frames as bytes, and rows of frames: plain lists, without the program. -/
namespace Go.Proofs.YtofdijaipjkfbaaGreatDoor.Fm

/-- Bytes as natural numbers. -/
def nats (xs : List Int) : List Nat := xs.map Int.toNat
/-- The sum of bytes. -/
def sumI (xs : List Int) : Int := ((Cr.Poly.more 0 (nats xs) : Nat) : Int)
theorem nats_length (xs : List Int) : (nats xs).length = xs.length := by simp [nats]
theorem nats_lt {xs : List Int} (h : Byt xs) : ∀ x ∈ nats xs, x < 256 := by
  intro x hx
  simp only [nats, List.mem_map] at hx
  obtain ⟨y, hy, rfl⟩ := hx
  have := h y hy
  omega
theorem sumI_lt {xs : List Int} (h : Byt xs) : 0 ≤ sumI xs ∧ sumI xs < 4294967296 := by
  have := Cr.Poly.more_lt (s := 0) (nats xs) (by decide) (nats_lt h)
  unfold sumI
  omega

/-- A frame: its epoch, its number, its body. -/
structure Fr where
  e : Int
  s : Int
  b : List Int
/-- The numbers and bytes of a frame are such. -/
structure Fr.Ok (f : Fr) : Prop where
  e0 : 0 ≤ f.e
  e1 : f.e < 18446744073709551616
  s0 : 0 ≤ f.s
  s1 : f.s < 18446744073709551616
  byt : Byt f.b
def noFr : Fr := ⟨0, 0, []⟩
theorem noFr_ok : noFr.Ok := ⟨by decide, by decide, by decide, by decide, fun x hx => by cases hx⟩
/-- A frame's bytes ahead of its sum; all its bytes. -/
def Fr.head (f : Fr) : List Int := leB f.b.length 2 ++ (leB f.e 8 ++ (leB f.s 8 ++ f.b))
def Fr.out (f : Fr) : List Int := f.head ++ leB (sumI f.head) 4
theorem Fr.head_length (f : Fr) : f.head.length = 18 + f.b.length := by simp [Fr.head, leB_length]; omega
theorem Fr.out_length (f : Fr) : f.out.length = 22 + f.b.length := by simp [Fr.out, leB_length, Fr.head_length]; omega
theorem Fr.head_byt {f : Fr} (h : Byt f.b) : Byt f.head := (byt_leB _ _).append ((byt_leB _ _).append ((byt_leB _ _).append h))
theorem Fr.out_byt {f : Fr} (h : Byt f.b) : Byt f.out := (Fr.head_byt h).append (byt_leB _ _)

/-- What Get answers: the frame, how many bytes it has, the error. -/
structure Got where
  f : Fr
  n : Nat
  c : Int
/-- The length that the first two bytes say. -/
def blen (xs : List Int) : Nat := (leV (xs.take 2)).toNat
def getF (xs : List Int) : Got :=
  if xs.length < 2 then ⟨noFr, 0, 4⟩
  else if 32 < blen xs then ⟨noFr, 0, 80⟩
  else if xs.length < 22 + blen xs then ⟨noFr, 0, 4⟩
  else if leV ((xs.drop (18 + blen xs)).take 4) ≠ sumI (xs.take (18 + blen xs)) then ⟨noFr, 0, 81⟩
  else ⟨⟨leV ((xs.drop 2).take 8), leV ((xs.drop 10).take 8), (xs.drop 18).take (blen xs)⟩, 22 + blen xs, 0⟩

theorem getF_err {xs : List Int} (h : (getF xs).c ≠ 0) : (getF xs).f = noFr ∧ (getF xs).n = 0 := by
  unfold getF at h ⊢
  split
  · exact ⟨rfl, rfl⟩
  · split
    · exact ⟨rfl, rfl⟩
    · split
      · exact ⟨rfl, rfl⟩
      · split
        · exact ⟨rfl, rfl⟩
        · simp_all
theorem getF_code (xs : List Int) : (getF xs).c = 0 ∨ (getF xs).c = 4 ∨ (getF xs).c = 80 ∨ (getF xs).c = 81 := by
  unfold getF
  split
  · simp
  · split
    · simp
    · split
      · simp
      · split <;> simp

/-- Bytes are those of the number that they say. -/
theorem leB_leV : ∀ (xs : List Int), Byt xs → leB (leV xs) xs.length = xs
  | [], _ => rfl
  | x :: r, h => by
    have ih := leB_leV r h.tail
    have hx := h x (List.mem_cons_self ..)
    have h0 := (leV_bound r h.tail).1
    rw [List.length_cons]
    simp only [leB] at ih ⊢
    rw [List.range_succ_eq_map, List.map_cons, List.map_map]
    have e0 : leV (x :: r) / 2 ^ (8 * 0) % 256 = x := by simp [leV]; omega
    rw [e0]
    congr 1
    have hmap : (List.range r.length).map ((fun j => leV (x :: r) / 2 ^ (8 * j) % 256) ∘ Nat.succ) = (List.range r.length).map (fun j => leV r / 2 ^ (8 * j) % 256) := by
      apply List.map_congr_left
      intro j _
      simp only [Function.comp, Nat.succ_eq_add_one]
      rw [pow_succ8]
      have e1 : leV (x :: r) / (256 * 2 ^ (8 * j)) = leV r / 2 ^ (8 * j) := by
        rw [← Int.ediv_ediv_of_nonneg (by decide : (0 : Int) ≤ 256)]
        congr 1
        simp only [leV]
        omega
      rw [e1]
    rw [hmap]
    exact ih

theorem leV_inj {xs ys : List Int} (hx : Byt xs) (hy : Byt ys) (hl : xs.length = ys.length) (h : leV xs = leV ys) : xs = ys := by
  rw [← leB_leV xs hx, ← leB_leV ys hy, h, hl]

theorem leV_leB' {N : Int} {k : Nat} (h0 : 0 ≤ N) (h1 : N < 2 ^ (8 * k)) : leV (leB N k) = N := by
  rw [leV_leB N h0 k]; exact Int.emod_eq_of_lt h0 h1

theorem take_drop_cat (xs : List Int) (a b : Nat) : xs.take (a + b) = xs.take a ++ (xs.drop a).take b := List.take_add ..

theorem blen_cast {xs : List Int} (h : Byt xs) : ((blen xs : Nat) : Int) = leV (xs.take 2) := by
  have := (leV_bound (xs.take 2) (h.take 2)).1
  unfold blen
  omega

/-- What is read is written so. -/
theorem getF_ok {xs : List Int} (hB : Byt xs) (h : (getF xs).c = 0) :
    (getF xs).f.Ok ∧ (getF xs).f.b.length ≤ 32 ∧ (getF xs).n = 22 + (getF xs).f.b.length ∧ (getF xs).n ≤ xs.length ∧ xs.take (getF xs).n = (getF xs).f.out := by
  have hb := blen_cast hB
  unfold getF at h ⊢
  split at h
  · simp at h
  · split at h
    · simp at h
    · split at h
      · simp at h
      · split at h
        · simp at h
        · rename_i h1 h2 h3 h4
          rw [if_neg h1, if_neg h2, if_neg h3, if_neg h4]
          simp only
          have h4' : leV ((xs.drop (18 + blen xs)).take 4) = sumI (xs.take (18 + blen xs)) := Classical.byContradiction h4
          have hl : ((xs.drop 18).take (blen xs)).length = blen xs := by simp; omega
          have l8 : ((xs.drop 2).take 8).length = 8 := by simp; omega
          have l8' : ((xs.drop 10).take 8).length = 8 := by simp; omega
          have b8 := leV_bound _ ((hB.drop 2).take 8)
          have b8' := leV_bound _ ((hB.drop 10).take 8)
          rw [l8] at b8
          rw [l8'] at b8'
          have e2 : leB (leV (xs.take 2)) 2 = xs.take 2 := by
            have := leB_leV _ (hB.take 2)
            rwa [show (xs.take 2).length = 2 by simp; omega] at this
          have e8 : leB (leV ((xs.drop 2).take 8)) 8 = (xs.drop 2).take 8 := by
            have := leB_leV _ ((hB.drop 2).take 8)
            rwa [l8] at this
          have e8' : leB (leV ((xs.drop 10).take 8)) 8 = (xs.drop 10).take 8 := by
            have := leB_leV _ ((hB.drop 10).take 8)
            rwa [l8'] at this
          have e4 : leB (leV ((xs.drop (18 + blen xs)).take 4)) 4 = (xs.drop (18 + blen xs)).take 4 := by
            have := leB_leV _ ((hB.drop (18 + blen xs)).take 4)
            rwa [show ((xs.drop (18 + blen xs)).take 4).length = 4 by simp; omega] at this
          have hh : Fr.head ⟨leV ((xs.drop 2).take 8), leV ((xs.drop 10).take 8), (xs.drop 18).take (blen xs)⟩ = xs.take (18 + blen xs) := by
            unfold Fr.head
            simp only
            rw [hl, hb, e2, e8, e8', show 18 + blen xs = 2 + (8 + (8 + blen xs)) by omega, take_drop_cat, take_drop_cat, take_drop_cat]
            simp [List.drop_drop]
          refine ⟨⟨b8.1, b8.2, b8'.1, b8'.2, (hB.drop 18).take _⟩, by rw [hl]; omega, by rw [hl], by omega, ?_⟩
          unfold Fr.out
          rw [hh, ← h4', e4, show 22 + blen xs = (18 + blen xs) + 4 by omega, take_drop_cat]

/-- What is written is read, whatever stands behind. -/
theorem getF_out {f : Fr} (hf : f.Ok) (hl : f.b.length ≤ 32) (rest : List Int) : getF (f.out ++ rest) = ⟨f, 22 + f.b.length, 0⟩ := by
  have hlen := f.out_length
  have t2 : (f.out ++ rest).take 2 = leB f.b.length 2 := by
    simp only [Fr.out, Fr.head, List.append_assoc]
    exact List.take_left' (leB_length _ _)
  have d2 : (f.out ++ rest).drop 2 = leB f.e 8 ++ (leB f.s 8 ++ (f.b ++ (leB (sumI f.head) 4 ++ rest))) := by
    conv => lhs; simp only [Fr.out, Fr.head, List.append_assoc]
    exact List.drop_left' (leB_length _ _)
  have d10 : (f.out ++ rest).drop 10 = leB f.s 8 ++ (f.b ++ (leB (sumI f.head) 4 ++ rest)) := by
    rw [show 10 = 2 + 8 from rfl, ← List.drop_drop, d2]
    exact List.drop_left' (leB_length _ _)
  have d18 : (f.out ++ rest).drop 18 = f.b ++ (leB (sumI f.head) 4 ++ rest) := by
    rw [show 18 = 10 + 8 from rfl, ← List.drop_drop, d10]
    exact List.drop_left' (leB_length _ _)
  have dl : (f.out ++ rest).drop (18 + f.b.length) = leB (sumI f.head) 4 ++ rest := by
    rw [← List.drop_drop, d18]
    exact List.drop_left' rfl
  have tl : (f.out ++ rest).take (18 + f.b.length) = f.head := by
    unfold Fr.out
    rw [List.append_assoc]
    exact List.take_left' f.head_length
  have hs := sumI_lt (Fr.head_byt hf.byt)
  have hbl : blen (f.out ++ rest) = f.b.length := by
    unfold blen
    rw [t2, leV_leB' (by omega) (by omega)]
    simp
  unfold getF
  rw [hbl, dl, tl, d18, d10, d2]
  rw [if_neg (by simp; omega), if_neg (by omega), if_neg (by simp; omega)]
  rw [List.take_left' (leB_length _ _), leV_leB' hs.1 (by omega), if_neg (by simp)]
  rw [List.take_left' (leB_length _ _), List.take_left' (leB_length _ _), List.take_left' rfl, leV_leB' hf.e0 hf.e1, leV_leB' hf.s0 hf.s1]

/-- What begins with a frame that is read of a beginning. -/
theorem getF_pre {xs ys : List Int} (hB : Byt xs) (h : (getF xs).c = 0) : getF (xs ++ ys) = getF xs := by
  obtain ⟨h1, h2, h3, h4, h5⟩ := getF_ok hB h
  have e : xs ++ ys = (getF xs).f.out ++ (xs.drop (getF xs).n ++ ys) := by
    rw [← List.append_assoc, ← h5, List.take_append_drop]
  rw [e, getF_out h1 h2]
  rcases hg : getF xs with ⟨f, n, c⟩
  rw [hg] at h3 h
  simp only at h3 h
  rw [h3, h]

/-- The frame goes on with the row. -/
def Goes (E S : Int) (xs : List Int) : Prop := (getF xs).c = 0 ∧ (getF xs).f.e = E ∧ (getF xs).f.s = S + 1 ∧ S + 1 < 18446744073709551616
instance (E S : Int) (xs : List Int) : Decidable (Goes E S xs) := by unfold Goes; exact inferInstance
def rowN (E : Int) : Nat → Int → List Int → List Fr
  | 0, _, _ => []
  | k + 1, S, xs => if Goes E S xs then (getF xs).f :: rowN E k (S + 1) (xs.drop (getF xs).n) else []
/-- The row of frames at the begin of xs. -/
def rowF (E S : Int) (xs : List Int) : List Fr := rowN E xs.length S xs

theorem goes_len {E S : Int} {xs : List Int} (hB : Byt xs) (h : Goes E S xs) : 22 ≤ (getF xs).n ∧ (getF xs).n ≤ xs.length := by
  obtain ⟨_, _, h3, h4, _⟩ := getF_ok hB h.1
  omega
theorem rowN_more (E : Int) : ∀ (k m : Nat) (S : Int) (xs : List Int), Byt xs → xs.length ≤ k → xs.length ≤ m → rowN E k S xs = rowN E m S xs
  | 0, 0, _, _, _, _, _ => rfl
  | 0, m + 1, S, xs, hB, h, _ => by
    have hn : ¬ Goes E S xs := fun hg => by have := goes_len hB hg; omega
    simp only [rowN, if_neg hn]
  | k + 1, 0, S, xs, hB, _, h => by
    have hn : ¬ Goes E S xs := fun hg => by have := goes_len hB hg; omega
    simp only [rowN, if_neg hn]
  | k + 1, m + 1, S, xs, hB, h1, h2 => by
    simp only [rowN]
    split
    · rename_i hg
      have := goes_len hB hg
      rw [rowN_more E k m (S + 1) _ (hB.drop _) (by simp; omega) (by simp; omega)]
    · rfl
theorem rowF_goes {E S : Int} {xs : List Int} (hB : Byt xs) (h : Goes E S xs) : rowF E S xs = (getF xs).f :: rowF E (S + 1) (xs.drop (getF xs).n) := by
  have hl := goes_len hB h
  unfold rowF
  obtain ⟨k, hk⟩ : ∃ k, xs.length = k + 1 := ⟨xs.length - 1, by omega⟩
  rw [hk, rowN, if_pos h, rowN_more E k _ (S + 1) _ (hB.drop _) (by simp; omega) (Nat.le_refl _)]
theorem rowF_stops {E S : Int} {xs : List Int} (h : ¬ Goes E S xs) : rowF E S xs = [] := by
  unfold rowF
  cases xs.length with
  | zero => rfl
  | succ k => rw [rowN, if_neg h]

/-- How many bytes frames have. -/
def fend : List Fr → Nat
  | [] => 0
  | f :: fs => 22 + f.b.length + fend fs
theorem fend_append : ∀ (fs gs : List Fr), fend (fs ++ gs) = fend fs + fend gs
  | [], gs => by simp [fend]
  | f :: fs, gs => by simp only [List.cons_append, fend, fend_append fs gs]; omega
theorem fend_snoc (fs : List Fr) (f : Fr) : fend (fs ++ [f]) = fend fs + (22 + f.b.length) := by rw [fend_append]; simp [fend]
theorem fend_len : ∀ (fs : List Fr), 22 * fs.length ≤ fend fs
  | [] => by simp [fend]
  | f :: fs => by have := fend_len fs; simp only [fend, List.length_cons]; omega

/-- Where a walk over the row stands behind the frames pre. -/
structure RowInv (E S : Int) (xs : List Int) (pre : List Fr) : Prop where
  row : pre ++ rowF E (S + pre.length) (xs.drop (fend pre)) = rowF E S xs
  fits : fend pre ≤ xs.length
  top : S + pre.length < 18446744073709551616
theorem RowInv.start {E S : Int} {xs : List Int} (h : S < 18446744073709551616) : RowInv E S xs [] := ⟨by simp [fend], by simp [fend], by simpa using h⟩
theorem RowInv.step {E S : Int} {xs : List Int} {pre : List Fr} (hB : Byt xs) (h : RowInv E S xs pre) (hg : Goes E (S + pre.length) (xs.drop (fend pre))) :
    RowInv E S xs (pre ++ [(getF (xs.drop (fend pre))).f]) ∧ (getF (xs.drop (fend pre))).f.Ok ∧ (getF (xs.drop (fend pre))).f.b.length ≤ 32 ∧ (getF (xs.drop (fend pre))).n = 22 + (getF (xs.drop (fend pre))).f.b.length := by
  obtain ⟨h1, h2, h3, h4, h5⟩ := getF_ok (hB.drop (fend pre)) hg.1
  have hr := h.row
  rw [rowF_goes (hB.drop _) hg] at hr
  rw [List.length_drop] at h4
  refine ⟨⟨?_, ?_, ?_⟩, h1, h2, h3⟩
  · rw [fend_snoc, ← h3, ← List.drop_drop, List.length_append, List.append_assoc]
    rw [← hr]
    simp only [List.length_singleton, List.singleton_append]
    rw [show S + ((pre.length + 1 : Nat) : Int) = S + (pre.length : Int) + 1 by omega]
  · have := h.fits
    rw [fend_snoc]
    omega
  · have := hg.2.2.2
    simp
    omega
theorem RowInv.stop {E S : Int} {xs : List Int} {pre : List Fr} (h : RowInv E S xs pre) (hg : ¬ Goes E (S + pre.length) (xs.drop (fend pre))) : rowF E S xs = pre := by
  have hr := h.row
  rw [rowF_stops hg, List.append_nil] at hr
  exact hr.symm
theorem RowInv.pre {E S : Int} {xs : List Int} {pre : List Fr} (h : RowInv E S xs pre) : pre <+: rowF E S xs := ⟨_, h.row⟩

/-- Every frame of a row: its epoch, its number, its bytes. -/
theorem rowF_all (E : Int) : ∀ (k : Nat) (S : Int) (xs : List Int), xs.length ≤ k → Byt xs → ∀ (i : Nat) (f : Fr), (rowF E S xs)[i]? = some f → f.e = E ∧ f.s = S + i + 1 ∧ f.Ok ∧ f.b.length ≤ 32
  | k, S, xs, hk, hB, i, f, hf => by
    by_cases hg : Goes E S xs
    · rw [rowF_goes hB hg] at hf
      obtain ⟨h1, h2, h3, h4, _⟩ := getF_ok hB hg.1
      cases i with
      | zero => simp at hf; subst hf; exact ⟨hg.2.1, by rw [hg.2.2.1]; simp, h1, h2⟩
      | succ i =>
        simp at hf
        match k, hk with
        | 0, hk => omega
        | k + 1, hk =>
          have := rowF_all E k (S + 1) (xs.drop (getF xs).n) (by simp; omega) (hB.drop _) i f hf
          exact ⟨this.1, by rw [this.2.1]; simp; omega, this.2.2⟩
    · rw [rowF_stops hg] at hf; simp at hf
theorem rowF_end (E : Int) : ∀ (k : Nat) (S : Int) (xs : List Int), xs.length ≤ k → Byt xs → fend (rowF E S xs) ≤ xs.length
  | k, S, xs, hk, hB => by
    by_cases hg : Goes E S xs
    · rw [rowF_goes hB hg]
      obtain ⟨h1, h2, h3, h4, _⟩ := getF_ok hB hg.1
      match k, hk with
      | 0, hk => omega
      | k + 1, hk =>
        have := rowF_end E k (S + 1) (xs.drop (getF xs).n) (by simp; omega) (hB.drop _)
        simp only [fend, List.length_drop] at this ⊢
        omega
    · rw [rowF_stops hg]; simp [fend]
/-- The beginning of bytes tells a beginning of the row. -/
theorem rowF_pre (E : Int) : ∀ (k : Nat) (S : Int) (xs ys : List Int), xs.length ≤ k → Byt xs → Byt ys → rowF E S xs <+: rowF E S (xs ++ ys)
  | k, S, xs, ys, hk, hB, hY => by
    by_cases hg : Goes E S xs
    · have hp := getF_pre (ys := ys) hB hg.1
      have hg' : Goes E S (xs ++ ys) := by unfold Goes at hg ⊢; rw [hp]; exact hg
      obtain ⟨h1, h2, h3, h4, _⟩ := getF_ok hB hg.1
      rw [rowF_goes hB hg, rowF_goes (hB.append hY) hg', hp, List.drop_append_of_le_length h4]
      match k, hk with
      | 0, hk => omega
      | k + 1, hk =>
        have := rowF_pre E k (S + 1) (xs.drop (getF xs).n) ys (by simp; omega) (hB.drop _) hY
        exact List.cons_prefix_cons.2 ⟨rfl, this⟩
    · rw [rowF_stops hg]; exact List.nil_prefix

/-- Frames of one epoch, one behind the other. -/
def Chn (E S : Int) (fs : List Fr) : Prop := ∀ (i : Nat) (f : Fr), fs[i]? = some f → f.e = E ∧ f.s = S + i + 1 ∧ f.Ok ∧ f.b.length ≤ 32
def outs (fs : List Fr) : List Int := (fs.map Fr.out).flatten
theorem outs_length : ∀ (fs : List Fr), (outs fs).length = fend fs
  | [] => rfl
  | f :: fs => by
    have := outs_length fs
    simp only [outs, fend, List.map_cons, List.flatten_cons, List.length_append, Fr.out_length] at this ⊢
    omega
theorem outs_snoc (fs : List Fr) (f : Fr) : outs (fs ++ [f]) = outs fs ++ f.out := by simp [outs]
theorem Chn.tail {E S : Int} {f : Fr} {fs : List Fr} (h : Chn E S (f :: fs)) : Chn E (S + 1) fs := by
  intro i g hg
  have := h (i + 1) g (by simpa using hg)
  exact ⟨this.1, by rw [this.2.1]; simp; omega, this.2.2⟩
theorem Chn.byt {E S : Int} {fs : List Fr} (h : Chn E S fs) : Byt (outs fs) := by
  intro x hx
  simp only [outs, List.mem_flatten, List.mem_map] at hx
  obtain ⟨l, ⟨f, hf, rfl⟩, hx⟩ := hx
  obtain ⟨i, hi, e⟩ := List.getElem_of_mem hf
  have := h i f (by rw [List.getElem?_eq_getElem hi, e])
  exact Fr.out_byt this.2.2.1.byt x hx
theorem Chn.snoc {E S : Int} {fs : List Fr} {f : Fr} (h : Chn E S fs) (he : f.e = E) (hs : f.s = S + fs.length + 1) (ho : f.Ok) (hb : f.b.length ≤ 32) : Chn E S (fs ++ [f]) := by
  intro i g hg
  by_cases hi : i < fs.length
  · rw [List.getElem?_append_left hi] at hg
    exact h i g hg
  · have hi2 : i = fs.length := by
      have := (List.getElem?_eq_some_iff.1 hg).1
      simp at this
      omega
    subst hi2
    simp at hg
    subst hg
    exact ⟨he, hs, ho, hb⟩
/-- What is written one behind the other is scanned as it is. -/
theorem rowF_outs (E : Int) : ∀ (fs : List Fr) (S : Int) (rest : List Int), Chn E S fs → Byt rest → ¬ Goes E (S + fs.length) rest → rowF E S (outs fs ++ rest) = fs
  | [], S, rest, _, _, h => by
    have : rowF E S rest = [] := rowF_stops (by simpa using h)
    simpa [outs] using this
  | f :: fs, S, rest, hc, hr, h => by
    obtain ⟨h1, h2, h3, h4⟩ := hc 0 f rfl
    have e : outs (f :: fs) ++ rest = f.out ++ (outs fs ++ rest) := by simp [outs]
    have hg := getF_out h3 h4 (outs fs ++ rest)
    have hb : Byt (f.out ++ (outs fs ++ rest)) := (Fr.out_byt h3.byt).append (hc.tail.byt.append hr)
    have hgo : Goes E S (f.out ++ (outs fs ++ rest)) := by
      unfold Goes
      rw [hg]
      refine ⟨rfl, h1, by simpa using h2, ?_⟩
      have := h3.s1
      simp at h2
      omega
    rw [e, rowF_goes hb hgo, hg]
    simp only
    rw [List.drop_left' (Fr.out_length f), rowF_outs E fs (S + 1) rest hc.tail hr (by
      rw [show S + 1 + (fs.length : Int) = S + ((f :: fs).length : Int) by simp; omega]; exact h)]
end Go.Proofs.YtofdijaipjkfbaaGreatDoor.Fm
/- What Get's reader gives, step by step, against what Get answers: plain lists. -/
namespace Go.Proofs.YtofdijaipjkfbaaGreatDoor.Fm

theorem rd_bad (xs : List Int) (n : Int) : takeF xs 4 n = ([], xs, 4) := by simp [takeF]
theorem rd_ok (xs : List Int) (k : Nat) (h : k ≤ xs.length) : takeF xs 0 (k : Int) = (xs.take k, xs.drop k, 0) := by
  unfold takeF
  rw [if_neg (by simp), if_neg (by omega), if_neg (by omega), Int.toNat_natCast]
theorem rd_no (xs : List Int) (k : Nat) (h : xs.length < k) : takeF xs 0 (k : Int) = ([], [], 4) := by
  unfold takeF
  rw [if_neg (by simp), if_neg (by omega), if_pos (by omega)]

def rd1 (ys : List Int) : List Int × List Int × Int := takeF ys 0 2
def rd2 (ys : List Int) : List Int × List Int × Int := takeF (rd1 ys).2.1 (rd1 ys).2.2 8
def rd3 (ys : List Int) : List Int × List Int × Int := takeF (rd2 ys).2.1 (rd2 ys).2.2 8
def rd4 (ys : List Int) : List Int × List Int × Int := takeF (rd3 ys).2.1 (rd3 ys).2.2 (leV (rd1 ys).1)
def rd5 (ys : List Int) : List Int × List Int × Int := takeF (rd4 ys).2.1 (rd4 ys).2.2 4

theorem rd_byt {ys : List Int} (h : Byt ys) : Byt (rd1 ys).2.1 ∧ Byt (rd2 ys).2.1 ∧ Byt (rd3 ys).2.1 ∧ Byt (rd4 ys).2.1 := by
  have h1 := (takeF_bytes h 0 2).2
  have h2 := (takeF_bytes (xs := (rd1 ys).2.1) h1 (rd1 ys).2.2 8).2
  have h3 := (takeF_bytes (xs := (rd2 ys).2.1) h2 (rd2 ys).2.2 8).2
  have h4 := (takeF_bytes (xs := (rd3 ys).2.1) h3 (rd3 ys).2.2 (leV (rd1 ys).1)).2
  exact ⟨h1, h2, h3, h4⟩
theorem takeF_len (xs : List Int) (e n : Int) : (takeF xs e n).2.1.length ≤ xs.length := by
  unfold takeF
  split
  · simp
  · split
    · simp
    · split
      · simp
      · simp
theorem rd_len (ys : List Int) : (rd3 ys).2.1.length ≤ ys.length :=
  Nat.le_trans (takeF_len _ _ _) (Nat.le_trans (takeF_len _ _ _) (takeF_len _ _ _))

theorem rd_cases {xs : List Int} (hB : Byt xs) :
    (32 < leV (rd1 (xs.take 54)).1 ∧ getF xs = ⟨noFr, 0, 80⟩) ∨
    (leV (rd1 (xs.take 54)).1 ≤ 32 ∧ (rd5 (xs.take 54)).2.2 = 4 ∧ getF xs = ⟨noFr, 0, 4⟩) ∨
    (∃ L : Nat, leV (rd1 (xs.take 54)).1 = (L : Int) ∧ L ≤ 32 ∧ 22 + L ≤ xs.length ∧ (rd5 (xs.take 54)).2.2 = 0 ∧ (rd4 (xs.take 54)).1.length = L ∧
      getF xs = if leV (rd5 (xs.take 54)).1 ≠ sumI (xs.take (18 + L)) then ⟨noFr, 0, 81⟩ else ⟨⟨leV (rd2 (xs.take 54)).1, leV (rd3 (xs.take 54)).1, (rd4 (xs.take 54)).1⟩, 22 + L, 0⟩) := by
  have hb := blen_cast hB
  by_cases h2 : xs.length < 2
  · have e1 : rd1 (xs.take 54) = ([], [], 4) := rd_no _ 2 (by simp; omega)
    have e2 : rd2 (xs.take 54) = ([], [], 4) := by unfold rd2; rw [e1]; exact rd_bad _ _
    have e3 : rd3 (xs.take 54) = ([], [], 4) := by unfold rd3; rw [e2]; exact rd_bad _ _
    have e4 : rd4 (xs.take 54) = ([], [], 4) := by unfold rd4; rw [e3]; exact rd_bad _ _
    have e5 : rd5 (xs.take 54) = ([], [], 4) := by unfold rd5; rw [e4]; exact rd_bad _ _
    refine Or.inr (Or.inl ⟨by rw [e1]; simp [leV], by rw [e5], ?_⟩)
    unfold getF
    rw [if_pos h2]
  · have e1 : rd1 (xs.take 54) = ((xs.take 54).take 2, (xs.take 54).drop 2, 0) := rd_ok _ 2 (by simp; omega)
    have t2 : (xs.take 54).take 2 = xs.take 2 := by rw [List.take_take]; simp
    have v1 : leV (rd1 (xs.take 54)).1 = (blen xs : Int) := by rw [e1, t2, hb]
    by_cases h3 : 32 < blen xs
    · refine Or.inl ⟨by rw [v1]; omega, ?_⟩
      unfold getF
      rw [if_neg h2, if_pos h3]
    · have hl : ((xs.take 54).drop 2).length = min 54 xs.length - 2 := by simp
      by_cases h4 : xs.length < 22 + blen xs
      · refine Or.inr (Or.inl ⟨by rw [v1]; omega, ?_, by unfold getF; rw [if_neg h2, if_neg h3, if_pos h4]⟩)
        have bad : ∀ {p : List Int × List Int × Int} {n : Int}, p.2.2 = 4 → (takeF p.2.1 p.2.2 n).2.2 = 4 := fun h => by rw [h, rd_bad]
        by_cases a1 : xs.length < 10
        · have e2 : (rd2 (xs.take 54)).2.2 = 4 := by
            unfold rd2; rw [e1]; exact congrArg (fun p => p.2.2) (rd_no ((xs.take 54).drop 2) 8 (by simp; omega))
          exact bad (bad (bad e2))
        · have e2 : rd2 (xs.take 54) = (((xs.take 54).drop 2).take 8, ((xs.take 54).drop 2).drop 8, 0) := by
            unfold rd2; rw [e1]; exact rd_ok _ 8 (by simp; omega)
          by_cases a2 : xs.length < 18
          · have e3 : (rd3 (xs.take 54)).2.2 = 4 := by
              unfold rd3; rw [e2]; exact congrArg (fun p => p.2.2) (rd_no (((xs.take 54).drop 2).drop 8) 8 (by simp; omega))
            exact bad (bad e3)
          · have e3 : rd3 (xs.take 54) = ((((xs.take 54).drop 2).drop 8).take 8, (((xs.take 54).drop 2).drop 8).drop 8, 0) := by
              unfold rd3; rw [e2]; exact rd_ok _ 8 (by simp; omega)
            by_cases a3 : xs.length < 18 + blen xs
            · have e4 : (rd4 (xs.take 54)).2.2 = 4 := by
                unfold rd4; rw [e3, v1]; exact congrArg (fun p => p.2.2) (rd_no ((((xs.take 54).drop 2).drop 8).drop 8) (blen xs) (by simp; omega))
              exact bad e4
            · have e4 : rd4 (xs.take 54) = (((((xs.take 54).drop 2).drop 8).drop 8).take (blen xs), ((((xs.take 54).drop 2).drop 8).drop 8).drop (blen xs), 0) := by
                unfold rd4; rw [e3, v1]; exact rd_ok _ _ (by simp; omega)
              unfold rd5; rw [e4]; exact congrArg (fun p => p.2.2) (rd_no (((((xs.take 54).drop 2).drop 8).drop 8).drop (blen xs)) 4 (by simp; omega))
      · have e2 : rd2 (xs.take 54) = (((xs.take 54).drop 2).take 8, ((xs.take 54).drop 2).drop 8, 0) := by
          unfold rd2; rw [e1]; exact rd_ok _ 8 (by simp; omega)
        have e3 : rd3 (xs.take 54) = ((((xs.take 54).drop 2).drop 8).take 8, (((xs.take 54).drop 2).drop 8).drop 8, 0) := by
          unfold rd3; rw [e2]; exact rd_ok _ 8 (by simp; omega)
        have e4 : rd4 (xs.take 54) = (((((xs.take 54).drop 2).drop 8).drop 8).take (blen xs), ((((xs.take 54).drop 2).drop 8).drop 8).drop (blen xs), 0) := by
          unfold rd4; rw [e3, v1]; exact rd_ok _ _ (by simp; omega)
        have e5 : rd5 (xs.take 54) = ((((((xs.take 54).drop 2).drop 8).drop 8).drop (blen xs)).take 4, (((((xs.take 54).drop 2).drop 8).drop 8).drop (blen xs)).drop 4, 0) := by
          unfold rd5; rw [e4]; exact rd_ok _ 4 (by simp; omega)
        have td : ∀ a b : Nat, a + b ≤ 54 → ((xs.take 54).drop a).take b = (xs.drop a).take b := by
          intro a b hab
          rw [List.drop_take, List.take_take, Nat.min_eq_left (by omega)]
        refine Or.inr (Or.inr ⟨blen xs, v1, by omega, by omega, by rw [e5], by rw [e4]; simp; omega, ?_⟩)
        have g5 : (rd5 (xs.take 54)).1 = (xs.drop (18 + blen xs)).take 4 := by
          rw [e5]; simp only [List.drop_drop]; rw [← td _ 4 (by omega)]
        have g2 : (rd2 (xs.take 54)).1 = (xs.drop 2).take 8 := by rw [e2]; exact td 2 8 (by omega)
        have g3 : (rd3 (xs.take 54)).1 = (xs.drop 10).take 8 := by rw [e3]; simp only [List.drop_drop]; exact td 10 8 (by omega)
        have g4 : (rd4 (xs.take 54)).1 = (xs.drop 18).take (blen xs) := by rw [e4]; simp only [List.drop_drop]; exact td 18 _ (by omega)
        rw [g5, g2, g3, g4]
        unfold getF
        rw [if_neg h2, if_neg h3, if_neg h4]
end Go.Proofs.YtofdijaipjkfbaaGreatDoor.Fm
/- The contracts of frame's own calls: Size, Put. -/
namespace Go.Proofs.YtofdijaipjkfbaaGreatDoor.Fm
open Go.RowKit
attribute [local go_sem ↓] Go.wp_at_zero Go.wp_at_succ

/-- The table of crc. -/
abbrev Tab (w : World) : Prop := Cr.Tab w

theorem At.nats {w : World} {ao : Option Addr} {xs : List Int} (h : At w ao xs) (hB : Byt xs) : Cr.At w ao (nats xs) := by
  intro j u hu
  simp only [Go.Proofs.YtofdijaipjkfbaaGreatDoor.Fm.nats, List.getElem?_map] at hu
  cases hj : xs[j]? with
  | none => simp [hj] at hu
  | some x =>
    simp [hj] at hu
    obtain ⟨a, ha, hc⟩ := h j x hj
    refine ⟨a, ha, ?_⟩
    have hx := hB x (List.mem_of_getElem? hj)
    rw [hc, ← hu]
    have : ((x.toNat : Nat) : Int) = x := by omega
    rw [this]

theorem sum_any (ao : Option Addr) (n c : Nat) (xs : List Int) (w : World) (hn : xs.length = n) (hx : Byt xs) (hat : At w ao xs) (hT : Tab w) (hm : n ≤ 4611686018427387904) :
    Calls Tryz.prog 107 #[.slice ao n c] w fun e w' => e = .returned (.int .u32 (sumI xs)) ∧ w' = w :=
  Cr.sum_any ao n c (nats xs) w (by rw [nats_length, hn]) (nats_lt hx) (hat.nats hx) hT hm

/-- Size. -/
def sizeF (n : Int) : Int := if n < 0 ∨ 32 < n then 0 else 22 + n
set_option maxHeartbeats 400000 in
theorem size_any (n : Int) (w : World) (_h0 : -9223372036854775808 ≤ n) (_h1 : n ≤ 9223372036854775807) : Calls Tryz.prog 91 #[.int .i64 n] w fun e w' => e = .returned (.int .i64 (sizeF n)) ∧ w.grownBy w' none := by
  by_cases h : n < 0
  · have e : sizeF n = 0 := by unfold sizeF; rw [if_pos (Or.inl h)]
    rw [e]
    go_enter Tryz.func91, Tryz.ntmps91
    go_wp2
    go_ret
    exact ⟨rfl, grown_refl _ _⟩
  · by_cases h2 : 32 < n
    · have e : sizeF n = 0 := by unfold sizeF; rw [if_pos (Or.inr h2)]
      rw [e]
      go_enter Tryz.func91, Tryz.ntmps91
      go_wp2
      go_ret
      exact ⟨rfl, grown_refl _ _⟩
    · have e : sizeF n = 22 + n := by unfold sizeF; rw [if_neg (by omega)]
      rw [e]
      go_enter Tryz.func91, Tryz.ntmps91
      go_wp2
      go_ret
      exact ⟨by go_num, grown_refl _ _⟩

/-- A frame's cells, handed by its value. -/
def frV (e s : Int) (v : Value) : Value := .agg #[.int .u64 e, .int .u64 s, v]

set_option maxHeartbeats 1000000 in
theorem put_long (e s : Int) (ao : Option Addr) (n cap : Nat) (w : World) (hn : 32 < n) (hm : n ≤ 4611686018427387904) :
    Calls Tryz.prog 69 #[frV e s (.slice ao n cap)] w fun r w' => r = .returned (.tuple #[.slice none 0 0, .int .i64 3]) ∧ w.grownBy w' none := by
  unfold frV
  go_enter Tryz.func69, Tryz.ntmps69
  go_wp2
  go_ret2
  exact ⟨rfl, World.grownBy_alloc w _ none⟩

/-- Where bytes lie, if there are any. -/
def liveA (ao : Option Addr) (xs : List Int) : Option Addr := if xs = [] then none else ao
theorem liveA_some {ao : Option Addr} {xs : List Int} {a : Addr} (h : liveA ao xs = some a) : ao = some a ∧ xs ≠ [] := by
  unfold liveA at h
  split at h
  · cases h
  · rename_i h1; exact ⟨h, h1⟩
theorem At.live {w : World} {ao : Option Addr} {xs : List Int} (h : At w ao xs) {a : Addr} (ha : liveA ao xs = some a) : a.block < w.heap.size := by
  obtain ⟨h1, h2⟩ := liveA_some ha
  cases xs with
  | nil => exact absurd rfl h2
  | cons x r =>
    obtain ⟨a', ha', hc⟩ := h 0 x rfl
    rw [h1] at ha'
    cases ha'
    have hb : (a.add 0).block = a.block := addr_add_block a 0
    unfold World.cell? at hc
    rw [hb] at hc
    cases ho : w.heap[a.block]? with
    | none => rw [ho] at hc; simp at hc
    | some o => exact row_lt ho

set_option maxHeartbeats 400000 in
theorem behind_zero (g : Nat) (ao : Option Addr) (cap : Nat) (w : World) : Calls Tryz.prog 150 #[.pointer (some ⟨g, 0, none⟩), .slice ao 0 cap] w fun e w' => e = .returned (.tuple #[]) ∧ w' = w := by
  go_enter Tryz.func150, Tryz.ntmps150
  go_wp2
  go_loopg [1] 0 (fun _ v wr => v = .slice ao 0 cap ∧ wr = w)
  case atStart => exact ⟨rfl, rfl⟩
  case round =>
    obtain ⟨rfl, rfl⟩ := hrel
    go_wp2
    go_end0
    exact ⟨rfl, rfl⟩
set_option maxHeartbeats 400000 in
theorem put_zero (g : Nat) (ao : Option Addr) (cap : Nat) (w : World) : Calls Tryz.prog 105 #[.pointer (some ⟨g, 0, none⟩), .slice ao 0 cap] w fun e w' => e = .returned (.tuple #[]) ∧ w' = w := by
  go_enter Tryz.func105, Tryz.ntmps105
  go_wp2_with fail
  refine (behind_zero g ao cap w).mono ?_
  rintro e w1 ⟨rfl, rfl⟩
  go_wp2
  go_end0
  exact ⟨rfl, rfl⟩
theorem put_live (g n : Nat) (bs xs : List Int) (ao : Option Addr) (cap : Nat) (w : World) (hW : WrAt w g bs) (hn : xs.length = n) (hs : At w ao xs) (hoff : ∀ a, liveA ao xs = some a → a.block ≠ g) (hnc : n ≤ cap) (hcm : cap ≤ maxLen) (hL : bs.length + n ≤ 4611686018427387904) :
    Calls Tryz.prog 105 #[.pointer (some ⟨g, 0, none⟩), .slice ao n cap] w fun e w' => e = .returned (.tuple #[]) ∧ WrAt w' g (bs ++ xs) ∧ w.grownBy w' (some g) := by
  by_cases h0 : xs = []
  · subst h0
    obtain rfl : n = 0 := hn.symm
    refine (put_zero g ao cap w).mono ?_
    rintro e w1 ⟨rfl, rfl⟩
    exact ⟨rfl, by simpa using hW, grown_refl _ _⟩
  · refine put_any g n bs xs ao cap w hW hn hs (fun a ha => hoff a ?_) hnc hcm hL
    unfold liveA
    rw [if_neg h0]
    exact ha

/-- Where bytes lie, below a bound. -/
def Lies (w : World) (ao : Option Addr) : Prop := ∀ a, ao = some a → a.block < w.heap.size
theorem Lies.off {w : World} {ao : Option Addr} (h : Lies w ao) {g : Nat} (hg : w.heap.size ≤ g) : Off ao g := fun a ha => by have := h a ha; omega
theorem head_parts (f : Fr) : [] ++ leB (f.b.length : Int) 2 ++ leB f.e 8 ++ leB f.s 8 ++ f.b = f.head := by simp [Fr.head]

/-- Inside Put: the frame in its box B, the Writer behind it. -/
structure PutS (w wr : World) (B : Nat) (E S : Int) (v : Value) (bs : List Int) : Prop where
  box : wr.heap[B]? = some (.cells [Value.int .u64 E, .int .u64 S, v].toArray 104 (0, 0))
  wra : WrAt wr (B + 1) bs
  gr : w.grownBy wr none
theorem PutS.next {w wr wr' : World} {B : Nat} {E S : Int} {v : Value} {bs bs' : List Int} (h : PutS w wr B E S v bs) (hB : w.heap.size ≤ B) (hW : WrAt wr' (B + 1) bs') (hg : wr.grownBy wr' (some (B + 1))) : PutS w wr' B E S v bs' :=
  ⟨(hg.block B (row_lt h.box) (by simp)).trans h.box, hW, grown_then h.gr hg (fun j e => by cases e; exact Or.inl (by omega))⟩
theorem PutS.grown {w wr wr' : World} {B : Nat} {E S : Int} {v : Value} {bs : List Int} (h : PutS w wr B E S v bs) (hg : wr.grownBy wr' none) : PutS w wr' B E S v bs :=
  ⟨(hg.block B (row_lt h.box) (by simp)).trans h.box, h.wra.kept hg (by simp) (NoBlock.none _), grown_trans h.gr hg⟩
theorem PutS.start {w : World} {E S : Int} {v : Value} : PutS w ((w.alloc (.cells #[.int .u64 E, .int .u64 S, v] 104)).alloc (.cells Tryz.zeroCells161 161)) w.heap.size E S v [] := by
  have h1 := wr_zero (w.alloc (.cells #[.int .u64 E, .int .u64 S, v] 104))
  rw [World.size_alloc] at h1
  refine ⟨?_, h1, grown_trans (World.grownBy_alloc w _ none) (World.grownBy_alloc _ _ none)⟩
  exact (Below.heap_alloc _ _ _ (by simp)).trans (heap_alloc_new w _)

set_option maxHeartbeats 2000000 in
theorem fput_any (f : Fr) (hf : f.Ok) (hl : f.b.length ≤ 32) (ao : Option Addr) (n cap : Nat) (w : World) (hn : f.b.length = n) (hat : At w ao f.b) (hc : n ≤ cap) (hcm : cap ≤ maxLen) (hT : Tab w) (hw : 0 < w.heap.size) :
    Calls Tryz.prog 69 #[frV f.e f.s (.slice ao n cap)] w fun r w' => ∃ g, r = .returned (.tuple #[.slice (some ⟨g, 0, none⟩) (22 + n) (22 + n), .int .i64 0]) ∧ w.heap.size ≤ g ∧ w'.heap[g]? = some (.cells (f.out.map (Value.int .u8)).toArray 5 (0, 0)) ∧ w.grownBy w' none := by
  unfold frV
  have HF := hide (And.intro hf (And.intro hn (And.intro hat (And.intro hc (And.intro hcm (And.intro hT hw))))))
  have hn32 : n ≤ 32 := by omega
  clear hf hl hat hc hcm hT hw hn
  have P0 : Hid (PutS w ((w.alloc (.cells #[.int .u64 f.e, .int .u64 f.s, .slice ao n cap] 104)).alloc (.cells Tryz.zeroCells161 161)) w.heap.size f.e f.s (.slice ao n cap) []) := PutS.start
  have HB : Hid (w.heap.size ≤ w.heap.size) := Nat.le_refl _
  go_enter Tryz.func69, Tryz.ntmps69
  go_wp2_with fail
  generalize ((w.alloc (.cells #[.int .u64 f.e, .int .u64 f.s, .slice ao n cap] 104)).alloc (.cells Tryz.zeroCells161 161)) = w1 at *
  obtain ⟨B, hB⟩ : ∃ B, B = w.heap.size := ⟨_, rfl⟩
  rw [← hB] at P0 ⊢
  replace HB : Hid (w.heap.size ≤ B) := Nat.le_of_eq hB.symm
  clear hB
  refine (two_any (B + 1) [] n w1 P0.out.wra (by omega) (by omega) (by simp)).mono ?_
  rintro e w2 ⟨rfl, hW, hg⟩
  have P2 := hide (P0.out.next HB.out hW hg)
  clear hW hg P0
  have c0 := cell_row P2.out.box 0
  have c1 := cell_row P2.out.box 1
  have c2 := cell_row P2.out.box 2
  simp only [List.getElem?_cons_zero, List.getElem?_cons_succ] at c0 c1 c2
  go_wp2_with fail
  refine (eight_any (B + 1) _ f.e w2 P2.out.wra HF.out.1.e0 HF.out.1.e1 (by simp [leB_length])).mono ?_
  rintro e w3 ⟨rfl, hW, hg⟩
  have P3 := hide (P2.out.next HB.out hW hg)
  clear hW hg P2 c0 c1 c2
  have c0 := cell_row P3.out.box 0
  have c1 := cell_row P3.out.box 1
  have c2 := cell_row P3.out.box 2
  simp only [List.getElem?_cons_zero, List.getElem?_cons_succ] at c0 c1 c2
  go_wp2_with fail
  refine (eight_any (B + 1) _ f.s w3 P3.out.wra HF.out.1.s0 HF.out.1.s1 (by simp [leB_length])).mono ?_
  rintro e w4 ⟨rfl, hW, hg⟩
  have P4 := hide (P3.out.next HB.out hW hg)
  clear hW hg P3 c0 c1 c2
  have c0 := cell_row P4.out.box 0
  have c1 := cell_row P4.out.box 1
  have c2 := cell_row P4.out.box 2
  simp only [List.getElem?_cons_zero, List.getElem?_cons_succ] at c0 c1 c2
  go_wp2_with fail
  refine (put_live (B + 1) n _ f.b ao cap w4 P4.out.wra HF.out.2.1 (HF.out.2.2.1.kept P4.out.gr (fun _ _ e => by cases e)) (fun a ha => by have := HF.out.2.2.1.live ha; have := HB.out; omega) HF.out.2.2.2.1 HF.out.2.2.2.2.1 (by simp [leB_length]; omega)).mono ?_
  rintro e w5 ⟨rfl, hW, hg⟩
  rw [← HF.out.2.1, head_parts] at hW
  have P5 := hide (P4.out.next HB.out hW hg)
  clear hW hg P4 c0 c1 c2
  have hbh := hide (Fr.head_byt HF.out.1.byt)
  go_wp2_with fail
  refine (out_any (B + 1) f.head w5 P5.out.wra (by rw [f.head_length, HF.out.2.1]; omega)).mono ?_
  rintro e w6 ⟨rfl, hr, hg⟩
  have P6 := hide (P5.out.grown hg)
  have HR := hide hr
  have T6 : Hid (Tab w6) := HF.out.2.2.2.2.2.1.grown P6.out.gr
  clear hr hg
  go_wp2_with fail
  refine (sum_any _ _ _ f.head w6 rfl hbh.out (at_row HR.out) T6.out (by rw [f.head_length, HF.out.2.1]; omega)).mono ?_
  rintro e w7 ⟨rfl, rfl⟩
  have hs := sumI_lt hbh.out
  go_wp2_with fail
  refine (four_any (B + 1) f.head (sumI f.head) w7 P6.out.wra hs.1 hs.2 (by rw [f.head_length, HF.out.2.1]; omega)).mono ?_
  rintro e w8 ⟨rfl, hW, hg⟩
  have P8 := hide (P6.out.next HB.out hW hg)
  clear hW hg P6 P5 HR T6
  go_wp2_with fail
  refine (out_any (B + 1) _ w8 P8.out.wra (by simp [leB_length, f.head_length, HF.out.2.1]; omega)).mono ?_
  rintro e w9 ⟨rfl, hr, hg⟩
  have hlen := f.out_length
  rw [HF.out.2.1] at hlen
  rw [show f.head ++ leB (sumI f.head) 4 = f.out from rfl] at hr ⊢
  rw [hlen]
  have HR := hide (And.intro hr hg)
  clear hr hg hs
  go_wp2
  go_ret2
  exact ⟨_, rfl, P8.out.gr.size, HR.out.1, grown_trans P8.out.gr HR.out.2⟩
end Go.Proofs.YtofdijaipjkfbaaGreatDoor.Fm
