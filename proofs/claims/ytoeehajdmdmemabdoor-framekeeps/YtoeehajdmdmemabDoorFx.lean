/- Frames as bytes, and rows of frames: plain lists, without the program. -/
import Derived.Test.YtoeehajdmdmemabDoorNum
import Derived.Test.YtoeehajdmdmemabDoorCPoly2
namespace Go.Proofs.YtoeehajdmdmemabDoor

/-- Bytes as natural numbers. -/
def nats (xs : List Int) : List Nat := xs.map Int.toNat
/-- The sum of bytes. -/
def sumI (xs : List Int) : Int := ((Cr.Poly.more 0 (nats xs) : Nat) : Int)
theorem nats_length (xs : List Int) : (nats xs).length = xs.length := by simp [nats]
theorem nats_lt {xs : List Int} (h : Byt xs) : ∀ x ∈ nats xs, x < 256 := by
  intro x hx
  simp only [nats, List.mem_map] at hx
  obtain ⟨y, hy, rfl⟩ := hx
  have := h y hy
  omega
theorem sumI_lt {xs : List Int} (h : Byt xs) : 0 ≤ sumI xs ∧ sumI xs < 4294967296 := by
  have := Cr.Poly.more_lt (s := 0) (nats xs) (by decide) (nats_lt h)
  unfold sumI
  omega

/-- A frame: its epoch, its number, its body. -/
structure Fr where
  e : Int
  s : Int
  b : List Int
/-- The numbers and bytes of a frame are such. -/
structure Fr.Ok (f : Fr) : Prop where
  e0 : 0 ≤ f.e
  e1 : f.e < 18446744073709551616
  s0 : 0 ≤ f.s
  s1 : f.s < 18446744073709551616
  byt : Byt f.b
def noFr : Fr := ⟨0, 0, []⟩
theorem noFr_ok : noFr.Ok := ⟨by decide, by decide, by decide, by decide, fun x hx => by cases hx⟩
/-- A frame's bytes ahead of its sum; all its bytes. -/
def Fr.head (f : Fr) : List Int := leB f.b.length 2 ++ (leB f.e 8 ++ (leB f.s 8 ++ f.b))
def Fr.out (f : Fr) : List Int := f.head ++ leB (sumI f.head) 4
theorem Fr.head_length (f : Fr) : f.head.length = 18 + f.b.length := by simp [Fr.head, leB_length]; omega
theorem Fr.out_length (f : Fr) : f.out.length = 22 + f.b.length := by simp [Fr.out, leB_length, Fr.head_length]; omega
theorem Fr.head_byt {f : Fr} (h : Byt f.b) : Byt f.head := (byt_leB _ _).append ((byt_leB _ _).append ((byt_leB _ _).append h))
theorem Fr.out_byt {f : Fr} (h : Byt f.b) : Byt f.out := (Fr.head_byt h).append (byt_leB _ _)

/-- What Get answers: the frame, how many bytes it has, the error. -/
structure Got where
  f : Fr
  n : Nat
  c : Int
/-- The length that the first two bytes say. -/
def blen (xs : List Int) : Nat := (leV (xs.take 2)).toNat
def getF (xs : List Int) : Got :=
  if xs.length < 2 then ⟨noFr, 0, 4⟩
  else if 32 < blen xs then ⟨noFr, 0, 80⟩
  else if xs.length < 22 + blen xs then ⟨noFr, 0, 4⟩
  else if leV ((xs.drop (18 + blen xs)).take 4) ≠ sumI (xs.take (18 + blen xs)) then ⟨noFr, 0, 81⟩
  else ⟨⟨leV ((xs.drop 2).take 8), leV ((xs.drop 10).take 8), (xs.drop 18).take (blen xs)⟩, 22 + blen xs, 0⟩

theorem getF_err {xs : List Int} (h : (getF xs).c ≠ 0) : (getF xs).f = noFr ∧ (getF xs).n = 0 := by
  unfold getF at h ⊢
  split
  · exact ⟨rfl, rfl⟩
  · split
    · exact ⟨rfl, rfl⟩
    · split
      · exact ⟨rfl, rfl⟩
      · split
        · exact ⟨rfl, rfl⟩
        · simp_all
theorem getF_code (xs : List Int) : (getF xs).c = 0 ∨ (getF xs).c = 4 ∨ (getF xs).c = 80 ∨ (getF xs).c = 81 := by
  unfold getF
  split
  · simp
  · split
    · simp
    · split
      · simp
      · split <;> simp

/-- Bytes are those of the number that they say. -/
theorem leB_leV : ∀ (xs : List Int), Byt xs → leB (leV xs) xs.length = xs
  | [], _ => rfl
  | x :: r, h => by
    have ih := leB_leV r h.tail
    have hx := h x (List.mem_cons_self ..)
    have h0 := (leV_bound r h.tail).1
    rw [List.length_cons]
    simp only [leB] at ih ⊢
    rw [List.range_succ_eq_map, List.map_cons, List.map_map]
    have e0 : leV (x :: r) / 2 ^ (8 * 0) % 256 = x := by simp [leV]; omega
    rw [e0]
    congr 1
    have hmap : (List.range r.length).map ((fun j => leV (x :: r) / 2 ^ (8 * j) % 256) ∘ Nat.succ) = (List.range r.length).map (fun j => leV r / 2 ^ (8 * j) % 256) := by
      apply List.map_congr_left
      intro j _
      simp only [Function.comp, Nat.succ_eq_add_one]
      rw [pow_succ8]
      have e1 : leV (x :: r) / (256 * 2 ^ (8 * j)) = leV r / 2 ^ (8 * j) := by
        rw [← Int.ediv_ediv_of_nonneg (by decide : (0 : Int) ≤ 256)]
        congr 1
        simp only [leV]
        omega
      rw [e1]
    rw [hmap]
    exact ih

theorem leV_inj {xs ys : List Int} (hx : Byt xs) (hy : Byt ys) (hl : xs.length = ys.length) (h : leV xs = leV ys) : xs = ys := by
  rw [← leB_leV xs hx, ← leB_leV ys hy, h, hl]

theorem leV_leB' {N : Int} {k : Nat} (h0 : 0 ≤ N) (h1 : N < 2 ^ (8 * k)) : leV (leB N k) = N := by
  rw [leV_leB N h0 k]; exact Int.emod_eq_of_lt h0 h1

theorem take_drop_cat (xs : List Int) (a b : Nat) : xs.take (a + b) = xs.take a ++ (xs.drop a).take b := List.take_add ..

theorem blen_cast {xs : List Int} (h : Byt xs) : ((blen xs : Nat) : Int) = leV (xs.take 2) := by
  have := (leV_bound (xs.take 2) (h.take 2)).1
  unfold blen
  omega

/-- What is read is written so. -/
theorem getF_ok {xs : List Int} (hB : Byt xs) (h : (getF xs).c = 0) :
    (getF xs).f.Ok ∧ (getF xs).f.b.length ≤ 32 ∧ (getF xs).n = 22 + (getF xs).f.b.length ∧ (getF xs).n ≤ xs.length ∧ xs.take (getF xs).n = (getF xs).f.out := by
  have hb := blen_cast hB
  unfold getF at h ⊢
  split at h
  · simp at h
  · split at h
    · simp at h
    · split at h
      · simp at h
      · split at h
        · simp at h
        · rename_i h1 h2 h3 h4
          rw [if_neg h1, if_neg h2, if_neg h3, if_neg h4]
          simp only
          have h4' : leV ((xs.drop (18 + blen xs)).take 4) = sumI (xs.take (18 + blen xs)) := Classical.byContradiction h4
          have hl : ((xs.drop 18).take (blen xs)).length = blen xs := by simp; omega
          have l8 : ((xs.drop 2).take 8).length = 8 := by simp; omega
          have l8' : ((xs.drop 10).take 8).length = 8 := by simp; omega
          have b8 := leV_bound _ ((hB.drop 2).take 8)
          have b8' := leV_bound _ ((hB.drop 10).take 8)
          rw [l8] at b8
          rw [l8'] at b8'
          have e2 : leB (leV (xs.take 2)) 2 = xs.take 2 := by
            have := leB_leV _ (hB.take 2)
            rwa [show (xs.take 2).length = 2 by simp; omega] at this
          have e8 : leB (leV ((xs.drop 2).take 8)) 8 = (xs.drop 2).take 8 := by
            have := leB_leV _ ((hB.drop 2).take 8)
            rwa [l8] at this
          have e8' : leB (leV ((xs.drop 10).take 8)) 8 = (xs.drop 10).take 8 := by
            have := leB_leV _ ((hB.drop 10).take 8)
            rwa [l8'] at this
          have e4 : leB (leV ((xs.drop (18 + blen xs)).take 4)) 4 = (xs.drop (18 + blen xs)).take 4 := by
            have := leB_leV _ ((hB.drop (18 + blen xs)).take 4)
            rwa [show ((xs.drop (18 + blen xs)).take 4).length = 4 by simp; omega] at this
          have hh : Fr.head ⟨leV ((xs.drop 2).take 8), leV ((xs.drop 10).take 8), (xs.drop 18).take (blen xs)⟩ = xs.take (18 + blen xs) := by
            unfold Fr.head
            simp only
            rw [hl, hb, e2, e8, e8', show 18 + blen xs = 2 + (8 + (8 + blen xs)) by omega, take_drop_cat, take_drop_cat, take_drop_cat]
            simp [List.drop_drop]
          refine ⟨⟨b8.1, b8.2, b8'.1, b8'.2, (hB.drop 18).take _⟩, by rw [hl]; omega, by rw [hl], by omega, ?_⟩
          unfold Fr.out
          rw [hh, ← h4', e4, show 22 + blen xs = (18 + blen xs) + 4 by omega, take_drop_cat]

/-- What is written is read, whatever stands behind. -/
theorem getF_out {f : Fr} (hf : f.Ok) (hl : f.b.length ≤ 32) (rest : List Int) : getF (f.out ++ rest) = ⟨f, 22 + f.b.length, 0⟩ := by
  have hlen := f.out_length
  have t2 : (f.out ++ rest).take 2 = leB f.b.length 2 := by
    simp only [Fr.out, Fr.head, List.append_assoc]
    exact List.take_left' (leB_length _ _)
  have d2 : (f.out ++ rest).drop 2 = leB f.e 8 ++ (leB f.s 8 ++ (f.b ++ (leB (sumI f.head) 4 ++ rest))) := by
    conv => lhs; simp only [Fr.out, Fr.head, List.append_assoc]
    exact List.drop_left' (leB_length _ _)
  have d10 : (f.out ++ rest).drop 10 = leB f.s 8 ++ (f.b ++ (leB (sumI f.head) 4 ++ rest)) := by
    rw [show 10 = 2 + 8 from rfl, ← List.drop_drop, d2]
    exact List.drop_left' (leB_length _ _)
  have d18 : (f.out ++ rest).drop 18 = f.b ++ (leB (sumI f.head) 4 ++ rest) := by
    rw [show 18 = 10 + 8 from rfl, ← List.drop_drop, d10]
    exact List.drop_left' (leB_length _ _)
  have dl : (f.out ++ rest).drop (18 + f.b.length) = leB (sumI f.head) 4 ++ rest := by
    rw [← List.drop_drop, d18]
    exact List.drop_left' rfl
  have tl : (f.out ++ rest).take (18 + f.b.length) = f.head := by
    unfold Fr.out
    rw [List.append_assoc]
    exact List.take_left' f.head_length
  have hs := sumI_lt (Fr.head_byt hf.byt)
  have hbl : blen (f.out ++ rest) = f.b.length := by
    unfold blen
    rw [t2, leV_leB' (by omega) (by omega)]
    simp
  unfold getF
  rw [hbl, dl, tl, d18, d10, d2]
  rw [if_neg (by simp; omega), if_neg (by omega), if_neg (by simp; omega)]
  rw [List.take_left' (leB_length _ _), leV_leB' hs.1 (by omega), if_neg (by simp)]
  rw [List.take_left' (leB_length _ _), List.take_left' (leB_length _ _), List.take_left' rfl, leV_leB' hf.e0 hf.e1, leV_leB' hf.s0 hf.s1]

/-- What begins with a frame that is read of a beginning. -/
theorem getF_pre {xs ys : List Int} (hB : Byt xs) (h : (getF xs).c = 0) : getF (xs ++ ys) = getF xs := by
  obtain ⟨h1, h2, h3, h4, h5⟩ := getF_ok hB h
  have e : xs ++ ys = (getF xs).f.out ++ (xs.drop (getF xs).n ++ ys) := by
    rw [← List.append_assoc, ← h5, List.take_append_drop]
  rw [e, getF_out h1 h2]
  rcases hg : getF xs with ⟨f, n, c⟩
  rw [hg] at h3 h
  simp only at h3 h
  rw [h3, h]

/-- The frame goes on with the row. -/
def Goes (E S : Int) (xs : List Int) : Prop := (getF xs).c = 0 ∧ (getF xs).f.e = E ∧ (getF xs).f.s = S + 1 ∧ S + 1 < 18446744073709551616
instance (E S : Int) (xs : List Int) : Decidable (Goes E S xs) := by unfold Goes; exact inferInstance
def rowN (E : Int) : Nat → Int → List Int → List Fr
  | 0, _, _ => []
  | k + 1, S, xs => if Goes E S xs then (getF xs).f :: rowN E k (S + 1) (xs.drop (getF xs).n) else []
/-- The row of frames at the begin of xs. -/
def rowF (E S : Int) (xs : List Int) : List Fr := rowN E xs.length S xs

theorem goes_len {E S : Int} {xs : List Int} (hB : Byt xs) (h : Goes E S xs) : 22 ≤ (getF xs).n ∧ (getF xs).n ≤ xs.length := by
  obtain ⟨_, _, h3, h4, _⟩ := getF_ok hB h.1
  omega
theorem rowN_more (E : Int) : ∀ (k m : Nat) (S : Int) (xs : List Int), Byt xs → xs.length ≤ k → xs.length ≤ m → rowN E k S xs = rowN E m S xs
  | 0, 0, _, _, _, _, _ => rfl
  | 0, m + 1, S, xs, hB, h, _ => by
    have hn : ¬ Goes E S xs := fun hg => by have := goes_len hB hg; omega
    simp only [rowN, if_neg hn]
  | k + 1, 0, S, xs, hB, _, h => by
    have hn : ¬ Goes E S xs := fun hg => by have := goes_len hB hg; omega
    simp only [rowN, if_neg hn]
  | k + 1, m + 1, S, xs, hB, h1, h2 => by
    simp only [rowN]
    split
    · rename_i hg
      have := goes_len hB hg
      rw [rowN_more E k m (S + 1) _ (hB.drop _) (by simp; omega) (by simp; omega)]
    · rfl
theorem rowF_goes {E S : Int} {xs : List Int} (hB : Byt xs) (h : Goes E S xs) : rowF E S xs = (getF xs).f :: rowF E (S + 1) (xs.drop (getF xs).n) := by
  have hl := goes_len hB h
  unfold rowF
  obtain ⟨k, hk⟩ : ∃ k, xs.length = k + 1 := ⟨xs.length - 1, by omega⟩
  rw [hk, rowN, if_pos h, rowN_more E k _ (S + 1) _ (hB.drop _) (by simp; omega) (Nat.le_refl _)]
theorem rowF_stops {E S : Int} {xs : List Int} (h : ¬ Goes E S xs) : rowF E S xs = [] := by
  unfold rowF
  cases xs.length with
  | zero => rfl
  | succ k => rw [rowN, if_neg h]

/-- How many bytes frames have. -/
def fend : List Fr → Nat
  | [] => 0
  | f :: fs => 22 + f.b.length + fend fs
theorem fend_append : ∀ (fs gs : List Fr), fend (fs ++ gs) = fend fs + fend gs
  | [], gs => by simp [fend]
  | f :: fs, gs => by simp only [List.cons_append, fend, fend_append fs gs]; omega
theorem fend_snoc (fs : List Fr) (f : Fr) : fend (fs ++ [f]) = fend fs + (22 + f.b.length) := by rw [fend_append]; simp [fend]
theorem fend_len : ∀ (fs : List Fr), 22 * fs.length ≤ fend fs
  | [] => by simp [fend]
  | f :: fs => by have := fend_len fs; simp only [fend, List.length_cons]; omega

/-- Where a walk over the row stands behind the frames pre. -/
structure RowInv (E S : Int) (xs : List Int) (pre : List Fr) : Prop where
  row : pre ++ rowF E (S + pre.length) (xs.drop (fend pre)) = rowF E S xs
  fits : fend pre ≤ xs.length
  top : S + pre.length < 18446744073709551616
theorem RowInv.start {E S : Int} {xs : List Int} (h : S < 18446744073709551616) : RowInv E S xs [] := ⟨by simp [fend], by simp [fend], by simpa using h⟩
theorem RowInv.step {E S : Int} {xs : List Int} {pre : List Fr} (hB : Byt xs) (h : RowInv E S xs pre) (hg : Goes E (S + pre.length) (xs.drop (fend pre))) :
    RowInv E S xs (pre ++ [(getF (xs.drop (fend pre))).f]) ∧ (getF (xs.drop (fend pre))).f.Ok ∧ (getF (xs.drop (fend pre))).f.b.length ≤ 32 ∧ (getF (xs.drop (fend pre))).n = 22 + (getF (xs.drop (fend pre))).f.b.length := by
  obtain ⟨h1, h2, h3, h4, h5⟩ := getF_ok (hB.drop (fend pre)) hg.1
  have hr := h.row
  rw [rowF_goes (hB.drop _) hg] at hr
  rw [List.length_drop] at h4
  refine ⟨⟨?_, ?_, ?_⟩, h1, h2, h3⟩
  · rw [fend_snoc, ← h3, ← List.drop_drop, List.length_append, List.append_assoc]
    rw [← hr]
    simp only [List.length_singleton, List.singleton_append]
    rw [show S + ((pre.length + 1 : Nat) : Int) = S + (pre.length : Int) + 1 by omega]
  · have := h.fits
    rw [fend_snoc]
    omega
  · have := hg.2.2.2
    simp
    omega
theorem RowInv.stop {E S : Int} {xs : List Int} {pre : List Fr} (h : RowInv E S xs pre) (hg : ¬ Goes E (S + pre.length) (xs.drop (fend pre))) : rowF E S xs = pre := by
  have hr := h.row
  rw [rowF_stops hg, List.append_nil] at hr
  exact hr.symm
theorem RowInv.pre {E S : Int} {xs : List Int} {pre : List Fr} (h : RowInv E S xs pre) : pre <+: rowF E S xs := ⟨_, h.row⟩

/-- Every frame of a row: its epoch, its number, its bytes. -/
theorem rowF_all (E : Int) : ∀ (k : Nat) (S : Int) (xs : List Int), xs.length ≤ k → Byt xs → ∀ (i : Nat) (f : Fr), (rowF E S xs)[i]? = some f → f.e = E ∧ f.s = S + i + 1 ∧ f.Ok ∧ f.b.length ≤ 32
  | k, S, xs, hk, hB, i, f, hf => by
    by_cases hg : Goes E S xs
    · rw [rowF_goes hB hg] at hf
      obtain ⟨h1, h2, h3, h4, _⟩ := getF_ok hB hg.1
      cases i with
      | zero => simp at hf; subst hf; exact ⟨hg.2.1, by rw [hg.2.2.1]; simp, h1, h2⟩
      | succ i =>
        simp at hf
        match k, hk with
        | 0, hk => omega
        | k + 1, hk =>
          have := rowF_all E k (S + 1) (xs.drop (getF xs).n) (by simp; omega) (hB.drop _) i f hf
          exact ⟨this.1, by rw [this.2.1]; simp; omega, this.2.2⟩
    · rw [rowF_stops hg] at hf; simp at hf
theorem rowF_end (E : Int) : ∀ (k : Nat) (S : Int) (xs : List Int), xs.length ≤ k → Byt xs → fend (rowF E S xs) ≤ xs.length
  | k, S, xs, hk, hB => by
    by_cases hg : Goes E S xs
    · rw [rowF_goes hB hg]
      obtain ⟨h1, h2, h3, h4, _⟩ := getF_ok hB hg.1
      match k, hk with
      | 0, hk => omega
      | k + 1, hk =>
        have := rowF_end E k (S + 1) (xs.drop (getF xs).n) (by simp; omega) (hB.drop _)
        simp only [fend, List.length_drop] at this ⊢
        omega
    · rw [rowF_stops hg]; simp [fend]
/-- The beginning of bytes tells a beginning of the row. -/
theorem rowF_pre (E : Int) : ∀ (k : Nat) (S : Int) (xs ys : List Int), xs.length ≤ k → Byt xs → Byt ys → rowF E S xs <+: rowF E S (xs ++ ys)
  | k, S, xs, ys, hk, hB, hY => by
    by_cases hg : Goes E S xs
    · have hp := getF_pre (ys := ys) hB hg.1
      have hg' : Goes E S (xs ++ ys) := by unfold Goes at hg ⊢; rw [hp]; exact hg
      obtain ⟨h1, h2, h3, h4, _⟩ := getF_ok hB hg.1
      rw [rowF_goes hB hg, rowF_goes (hB.append hY) hg', hp, List.drop_append_of_le_length h4]
      match k, hk with
      | 0, hk => omega
      | k + 1, hk =>
        have := rowF_pre E k (S + 1) (xs.drop (getF xs).n) ys (by simp; omega) (hB.drop _) hY
        exact List.cons_prefix_cons.2 ⟨rfl, this⟩
    · rw [rowF_stops hg]; exact List.nil_prefix

/-- Frames of one epoch, one behind the other. -/
def Chn (E S : Int) (fs : List Fr) : Prop := ∀ (i : Nat) (f : Fr), fs[i]? = some f → f.e = E ∧ f.s = S + i + 1 ∧ f.Ok ∧ f.b.length ≤ 32
def outs (fs : List Fr) : List Int := (fs.map Fr.out).flatten
theorem outs_length : ∀ (fs : List Fr), (outs fs).length = fend fs
  | [] => rfl
  | f :: fs => by
    have := outs_length fs
    simp only [outs, fend, List.map_cons, List.flatten_cons, List.length_append, Fr.out_length] at this ⊢
    omega
theorem outs_snoc (fs : List Fr) (f : Fr) : outs (fs ++ [f]) = outs fs ++ f.out := by simp [outs]
theorem Chn.tail {E S : Int} {f : Fr} {fs : List Fr} (h : Chn E S (f :: fs)) : Chn E (S + 1) fs := by
  intro i g hg
  have := h (i + 1) g (by simpa using hg)
  exact ⟨this.1, by rw [this.2.1]; simp; omega, this.2.2⟩
theorem Chn.byt {E S : Int} {fs : List Fr} (h : Chn E S fs) : Byt (outs fs) := by
  intro x hx
  simp only [outs, List.mem_flatten, List.mem_map] at hx
  obtain ⟨l, ⟨f, hf, rfl⟩, hx⟩ := hx
  obtain ⟨i, hi, e⟩ := List.getElem_of_mem hf
  have := h i f (by rw [List.getElem?_eq_getElem hi, e])
  exact Fr.out_byt this.2.2.1.byt x hx
theorem Chn.snoc {E S : Int} {fs : List Fr} {f : Fr} (h : Chn E S fs) (he : f.e = E) (hs : f.s = S + fs.length + 1) (ho : f.Ok) (hb : f.b.length ≤ 32) : Chn E S (fs ++ [f]) := by
  intro i g hg
  by_cases hi : i < fs.length
  · rw [List.getElem?_append_left hi] at hg
    exact h i g hg
  · have hi2 : i = fs.length := by
      have := (List.getElem?_eq_some_iff.1 hg).1
      simp at this
      omega
    subst hi2
    simp at hg
    subst hg
    exact ⟨he, hs, ho, hb⟩
/-- What is written one behind the other is scanned as it is. -/
theorem rowF_outs (E : Int) : ∀ (fs : List Fr) (S : Int) (rest : List Int), Chn E S fs → Byt rest → ¬ Goes E (S + fs.length) rest → rowF E S (outs fs ++ rest) = fs
  | [], S, rest, _, _, h => by
    have : rowF E S rest = [] := rowF_stops (by simpa using h)
    simpa [outs] using this
  | f :: fs, S, rest, hc, hr, h => by
    obtain ⟨h1, h2, h3, h4⟩ := hc 0 f rfl
    have e : outs (f :: fs) ++ rest = f.out ++ (outs fs ++ rest) := by simp [outs]
    have hg := getF_out h3 h4 (outs fs ++ rest)
    have hb : Byt (f.out ++ (outs fs ++ rest)) := (Fr.out_byt h3.byt).append (hc.tail.byt.append hr)
    have hgo : Goes E S (f.out ++ (outs fs ++ rest)) := by
      unfold Goes
      rw [hg]
      refine ⟨rfl, h1, by simpa using h2, ?_⟩
      have := h3.s1
      simp at h2
      omega
    rw [e, rowF_goes hb hgo, hg]
    simp only
    rw [List.drop_left' (Fr.out_length f), rowF_outs E fs (S + 1) rest hc.tail hr (by
      rw [show S + 1 + (fs.length : Int) = S + ((f :: fs).length : Int) by simp; omega]; exact h)]
end Go.Proofs.YtoeehajdmdmemabDoor
