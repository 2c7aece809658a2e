/- What Get's reader gives, step by step, against what Get answers: plain lists. -/
import Derived.Test.YtoeehajdmdmemabDoorRead3
import Derived.Test.YtoeehajdmdmemabDoorFx
namespace Go.Proofs.YtoeehajdmdmemabDoor

theorem rd_bad (xs : List Int) (n : Int) : takeF xs 4 n = ([], xs, 4) := by simp [takeF]
theorem rd_ok (xs : List Int) (k : Nat) (h : k ≤ xs.length) : takeF xs 0 (k : Int) = (xs.take k, xs.drop k, 0) := by
  unfold takeF
  rw [if_neg (by simp), if_neg (by omega), if_neg (by omega), Int.toNat_natCast]
theorem rd_no (xs : List Int) (k : Nat) (h : xs.length < k) : takeF xs 0 (k : Int) = ([], [], 4) := by
  unfold takeF
  rw [if_neg (by simp), if_neg (by omega), if_pos (by omega)]

def rd1 (ys : List Int) : List Int × List Int × Int := takeF ys 0 2
def rd2 (ys : List Int) : List Int × List Int × Int := takeF (rd1 ys).2.1 (rd1 ys).2.2 8
def rd3 (ys : List Int) : List Int × List Int × Int := takeF (rd2 ys).2.1 (rd2 ys).2.2 8
def rd4 (ys : List Int) : List Int × List Int × Int := takeF (rd3 ys).2.1 (rd3 ys).2.2 (leV (rd1 ys).1)
def rd5 (ys : List Int) : List Int × List Int × Int := takeF (rd4 ys).2.1 (rd4 ys).2.2 4

theorem rd_byt {ys : List Int} (h : Byt ys) : Byt (rd1 ys).2.1 ∧ Byt (rd2 ys).2.1 ∧ Byt (rd3 ys).2.1 ∧ Byt (rd4 ys).2.1 := by
  have h1 := (takeF_bytes h 0 2).2
  have h2 := (takeF_bytes (xs := (rd1 ys).2.1) h1 (rd1 ys).2.2 8).2
  have h3 := (takeF_bytes (xs := (rd2 ys).2.1) h2 (rd2 ys).2.2 8).2
  have h4 := (takeF_bytes (xs := (rd3 ys).2.1) h3 (rd3 ys).2.2 (leV (rd1 ys).1)).2
  exact ⟨h1, h2, h3, h4⟩
theorem takeF_len (xs : List Int) (e n : Int) : (takeF xs e n).2.1.length ≤ xs.length := by
  unfold takeF
  split
  · simp
  · split
    · simp
    · split
      · simp
      · simp
theorem rd_len (ys : List Int) : (rd3 ys).2.1.length ≤ ys.length :=
  Nat.le_trans (takeF_len _ _ _) (Nat.le_trans (takeF_len _ _ _) (takeF_len _ _ _))

theorem rd_cases {xs : List Int} (hB : Byt xs) :
    (32 < leV (rd1 (xs.take 54)).1 ∧ getF xs = ⟨noFr, 0, 80⟩) ∨
    (leV (rd1 (xs.take 54)).1 ≤ 32 ∧ (rd5 (xs.take 54)).2.2 = 4 ∧ getF xs = ⟨noFr, 0, 4⟩) ∨
    (∃ L : Nat, leV (rd1 (xs.take 54)).1 = (L : Int) ∧ L ≤ 32 ∧ 22 + L ≤ xs.length ∧ (rd5 (xs.take 54)).2.2 = 0 ∧ (rd4 (xs.take 54)).1.length = L ∧
      getF xs = if leV (rd5 (xs.take 54)).1 ≠ sumI (xs.take (18 + L)) then ⟨noFr, 0, 81⟩ else ⟨⟨leV (rd2 (xs.take 54)).1, leV (rd3 (xs.take 54)).1, (rd4 (xs.take 54)).1⟩, 22 + L, 0⟩) := by
  have hb := blen_cast hB
  by_cases h2 : xs.length < 2
  · have e1 : rd1 (xs.take 54) = ([], [], 4) := rd_no _ 2 (by simp; omega)
    have e2 : rd2 (xs.take 54) = ([], [], 4) := by unfold rd2; rw [e1]; exact rd_bad _ _
    have e3 : rd3 (xs.take 54) = ([], [], 4) := by unfold rd3; rw [e2]; exact rd_bad _ _
    have e4 : rd4 (xs.take 54) = ([], [], 4) := by unfold rd4; rw [e3]; exact rd_bad _ _
    have e5 : rd5 (xs.take 54) = ([], [], 4) := by unfold rd5; rw [e4]; exact rd_bad _ _
    refine Or.inr (Or.inl ⟨by rw [e1]; simp [leV], by rw [e5], ?_⟩)
    unfold getF
    rw [if_pos h2]
  · have e1 : rd1 (xs.take 54) = ((xs.take 54).take 2, (xs.take 54).drop 2, 0) := rd_ok _ 2 (by simp; omega)
    have t2 : (xs.take 54).take 2 = xs.take 2 := by rw [List.take_take]; simp
    have v1 : leV (rd1 (xs.take 54)).1 = (blen xs : Int) := by rw [e1, t2, hb]
    by_cases h3 : 32 < blen xs
    · refine Or.inl ⟨by rw [v1]; omega, ?_⟩
      unfold getF
      rw [if_neg h2, if_pos h3]
    · have hl : ((xs.take 54).drop 2).length = min 54 xs.length - 2 := by simp
      by_cases h4 : xs.length < 22 + blen xs
      · refine Or.inr (Or.inl ⟨by rw [v1]; omega, ?_, by unfold getF; rw [if_neg h2, if_neg h3, if_pos h4]⟩)
        have bad : ∀ {p : List Int × List Int × Int} {n : Int}, p.2.2 = 4 → (takeF p.2.1 p.2.2 n).2.2 = 4 := fun h => by rw [h, rd_bad]
        by_cases a1 : xs.length < 10
        · have e2 : (rd2 (xs.take 54)).2.2 = 4 := by
            unfold rd2; rw [e1]; exact congrArg (fun p => p.2.2) (rd_no ((xs.take 54).drop 2) 8 (by simp; omega))
          exact bad (bad (bad e2))
        · have e2 : rd2 (xs.take 54) = (((xs.take 54).drop 2).take 8, ((xs.take 54).drop 2).drop 8, 0) := by
            unfold rd2; rw [e1]; exact rd_ok _ 8 (by simp; omega)
          by_cases a2 : xs.length < 18
          · have e3 : (rd3 (xs.take 54)).2.2 = 4 := by
              unfold rd3; rw [e2]; exact congrArg (fun p => p.2.2) (rd_no (((xs.take 54).drop 2).drop 8) 8 (by simp; omega))
            exact bad (bad e3)
          · have e3 : rd3 (xs.take 54) = ((((xs.take 54).drop 2).drop 8).take 8, (((xs.take 54).drop 2).drop 8).drop 8, 0) := by
              unfold rd3; rw [e2]; exact rd_ok _ 8 (by simp; omega)
            by_cases a3 : xs.length < 18 + blen xs
            · have e4 : (rd4 (xs.take 54)).2.2 = 4 := by
                unfold rd4; rw [e3, v1]; exact congrArg (fun p => p.2.2) (rd_no ((((xs.take 54).drop 2).drop 8).drop 8) (blen xs) (by simp; omega))
              exact bad e4
            · have e4 : rd4 (xs.take 54) = (((((xs.take 54).drop 2).drop 8).drop 8).take (blen xs), ((((xs.take 54).drop 2).drop 8).drop 8).drop (blen xs), 0) := by
                unfold rd4; rw [e3, v1]; exact rd_ok _ _ (by simp; omega)
              unfold rd5; rw [e4]; exact congrArg (fun p => p.2.2) (rd_no (((((xs.take 54).drop 2).drop 8).drop 8).drop (blen xs)) 4 (by simp; omega))
      · have e2 : rd2 (xs.take 54) = (((xs.take 54).drop 2).take 8, ((xs.take 54).drop 2).drop 8, 0) := by
          unfold rd2; rw [e1]; exact rd_ok _ 8 (by simp; omega)
        have e3 : rd3 (xs.take 54) = ((((xs.take 54).drop 2).drop 8).take 8, (((xs.take 54).drop 2).drop 8).drop 8, 0) := by
          unfold rd3; rw [e2]; exact rd_ok _ 8 (by simp; omega)
        have e4 : rd4 (xs.take 54) = (((((xs.take 54).drop 2).drop 8).drop 8).take (blen xs), ((((xs.take 54).drop 2).drop 8).drop 8).drop (blen xs), 0) := by
          unfold rd4; rw [e3, v1]; exact rd_ok _ _ (by simp; omega)
        have e5 : rd5 (xs.take 54) = ((((((xs.take 54).drop 2).drop 8).drop 8).drop (blen xs)).take 4, (((((xs.take 54).drop 2).drop 8).drop 8).drop (blen xs)).drop 4, 0) := by
          unfold rd5; rw [e4]; exact rd_ok _ 4 (by simp; omega)
        have td : ∀ a b : Nat, a + b ≤ 54 → ((xs.take 54).drop a).take b = (xs.drop a).take b := by
          intro a b hab
          rw [List.drop_take, List.take_take, Nat.min_eq_left (by omega)]
        refine Or.inr (Or.inr ⟨blen xs, v1, by omega, by omega, by rw [e5], by rw [e4]; simp; omega, ?_⟩)
        have g5 : (rd5 (xs.take 54)).1 = (xs.drop (18 + blen xs)).take 4 := by
          rw [e5]; simp only [List.drop_drop]; rw [← td _ 4 (by omega)]
        have g2 : (rd2 (xs.take 54)).1 = (xs.drop 2).take 8 := by rw [e2]; exact td 2 8 (by omega)
        have g3 : (rd3 (xs.take 54)).1 = (xs.drop 10).take 8 := by rw [e3]; simp only [List.drop_drop]; exact td 10 8 (by omega)
        have g4 : (rd4 (xs.take 54)).1 = (xs.drop 18).take (blen xs) := by rw [e4]; simp only [List.drop_drop]; exact td 18 _ (by omega)
        rw [g5, g2, g3, g4]
        unfold getF
        rw [if_neg h2, if_neg h3, if_neg h4]
end Go.Proofs.YtoeehajdmdmemabDoor
