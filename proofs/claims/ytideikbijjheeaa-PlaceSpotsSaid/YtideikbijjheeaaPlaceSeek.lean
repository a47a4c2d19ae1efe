import Derived.Test.YtideikbijjheeaaPlaceMath
/- Seeking a place for a float comes to an end: each next height is the bottom of a float, below the one ahead. Nothing of the program stands here. -/
namespace Go.Proofs.Ytideikbijjheeaa
open Go
set_option linter.unusedVariables false
set_option linter.unusedSimpArgs false
theorem least_from {l0 : List Fl} (p : Fl → Bool) : ∀ (l : List Fl) (s : Int × Bool), (∀ f ∈ l, f ∈ l0) → (s.2 = true → ∃ f ∈ l0, p f = true ∧ s.1 = f.y + f.h) → (l.foldl (leastStep p) s).2 = true → ∃ f ∈ l0, p f = true ∧ (l.foldl (leastStep p) s).1 = f.y + f.h
  | [], s, _, hs, h => hs h
  | f :: r, s, hl, hs, h => by
    refine least_from p r (leastStep p s f) (fun g hg => hl g (List.mem_cons_of_mem _ hg)) ?_ h
    intro hq
    unfold leastStep at hq ⊢
    by_cases hp : p f = true
    · rw [if_pos hp] at hq ⊢
      split
      · exact ⟨f, hl f (by simp), hp, rfl⟩
      · rename_i hn
        rw [if_neg hn] at hq
        exact hs hq
    · rw [if_neg hp] at hq ⊢
      exact hs hq
theorem nextL_from {l : List Fl} {y h a b : Int} (hv : (nextL l y h a b).2 = true) : ∃ f ∈ l, y < f.y + f.h ∧ (nextL l y h a b).1 = f.y + f.h := by
  obtain ⟨f, hf, hp, he⟩ := least_from (narrowF y h a b) l (0, false) (fun f hf => hf) (fun h => by cases h) hv
  refine ⟨f, hf, ?_, he⟩
  unfold narrowF meetsF at hp
  simp only [Bool.and_eq_true, decide_eq_true_eq] at hp
  exact hp.1.2.2
/-- so many floats end below a height. -/
def cntA (l : List Fl) (y : Int) : Nat := (l.filter fun f => decide (y < f.y + f.h)).length
theorem cntA_le (l : List Fl) (y : Int) : cntA l y ≤ l.length := List.length_filter_le _ _
theorem cntA_mono {y z : Int} (hyz : y ≤ z) : ∀ (l : List Fl), cntA l z ≤ cntA l y
  | [] => Nat.le_refl _
  | f :: r => by
    have ih := cntA_mono hyz r
    unfold cntA at *
    simp only [List.filter_cons]
    by_cases h1 : z < f.y + f.h
    · rw [if_pos (by simpa using h1), if_pos (by simp; omega)]; simp only [List.length_cons]; omega
    · rw [if_neg (by simpa using h1)]
      split
      · simp only [List.length_cons]; omega
      · exact ih
theorem cntA_lt {y z : Int} : ∀ (l : List Fl), (∃ f ∈ l, y < f.y + f.h ∧ z = f.y + f.h) → cntA l z < cntA l y
  | [], h => by obtain ⟨f, hf, _⟩ := h; cases hf
  | g :: r, h => by
    obtain ⟨f, hf, h1, h2⟩ := h
    have hm := cntA_mono (show y ≤ z by omega) r
    rcases List.mem_cons.1 hf with rfl | hr
    · unfold cntA at *
      simp only [List.filter_cons]
      rw [if_neg (by simp; omega), if_pos (by simpa using h1)]; simp only [List.length_cons]; omega
    · have ih := cntA_lt r ⟨f, hr, h1, h2⟩
      unfold cntA at *
      simp only [List.filter_cons]
      by_cases q1 : z < g.y + g.h
      · rw [if_pos (by simpa using q1), if_pos (by simp; omega)]; simp only [List.length_cons]; omega
      · rw [if_neg (by simpa using q1)]
        split
        · simp only [List.length_cons]; omega
        · exact ih
theorem cnt_next {l : List Fl} {y h a b : Int} (hv : (nextL l y h a b).2 = true) : cntA l (nextL l y h a b).1 < cntA l y := cntA_lt l (nextL_from hv)
theorem seek_same {l : List Fl} {h w a b : Int} : ∀ (k j : Nat) (y : Int), cntA l y ≤ k → cntA l y ≤ j → seekF l h w a b k y = seekF l h w a b j y
  | 0, 0, y, _, _ => rfl
  | 0, j + 1, y, hk, _ => by
    have : (nextL l y h a b).2 = false := by
      cases hv : (nextL l y h a b).2 with
      | false => rfl
      | true => have := cnt_next hv; omega
    show y = seekF l h w a b (j + 1) y
    unfold seekF
    rw [this]
    split <;> simp
  | k + 1, 0, y, _, hj => by
    have : (nextL l y h a b).2 = false := by
      cases hv : (nextL l y h a b).2 with
      | false => rfl
      | true => have := cnt_next hv; omega
    show seekF l h w a b (k + 1) y = y
    unfold seekF
    rw [this]
    split <;> simp
  | k + 1, j + 1, y, hk, hj => by
    unfold seekF
    split
    · rfl
    · split
      · rename_i hv
        have := cnt_next hv
        exact seek_same k j _ (by omega) (by omega)
      · rfl
/-- from y on, as far down as it goes. -/
def seekE (l : List Fl) (h w a b y : Int) : Int := seekF l h w a b (cntA l y) y
theorem seekE_of {l : List Fl} {h w a b : Int} (k : Nat) (y : Int) (hk : cntA l y ≤ k) : seekF l h w a b k y = seekE l h w a b y := seek_same _ _ _ hk (Nat.le_refl _)
theorem seekE_fits {l : List Fl} {h w a b y : Int} (hf : fitsF l h w a b y = true) : seekE l h w a b y = y := by
  rw [← seekE_of (cntA l y + 1) y (Nat.le_succ _)]; unfold seekF; rw [if_pos hf]
theorem seekE_none {l : List Fl} {h w a b y : Int} (hf : fitsF l h w a b y = false) (hv : (nextL l y h a b).2 = false) : seekE l h w a b y = y := by
  rw [← seekE_of (cntA l y + 1) y (Nat.le_succ _)]; unfold seekF; rw [hf, hv]; simp
theorem seekE_next {l : List Fl} {h w a b y : Int} (hf : fitsF l h w a b y = false) (hv : (nextL l y h a b).2 = true) : seekE l h w a b y = seekE l h w a b (nextL l y h a b).1 := by
  rw [← seekE_of (cntA l y + 1) y (Nat.le_succ _)]
  have := cnt_next hv
  rw [← seekE_of (cntA l y) (nextL l y h a b).1 (by omega)]
  conv => lhs; unfold seekF
  rw [hf, hv]; simp
theorem spotY_seek (l : List Fl) (f : Fl) (y a b : Int) : spotY l f y a b = seekE l f.h f.w a b (startY l y) := seekE_of _ _ (Nat.le_trans (cntA_le l _) (Nat.le_succ _))
end Go.Proofs.Ytideikbijjheeaa
