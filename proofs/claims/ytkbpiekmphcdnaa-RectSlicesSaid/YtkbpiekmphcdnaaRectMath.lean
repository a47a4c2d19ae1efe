import Derived.Test.YtkbpiekmphcdnaaSpanMath3
/- Rectangles as four numbers: what each function of package rect answers. Nothing of the program stands here. -/
namespace Go.Proofs.Ytkbpiekmphcdnaa
set_option linter.unusedVariables false
structure Rc where
  x : Int
  y : Int
  w : Int
  h : Int
  deriving DecidableEq
def noneR (r : Rc) : Prop := r.w < 1 ∨ r.h < 1
instance (r : Rc) : Decidable (noneR r) := inferInstanceAs (Decidable (_ ∨ _))
def tidyR (r : Rc) : Rc := if noneR r then ⟨0, 0, 0, 0⟩ else r
def ofR (a d : Sp) : Rc := tidyR ⟨a.1, d.1, lenS a, lenS d⟩
def rofR (l r t b : Int) : Rc := if r ≤ l ∨ b ≤ t then ⟨0, 0, 0, 0⟩ else ⟨l, t, r - l, b - t⟩
def acrossR (r : Rc) : Sp := (r.x, r.x + r.w)
def downR (r : Rc) : Sp := (r.y, r.y + r.h)
def hasR (r : Rc) (x y : Int) : Prop := hasS (acrossR r) x ∧ hasS (downR r) y
instance (r : Rc) (x y : Int) : Decidable (hasR r x y) := inferInstanceAs (Decidable (_ ∧ _))
def Near60 (n : Int) : Prop := -1152921504606846976 ≤ n ∧ n ≤ 1152921504606846976
instance (n : Int) : Decidable (Near60 n) := inferInstanceAs (Decidable (_ ∧ _))
def Near61 (n : Int) : Prop := -2305843009213693952 ≤ n ∧ n ≤ 2305843009213693952
def NearR (r : Rc) : Prop := Near60 r.x ∧ Near60 r.y ∧ Near60 r.w ∧ Near60 r.h
instance (r : Rc) : Decidable (NearR r) := inferInstanceAs (Decidable (_ ∧ _))
theorem tidyR_none {r : Rc} (h : noneR r) : tidyR r = ⟨0, 0, 0, 0⟩ := if_pos h
theorem tidyR_some {r : Rc} (h : ¬ noneR r) : tidyR r = r := if_neg h

/-! ### hulls -/
def hullRStep (h r : Rc) : Rc :=
  if noneR r then h else if noneR h then r else ⟨min h.x r.x, min h.y r.y, max (h.x + h.w) (r.x + r.w) - min h.x r.x, max (h.y + h.h) (r.y + r.h) - min h.y r.y⟩
def hullR (l : List Rc) : Rc := l.foldl hullRStep ⟨0, 0, 0, 0⟩
/-- what a hull of near rectangles is. -/
def HullROk (h : Rc) : Prop := h = ⟨0, 0, 0, 0⟩ ∨ (1 ≤ h.w ∧ 1 ≤ h.h ∧ -1152921504606846976 ≤ h.x ∧ -1152921504606846976 ≤ h.y ∧ h.x + h.w ≤ 2305843009213693952 ∧ h.y + h.h ≤ 2305843009213693952)
theorem hullRStep_ok {h r : Rc} (hk : HullROk h) (hr : NearR r) : HullROk (hullRStep h r) := by
  obtain ⟨⟨h1, h2⟩, ⟨h3, h4⟩, ⟨h5, h6⟩, h7, h8⟩ := hr
  unfold hullRStep
  by_cases hn : noneR r
  · rw [if_pos hn]; exact hk
  · rw [if_neg hn]
    unfold noneR at hn
    by_cases hn2 : noneR h
    · rw [if_pos hn2]; exact .inr (by omega)
    · rw [if_neg hn2]
      unfold noneR at hn2
      rcases hk with rfl | hk
      · exact absurd (.inl (by decide)) hn2
      · exact .inr (by simp only; omega)
theorem hullR_ok : ∀ (l : List Rc) (h : Rc), HullROk h → (∀ r ∈ l, NearR r) → HullROk (l.foldl hullRStep h)
  | [], _, hk, _ => hk
  | r :: l, h, hk, hn => hullR_ok l _ (hullRStep_ok hk (hn r (List.mem_cons_self ..))) fun x hx => hn x (List.mem_cons_of_mem _ hx)
theorem tidyS_pair (a b : Int) : lenS (a, b) = if b ≤ a then 0 else b - a := rfl
/-- the program's step: by spans. -/
theorem hull_by_spans {h r : Rc} (hk : HullROk h) (hn : ¬ noneR r) : ofR (hullL [acrossR h, acrossR r]) (hullL [downR h, downR r]) = hullRStep h r := by
  obtain ⟨x, y, w, v⟩ := h
  obtain ⟨x', y', w', v'⟩ := r
  have hn' : ¬ (w' < 1 ∨ v' < 1) := hn
  unfold hullRStep
  rw [if_neg hn]
  show ofR (hullStep (hullStep (0, 0) (x, x + w)) (x', x' + w')) (hullStep (hullStep (0, 0) (y, y + v)) (y', y' + v')) = _
  rcases hk with hz | hk
  · injection hz with e1 e2 e3 e4
    subst e1 e2 e3 e4
    have a1 : hullStep (hullStep (0, 0) (0, 0 + 0)) (x', x' + w') = (x', x' + w') := by
      unfold hullStep; simp only [Int.add_zero, Int.le_refl, if_true]; rw [if_neg (by omega)]
    have a2 : hullStep (hullStep (0, 0) (0, 0 + 0)) (y', y' + v') = (y', y' + v') := by
      unfold hullStep; simp only [Int.add_zero, Int.le_refl, if_true]; rw [if_neg (by omega)]
    rw [a1, a2, if_pos (.inl (by decide))]
    unfold ofR
    have b1 : lenS (x', x' + w') = w' := by rw [tidyS_pair, if_neg (by omega)]; omega
    have b2 : lenS (y', y' + v') = v' := by rw [tidyS_pair, if_neg (by omega)]; omega
    rw [b1, b2]
    exact tidyR_some hn
  · simp only at hk
    have hn2 : ¬ noneR ⟨x, y, w, v⟩ := fun k => by unfold noneR at k; simp only at k; omega
    rw [if_neg hn2]
    have a1 : hullStep (hullStep (0, 0) (x, x + w)) (x', x' + w') = (min x x', max (x + w) (x' + w')) := by
      have s1 : hullStep (0, 0) (x, x + w) = (x, x + w) := (if_neg (show ¬ x + w ≤ x by omega)).trans (if_pos (Int.le_refl _))
      rw [s1]
      exact (if_neg (show ¬ x' + w' ≤ x' by omega)).trans (if_neg (show ¬ x + w ≤ x by omega))
    have a2 : hullStep (hullStep (0, 0) (y, y + v)) (y', y' + v') = (min y y', max (y + v) (y' + v')) := by
      have s1 : hullStep (0, 0) (y, y + v) = (y, y + v) := (if_neg (show ¬ y + v ≤ y by omega)).trans (if_pos (Int.le_refl _))
      rw [s1]
      exact (if_neg (show ¬ y' + v' ≤ y' by omega)).trans (if_neg (show ¬ y + v ≤ y by omega))
    rw [a1, a2]
    unfold ofR
    rw [tidyS_pair, tidyS_pair, if_neg (by omega), if_neg (by omega)]
    exact tidyR_some (fun k => by unfold noneR at k; simp only at k; omega)
/-- the document's step. -/
theorem hull_by_edges {h r : Rc} (hk : HullROk h) (hn : ¬ noneR r) : (noneR h → rofR (min r.x r.x) (max (r.x + r.w) (r.x + r.w)) (min r.y r.y) (max (r.y + r.h) (r.y + r.h)) = hullRStep h r) ∧
    (¬ noneR h → rofR (min h.x r.x) (max (h.x + h.w) (r.x + r.w)) (min h.y r.y) (max (h.y + h.h) (r.y + r.h)) = hullRStep h r) := by
  unfold hullRStep
  rw [if_neg hn]
  constructor
  · intro h2
    rw [if_pos h2]
    unfold rofR noneR at *
    obtain ⟨x', y', w', v'⟩ := r
    simp only at *
    rw [if_neg (by omega)]
    simp only [Int.min_self, Int.max_self]
    congr 1 <;> omega
  · intro h2
    rw [if_neg h2]
    unfold rofR noneR at *
    rw [if_neg (by omega)]

/-! ### slices -/
def sliceAt (r : Rc) (high : Int) (i : Nat) : Rc := ⟨r.x, r.y + (i : Int) * high, r.w, min high (r.h - (i : Int) * high)⟩
def countS (r : Rc) (high : Int) : Nat := if noneR r ∨ high < 1 ∨ 32768 < (r.h - 1) / high + 1 then 0 else ((r.h - 1) / high + 1).toNat
def slicesR (r : Rc) (high : Int) : List Rc := (List.range (countS r high)).map (sliceAt r high)
theorem slicesR_len (r : Rc) (high : Int) : (slicesR r high).length = countS r high := by unfold slicesR; simp
theorem slicesR_get {r : Rc} {high : Int} {i : Nat} (h : i < countS r high) : (slicesR r high)[i]? = some (sliceAt r high i) := by
  unfold slicesR; simp [h]
theorem countS_zero {r : Rc} {high : Int} (h : noneR r ∨ high < 1) : countS r high = 0 := by
  unfold countS
  rw [if_pos (by rcases h with h | h; exact .inl h; exact .inr (.inl h))]
theorem countS_far {r : Rc} {high : Int} (h : 32768 < (r.h - 1) / high + 1) : countS r high = 0 := if_pos (.inr (.inr h))
theorem countS_some {r : Rc} {high : Int} (h1 : ¬ noneR r) (h2 : ¬ high < 1) (h3 : ¬ 32768 < (r.h - 1) / high + 1) : (countS r high : Int) = (r.h - 1) / high + 1 ∧ 1 ≤ countS r high ∧ countS r high ≤ 32768 := by
  have e : countS r high = ((r.h - 1) / high + 1).toNat := if_neg (by rintro (h | h | h) <;> contradiction)
  have hr : 1 ≤ r.h := by unfold noneR at h1; omega
  have h0 := Int.ediv_nonneg (show 0 ≤ r.h - 1 by omega) (show 0 ≤ high by omega)
  rw [e]; omega
/-- where slice i begins: within the height. -/
theorem slice_in {r : Rc} {high : Int} (h1 : 1 ≤ r.h) (h2 : 1 ≤ high) {i : Nat} (hi : (i : Int) ≤ (r.h - 1) / high) : 0 ≤ (i : Int) * high ∧ (i : Int) * high ≤ r.h - 1 := by
  have e := Int.ediv_mul_le (r.h - 1) (show high ≠ 0 by omega)
  have k := Int.mul_le_mul_of_nonneg_right hi (show 0 ≤ high by omega)
  have k0 := Int.mul_nonneg (show (0 : Int) ≤ (i : Int) by omega) (show 0 ≤ high by omega)
  omega
/-- the document's number of slices. -/
theorem count_doc {h high : Int} (h1 : 1 ≤ h) (h2 : 1 ≤ high) : (h / high * high < h → h / high + 1 = (h - 1) / high + 1) ∧ (¬ h / high * high < h → h / high = (h - 1) / high + 1) := by
  have e := Int.mul_ediv_add_emod h high
  have m1 := Int.emod_nonneg h (show high ≠ 0 by omega)
  have m2 := Int.emod_lt_of_pos h (show 0 < high by omega)
  have c : high * (h / high) = h / high * high := Int.mul_comm _ _
  constructor
  · intro hl
    have : (h - 1) / high = h / high := by
      rw [Int.ediv_eq_iff_of_pos (by omega)]
      have c2 : (h / high + 1) * high = h / high * high + high := by rw [Int.add_mul, Int.one_mul]
      omega
    omega
  · intro hl
    have : (h - 1) / high = h / high - 1 := by
      rw [Int.ediv_eq_iff_of_pos (by omega)]
      have c2 : (h / high - 1) * high = h / high * high - high := by rw [Int.sub_mul, Int.one_mul]
      have c3 : (h / high - 1 + 1) * high = h / high * high := by rw [Int.sub_add_cancel]
      omega
    omega
end Go.Proofs.Ytkbpiekmphcdnaa
