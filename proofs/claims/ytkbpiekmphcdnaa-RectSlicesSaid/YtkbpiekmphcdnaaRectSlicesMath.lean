import Derived.Test.YtkbpiekmphcdnaaRectMath
/- Slices one below the other: where each begins, and which one has a point. Nothing of the program stands here. -/
namespace Go.Proofs.Ytkbpiekmphcdnaa
set_option linter.unusedVariables false
def topK (h high : Int) (k : Nat) : Int := min ((k : Int) * high) h
def manyK (r : Rc) (high px py : Int) (k : Nat) : Int := if hasS (acrossR r) px ∧ r.y ≤ py ∧ py < r.y + topK r.h high k then 1 else 0
theorem succ_mul' (k : Nat) (high : Int) : ((k + 1 : Nat) : Int) * high = (k : Int) * high + high := by
  rw [Int.natCast_add, Int.add_mul]; show _ + 1 * high = _; rw [Int.one_mul]
theorem slice_lt {r : Rc} {high : Int} (h0 : ¬ noneR r) (h2 : 1 ≤ high) (h3 : ¬ 32768 < (r.h - 1) / high + 1) {k : Nat} (hk : k < countS r high) : 0 ≤ (k : Int) * high ∧ (k : Int) * high ≤ r.h - 1 := by
  obtain ⟨c1, c2, c3⟩ := countS_some h0 (by omega) h3
  exact slice_in (by unfold noneR at h0; omega) h2 (by omega)
theorem topK_zero {h high : Int} (h1 : 1 ≤ h) : topK h high 0 = 0 := by
  unfold topK; rw [show ((0 : Nat) : Int) * high = 0 from Int.zero_mul _]; omega
theorem topK_step {r : Rc} {high : Int} (h0 : ¬ noneR r) (h2 : 1 ≤ high) (h3 : ¬ 32768 < (r.h - 1) / high + 1) {k : Nat} (hk : k < countS r high) :
    topK r.h high k = (k : Int) * high ∧ topK r.h high (k + 1) = (k : Int) * high + min high (r.h - (k : Int) * high) := by
  have h := slice_lt h0 h2 h3 hk
  unfold topK
  rw [succ_mul']
  omega
theorem topK_end {r : Rc} {high : Int} (h0 : ¬ noneR r) (h2 : 1 ≤ high) (h3 : ¬ 32768 < (r.h - 1) / high + 1) : topK r.h high (countS r high) = r.h := by
  obtain ⟨c1, c2, c3⟩ := countS_some h0 (by omega) h3
  unfold topK
  rw [c1, Int.add_mul, Int.one_mul]
  have e := Int.mul_ediv_add_emod (r.h - 1) high
  have m2 := Int.emod_lt_of_pos (r.h - 1) (show 0 < high by omega)
  have c : high * ((r.h - 1) / high) = (r.h - 1) / high * high := Int.mul_comm _ _
  omega
theorem slice_last {r : Rc} {high : Int} (h0 : ¬ noneR r) (h2 : 1 ≤ high) (h3 : ¬ 32768 < (r.h - 1) / high + 1) {k : Nat} (hk : k < countS r high) (hl : min high (r.h - (k : Int) * high) < high) : countS r high ≤ k + 1 := by
  apply Nat.not_lt.1
  intro hlt
  have h := slice_lt h0 h2 h3 (k := k + 1) hlt
  rw [succ_mul'] at h
  omega
theorem manyK_zero {r : Rc} {high px py : Int} (h0 : ¬ noneR r) : manyK r high px py 0 = 0 := by
  unfold manyK
  rw [topK_zero (by unfold noneR at h0; omega), if_neg (by omega)]
theorem manyK_bd (r : Rc) (high px py : Int) (k : Nat) : 0 ≤ manyK r high px py k ∧ manyK r high px py k ≤ 1 := by
  unfold manyK; split <;> omega
theorem manyK_step {r : Rc} {high px py : Int} (h0 : ¬ noneR r) (h2 : 1 ≤ high) (h3 : ¬ 32768 < (r.h - 1) / high + 1) {k : Nat} (hk : k < countS r high) :
    manyK r high px py (k + 1) = manyK r high px py k + (if hasR (sliceAt r high k) px py then 1 else 0) := by
  obtain ⟨t1, t2⟩ := topK_step h0 h2 h3 hk
  have h := slice_lt h0 h2 h3 hk
  have hd : hasR (sliceAt r high k) px py ↔ hasS (acrossR r) px ∧ r.y + (k : Int) * high ≤ py ∧ py < r.y + (k : Int) * high + min high (r.h - (k : Int) * high) := Iff.rfl
  unfold manyK
  rw [t1, t2]
  generalize (k : Int) * high = top at *
  generalize hs : min high (r.h - top) = sh at *
  have tot : ∀ {p : Prop} [Decidable p], p → (if p then (1 : Int) else 0) = 1 := fun h => if_pos h
  have fal : ∀ {p : Prop} [Decidable p], ¬ p → (if p then (1 : Int) else 0) = 0 := fun h => if_neg h
  by_cases ha : hasS (acrossR r) px
  · by_cases p1 : r.y ≤ py ∧ py < r.y + top
    · rw [tot (p := hasS (acrossR r) px ∧ r.y ≤ py ∧ py < r.y + (top + sh)) ⟨ha, by omega⟩, tot (p := hasS (acrossR r) px ∧ r.y ≤ py ∧ py < r.y + top) ⟨ha, p1⟩, fal (p := hasR (sliceAt r high k) px py) (fun k => by have := hd.1 k; omega)]; rfl
    · by_cases p2 : r.y + top ≤ py ∧ py < r.y + top + sh
      · rw [tot (p := hasS (acrossR r) px ∧ r.y ≤ py ∧ py < r.y + (top + sh)) ⟨ha, by omega⟩, fal (p := hasS (acrossR r) px ∧ r.y ≤ py ∧ py < r.y + top) (fun k => p1 k.2), tot (p := hasR (sliceAt r high k) px py) (hd.2 ⟨ha, p2⟩)]; rfl
      · rw [fal (p := hasS (acrossR r) px ∧ r.y ≤ py ∧ py < r.y + (top + sh)) (fun k => by have := k.2; omega), fal (p := hasS (acrossR r) px ∧ r.y ≤ py ∧ py < r.y + top) (fun k => p1 k.2), fal (p := hasR (sliceAt r high k) px py) (fun k => p2 (hd.1 k).2)]; rfl
  · rw [fal (p := hasS (acrossR r) px ∧ r.y ≤ py ∧ py < r.y + (top + sh)) (fun k => ha k.1), fal (p := hasS (acrossR r) px ∧ r.y ≤ py ∧ py < r.y + top) (fun k => ha k.1), fal (p := hasR (sliceAt r high k) px py) (fun k => ha (hd.1 k).1)]; rfl
theorem manyK_end {r : Rc} {high px py : Int} (h0 : ¬ noneR r) (h2 : 1 ≤ high) (h3 : ¬ 32768 < (r.h - 1) / high + 1) : manyK r high px py (countS r high) = if hasR r px py then 1 else 0 := by
  unfold manyK
  rw [topK_end h0 h2 h3]
  rfl
end Go.Proofs.Ytkbpiekmphcdnaa
