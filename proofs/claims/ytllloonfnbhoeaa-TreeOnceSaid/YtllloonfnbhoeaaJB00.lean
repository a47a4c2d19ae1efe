import Derived.Test.YtllloonfnbhoeaaJA01
/- How often each node has been met, as a list. Nothing of the program stands here. -/
namespace Go.Proofs.Ytllloonfnbhoeaa
open Go
set_option linter.unusedVariables false
set_option linter.unusedSimpArgs false
def seenI (L : List Nd) (a : Int) (t n : Nat) : List Int := (List.range n).map (metI L a t)
theorem seen_len (L : List Nd) (a : Int) (t n : Nat) : (seenI L a t n).length = n := by unfold seenI; simp
theorem seen_get {L : List Nd} {a : Int} {t n k : Nat} (h : k < n) : (seenI L a t n)[k]? = some (metI L a t k) := by
  unfold seenI
  rw [List.getElem?_map, List.getElem?_range h]; rfl
theorem seen_start {L : List Nd} {n : Nat} (h : L.length = n) : seenI L (-1) 0 n = List.replicate n 0 := by
  rw [List.eq_replicate_iff]
  refine ⟨seen_len _ _ _ _, fun b hb => ?_⟩
  unfold seenI at hb
  obtain ⟨j, hj, rfl⟩ := List.mem_map.1 hb
  exact met_start L (by rw [h]; exact List.mem_range.1 hj)
theorem seen_next {L : List Nd} {n : Nat} (h : L.length = n) (a : Int) : seenI L (a + 1) 0 n = seenI L a (kidsI L a).length n := by
  unfold seenI
  apply List.map_congr_left
  intro j hj
  exact met_next L a (by rw [h]; exact List.mem_range.1 hj)
theorem seen_step {L : List Nd} {n : Nat} (a : Int) {t k : Nat} (hk : (kidsI L a)[t]? = some (k : Int)) : seenI L a (t + 1) n = (seenI L a t n).set k (metI L a t k + 1) := by
  apply List.ext_getElem?
  intro j
  by_cases hj : j < n
  · rw [seen_get hj, List.getElem?_set, met_step L a hk]
    by_cases e : k = j
    · subst e
      rw [if_pos rfl, if_pos rfl, if_pos (by rw [seen_len]; exact hj)]
    · rw [if_neg (fun q => e q.symm), if_neg e, seen_get hj]
  · rw [List.getElem?_eq_none (by rw [seen_len]; omega), List.getElem?_eq_none (by rw [List.length_set, seen_len]; omega)]
theorem seen_all {L : List Nd} {n k : Nat} (h : L.length = n) (hk : k < n) : (seenI L (n : Int) 0 n)[k]? = some 1 := by
  rw [seen_get hk, ← h, met_all L (by omega)]
theorem met_bd (L : List Nd) (a : Int) (t k : Nat) : 0 ≤ metI L a t k ∧ metI L a t k ≤ 1 := by
  unfold metI
  split <;> omega
end Go.Proofs.Ytllloonfnbhoeaa
/- Going up from a node, step by step; whether a node has been met on the way. Nothing of the program stands here. -/
namespace Go.Proofs.Ytllloonfnbhoeaa
open Go
set_option linter.unusedVariables false
set_option linter.unusedSimpArgs false
/-- t steps above b stands c. -/
def StepP (L : List Nd) (b t c : Nat) : Prop := c < L.length ∧ aboveP L c = (aboveP L b).drop t
theorem stepP_start {L : List Nd} {b : Nat} (hb : b < L.length) : StepP L b 0 b := ⟨hb, rfl⟩
theorem stepP_next {L : List Nd} (hn : Nested L) {b t c : Nat} (h : StepP L b t c) (ht : t < (aboveP L b).length) : ∃ u : Nat, (aboveP L b)[t]? = some u ∧ parentI L (c : Int) = (u : Int) ∧ StepP L b (t + 1) u := by
  obtain ⟨hc, ha⟩ := h
  have hu : (aboveP L b)[t]? = some ((aboveP L b)[t]'ht) := List.getElem?_eq_getElem _
  rw [List.drop_eq_getElem_cons ht] at ha
  have hp : parentP L c = some ((aboveP L b)[t]'ht) := by unfold parentP; rw [ha]; rfl
  have hl := parent_lt hp
  have hab := above_parent hn hp
  refine ⟨_, hu, ?_, by omega, ?_⟩
  · rw [parentI_nat hc, hp]
  · rw [ha] at hab
    injection hab with _ hab
    exact hab.symm
theorem stepP_end {L : List Nd} {b t c : Nat} (h : StepP L b t c) (ht : (aboveP L b).length ≤ t) : parentI L (c : Int) = -1 := by
  obtain ⟨hc, ha⟩ := h
  rw [List.drop_eq_nil_of_le ht] at ha
  have hp : parentP L c = none := by unfold parentP; rw [ha]; rfl
  rw [parentI_nat hc, hp]
/-- is a the node at b, or among the first t above it? -/
def flagP (L : List Nd) (a b t : Nat) : Bool := decide (a = b) || decide (a ∈ (aboveP L b).take t)
theorem flagP_zero (L : List Nd) (a b : Nat) : flagP L a b 0 = decide (a = b) := by unfold flagP; simp
theorem flagP_step {L : List Nd} {a b t u : Nat} (h : (aboveP L b)[t]? = some u) : flagP L a b (t + 1) = (flagP L a b t || decide (u = a)) := by
  have ht := (List.getElem?_eq_some_iff.1 h).1
  have hu := (List.getElem?_eq_some_iff.1 h).2
  unfold flagP
  rw [List.take_succ_eq_append_getElem ht, hu, Bool.or_assoc]
  congr 1
  rw [Bool.eq_iff_iff]
  simp only [Bool.or_eq_true, decide_eq_true_eq, List.mem_append, List.mem_singleton]
  constructor
  · rintro (h1 | h1)
    · exact .inl h1
    · exact .inr h1.symm
  · rintro (h1 | h1)
    · exact .inl h1
    · exact .inr h1.symm
theorem flagP_all {L : List Nd} (hn : Nested L) {a b t : Nat} (ha : a < L.length) (hb : b < L.length) (ht : (aboveP L b).length ≤ t) : holdsI L (a : Int) (b : Int) = flagP L a b t := by
  unfold holdsI flagP
  rw [hasI_iff.2 ⟨by omega, by omega⟩, hasI_iff.2 ⟨by omega, by omega⟩, Int.toNat_natCast, Int.toNat_natCast, List.take_of_length_le ht, Bool.eq_iff_iff]
  simp only [Bool.true_and, Bool.or_eq_true, decide_eq_true_eq]
  exact hold_above hn hb
theorem aboveI_get {L : List Nd} {b t u : Nat} (hb : b < L.length) (h : (aboveP L b)[t]? = some u) : (aboveI L (b : Int))[t]? = some (u : Int) := by
  rw [aboveI_nat hb, List.getElem?_map, h]; rfl
theorem aboveI_len {L : List Nd} {b : Nat} (hb : b < L.length) : (aboveI L (b : Int)).length = (aboveP L b).length := by
  rw [aboveI_nat hb, List.length_map]
end Go.Proofs.Ytllloonfnbhoeaa
