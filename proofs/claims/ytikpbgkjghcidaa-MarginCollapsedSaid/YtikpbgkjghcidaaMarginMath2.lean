import Derived.Test.YtikpbgkjghcidaaMarginMath
/- Margins that collapse: the greatest one, in any order. Nothing of the program stands here. -/
namespace Go.Proofs.Ytikpbgkjghcidaa
open Go
set_option linter.unusedVariables false
set_option linter.unusedSimpArgs false
theorem raise_comm (m a b : Int) : raiseI (raiseI m a) b = raiseI (raiseI m b) a := by simp only [raiseI_max]; omega
theorem fold_raise_last (a : Int) : ∀ (l : List Int) (m : Int), raiseI (l.foldl raiseI m) a = l.foldl raiseI (raiseI m a)
  | [], m => rfl
  | b :: r, m => by
    show raiseI (r.foldl raiseI (raiseI m b)) a = r.foldl raiseI (raiseI (raiseI m a) b)
    rw [fold_raise_last a r, raise_comm]
theorem fold_raise_reverse : ∀ (l : List Int) (m : Int), l.reverse.foldl raiseI m = l.foldl raiseI m
  | [], m => rfl
  | a :: r, m => by
    rw [List.reverse_cons, List.foldl_append, fold_raise_reverse r m]
    exact fold_raise_last a r m
theorem fold_raise_near : ∀ (l : List Int) (m : Int), NearI m → (∀ z ∈ l, NearI z) → NearI (l.foldl raiseI m)
  | [], m, h, _ => h
  | a :: r, m, h, hl => by
    refine fold_raise_near r (raiseI m a) ?_ (fun z hz => hl z (by simp [hz]))
    have ha := hl a (by simp)
    unfold raiseI
    split
    · exact ha
    · exact h
/-- steps that begin and end blocks without paddings, of these margins. -/
def Plain (l : List Stp) (zs : List Int) : Prop := (∀ s ∈ l, (s.kind = 1 ∨ s.kind = 2) ∧ s.b = 0) ∧ l.map Stp.a = zs
theorem Plain.nil : Plain [] [] := ⟨fun s hs => (by cases hs), rfl⟩
theorem Plain.snoc {l : List Stp} {zs : List Int} (h : Plain l zs) {k z : Int} (hk : k = 1 ∨ k = 2) : Plain (l ++ [⟨k, z, 0⟩]) (zs ++ [z]) := by
  refine ⟨fun s hs => ?_, ?_⟩
  · rcases List.mem_append.1 hs with hs | hs
    · exact h.1 s hs
    · simp only [List.mem_singleton] at hs
      subst hs
      exact ⟨hk, rfl⟩
  · rw [List.map_append, h.2]; rfl
theorem Plain.len {l : List Stp} {zs : List Int} (h : Plain l zs) : l.length = zs.length := by rw [← h.2, List.length_map]
theorem Plain.near {l : List Stp} {zs : List Int} (h : Plain l zs) (hz : ∀ z ∈ zs, NearI z) {high : Int} (hh : NearI high) : ∀ s ∈ l ++ [⟨4, high, 0⟩], s.near := by
  intro s hs
  have h0 : NearI 0 := ⟨by decide, by decide⟩
  rcases List.mem_append.1 hs with hs | hs
  · refine ⟨hz _ (by rw [← h.2]; exact List.mem_map_of_mem hs), ?_⟩
    rw [(h.1 s hs).2]; exact h0
  · simp only [List.mem_singleton] at hs
    subst hs
    exact ⟨hh, h0⟩
theorem Plain.pen {l : List Stp} {zs : List Int} (h : Plain l zs) (y m high : Int) :
    penL (y, m) (l ++ [⟨4, high, 0⟩]) = (y + zs.foldl raiseI m + high, 0) ∧ placesL (y, m) (l ++ [⟨4, high, 0⟩]) = [y + zs.foldl raiseI m] := by
  obtain ⟨h1, h2⟩ := penL_margins l y m h.1
  have h3 : l.foldl (fun x s => raiseI x s.a) m = zs.foldl raiseI m := by rw [← h.2, List.foldl_map]
  rw [h3] at h1
  refine ⟨?_, ?_⟩
  · unfold penL at h1 ⊢
    rw [List.foldl_append, h1]
    rfl
  · rw [placesL_append, h2, h1]
    rfl
/-- the two kinds that the law makes of an index. -/
theorem kind_up (k : Nat) : (1 : Int) + Int.tmod (k : Int) 2 = 1 ∨ (1 : Int) + Int.tmod (k : Int) 2 = 2 := by
  have h : Int.tmod (k : Int) 2 = ((k % 2 : Nat) : Int) := by rw [Int.ofNat_tmod k 2]; rfl
  omega
theorem kind_down (k : Nat) : (2 : Int) - Int.tmod (k : Int) 2 = 1 ∨ (2 : Int) - Int.tmod (k : Int) 2 = 2 := by
  have h : Int.tmod (k : Int) 2 = ((k % 2 : Nat) : Int) := by rw [Int.ofNat_tmod k 2]; rfl
  omega
end Go.Proofs.Ytikpbgkjghcidaa
