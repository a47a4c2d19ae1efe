import Derived.Test.YtnipifccalalhaaDoorLexParted2
import Derived.Test.YtnipifccalalhaaDoorLexEncode
/- A script, LF, and another one, as bytes. Nothing of the program stands here. -/
namespace Go.Proofs.YtnipifccalalhaaDoor
open Go
set_option linter.unusedVariables false
set_option linter.unusedSimpArgs false
theorem bAt_left (x y : ByteArray) (i : Nat) (h : i < x.size) : bAt (x ++ y) i = bAt x i := by
  unfold bAt
  congr 2
  show (x ++ y).data[i]! = x.data[i]!
  rw [ByteArray.data_append, getElem!_def, getElem!_def, Array.getElem?_append_left h]
theorem bAt_right (x y : ByteArray) (i : Nat) : bAt (x ++ y) (x.size + i) = bAt y i := by
  unfold bAt
  congr 2
  show (x ++ y).data[x.size + i]! = y.data[i]!
  have hs : x.data.size = x.size := rfl
  rw [ByteArray.data_append, getElem!_def, getElem!_def, Array.getElem?_append_right (by omega), hs, Nat.add_sub_cancel_left]
theorem parted_append (a b : ByteArray) : Parted a b (a ++ ⟨#[10]⟩ ++ b) := by
  have h1 : (a ++ (⟨#[10]⟩ : ByteArray)).size = a.size + 1 := by rw [ByteArray.size_append]; rfl
  refine ⟨by rw [ByteArray.size_append, h1], fun i hi => ?_, ?_, fun i hi => ?_⟩
  · rw [bAt_left _ _ _ (by rw [h1]; omega), bAt_left _ _ _ hi]
  · rw [bAt_left _ _ _ (by rw [h1]; omega)]
    have := bAt_right a ⟨#[10]⟩ 0
    rw [Nat.add_zero] at this
    rw [this]; rfl
  · have := bAt_right (a ++ ⟨#[10]⟩) b i
    rw [h1] at this
    exact this
/-- each token stands somewhere. -/
theorem tok_stands {s : ByteArray} {o : List Tok} {q k : Nat} {x : Tok} (h : lexB s = (some o, q)) (hx : o[k]? = some x) : ∃ p, TokOk s x p := by
  obtain ⟨e, l, hp, _⟩ := lexB_placed h
  have hk : k < o.length := (List.getElem?_eq_some_iff.1 hx).1
  obtain ⟨e', l', hp'⟩ := hp.take o.length rfl (k + 1) (by omega)
  have e2 : o.take (k + 1) = o.take k ++ [x] := by rw [List.take_add_one, hx]; rfl
  rw [e2] at hp'
  obtain ⟨e1, l1, p, _, ht, _⟩ := hp'.last
  exact ⟨p, ht⟩
end Go.Proofs.YtnipifccalalhaaDoor
