import Derived.Test.YtikpbgkjghcidaaWords
/- Floats that are placed, and what they leave free. Nothing of the program stands here. -/
namespace Go.Proofs.Ytikpbgkjghcidaa
open Go
set_option linter.unusedVariables false
set_option linter.unusedSimpArgs false
/-- a float that is placed. -/
structure Fl where
  node : Int
  side : Int
  anchor : Int
  x : Int
  y : Int
  w : Int
  h : Int
def encFl (f : Fl) : List Value := [.int .i64 f.node, .int .i64 f.side, .int .i64 f.anchor, .int .i64 f.x, .int .i64 f.y, .int .i64 f.w, .int .i64 f.h]
theorem encFl_len (f : Fl) : (encFl f).length = 7 := rfl
theorem encFl_one (f : Fl) : ∀ u ∈ encFl f, u.oneCell' = true := by
  intro u hu
  simp [encFl] at hu
  rcases hu with rfl | rfl | rfl | rfl | rfl | rfl | rfl <;> rfl
def farB : Int := 1125899906842624
def NearI (a : Int) : Prop := -farB ≤ a ∧ a ≤ farB
/-- heights may be bottoms of floats. -/
def NearY (a : Int) : Prop := -(2 * farB) ≤ a ∧ a ≤ 2 * farB
theorem NearI.y {a : Int} (h : NearI a) : NearY a := by unfold NearI at h; unfold NearY; unfold farB at *; omega
def nearIB (a : Int) : Bool := decide (-farB ≤ a) && decide (a ≤ farB)
theorem nearIB_iff {a : Int} : nearIB a = true ↔ NearI a := by unfold nearIB NearI; simp
def Fl.near (f : Fl) : Prop := NearI f.x ∧ NearI f.y ∧ NearI f.w ∧ NearI f.h
def Fl.nearB (f : Fl) : Bool := nearIB f.x && nearIB f.y && nearIB f.w && nearIB f.h
theorem Fl.nearB_iff {f : Fl} : f.nearB = true ↔ f.near := by unfold Fl.nearB Fl.near; simp only [Bool.and_eq_true, nearIB_iff, and_assoc]
/-- does a float meet a strip? -/
def meetsF (f : Fl) (y high : Int) : Bool := decide (0 < f.h) && (decide (f.y < y + max high 1) && decide (y < f.y + f.h))
def bandStep (y high : Int) (s : Int × Int) (f : Fl) : Int × Int := if meetsF f y high then (if f.side = 1 then (max s.1 (f.x + f.w), s.2) else (s.1, min s.2 f.x)) else s
/-- the band of a strip. -/
def bandL (l : List Fl) (y high : Int) (s : Int × Int) : Int × Int := l.foldl (bandStep y high) s
def narrowF (y high a b : Int) (f : Fl) : Bool := meetsF f y high && (if f.side = 1 then decide (a < f.x + f.w) else decide (f.x < b))
def leastStep (p : Fl → Bool) (s : Int × Bool) (f : Fl) : Int × Bool := if p f then (if s.2 = false ∨ f.y + f.h < s.1 then (f.y + f.h, true) else s) else s
/-- the next height. -/
def nextL (l : List Fl) (y high a b : Int) : Int × Bool := l.foldl (leastStep (narrowF y high a b)) (0, false)
/-- the bits that two numbers have both. -/
def andI (a b : Int) : Int := bits .and .i64 a b
def lowStep (sides : Int) (s : Int × Bool) (f : Fl) : Int × Bool := if andI f.side sides = 0 then s else if s.2 = false ∨ s.1 < f.y + f.h then (f.y + f.h, true) else s
def lowestL (l : List Fl) (sides : Int) : Int × Bool := l.foldl (lowStep sides) (0, false)
def topStep (b : Int) (f : Fl) : Int := if b < f.y then f.y else b
def topF : List Fl → Int
  | [] => 0
  | f :: r => r.foldl topStep f.y
def topL (l : List Fl) : Int × Bool := (topF l, decide (0 < l.length))
theorem topF_snoc (l : List Fl) (f : Fl) : topF (l ++ [f]) = if l = [] then f.y else topStep (topF l) f := by
  cases l with
  | nil => rfl
  | cons g r => rw [if_neg (by simp)]; simp [topF, List.foldl_append]
theorem take_one {α : Type} {l : List α} {k : Nat} {x : α} (h : l[k]? = some x) : l.take (k + 1) = l.take k ++ [x] := by
  have ht := (List.getElem?_eq_some_iff.1 h).1
  rw [List.take_succ_eq_append_getElem ht, (List.getElem?_eq_some_iff.1 h).2]
theorem foldl_one {α β : Type} {l : List α} {k : Nat} {x : α} (g : β → α → β) (s : β) (h : l[k]? = some x) : (l.take (k + 1)).foldl g s = g ((l.take k).foldl g s) x := by
  rw [take_one h, List.foldl_append]; rfl
/-- numbers such as are spoken of. -/
def nearsB (l : List Fl) (more : List Int) : Bool := l.all Fl.nearB && more.all nearIB
theorem nearsB_iff {l : List Fl} {more : List Int} : nearsB l more = true ↔ (∀ f ∈ l, f.near) ∧ ∀ a ∈ more, NearI a := by
  unfold nearsB
  simp only [Bool.and_eq_true, List.all_eq_true, Fl.nearB_iff, nearIB_iff]
theorem nearsB_no {l : List Fl} {more : List Int} (h : ¬ ((∀ f ∈ l, f.near) ∧ ∀ a ∈ more, NearI a)) : nearsB l more = false := by
  rcases hq : nearsB l more with _ | _
  · rfl
  · exact absurd (nearsB_iff.1 hq) h
end Go.Proofs.Ytikpbgkjghcidaa
