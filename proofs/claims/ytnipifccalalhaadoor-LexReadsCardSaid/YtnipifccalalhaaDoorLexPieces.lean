import Derived.Test.YtnipifccalalhaaDoorLexExt
import Derived.Test.YtnipifccalalhaaDoorLexToken
/- The program's package lex: a script in pieces, and the pieces' tokens, are the document's reading. -/
namespace Go.Proofs.YtnipifccalalhaaDoor
open Go
set_option linter.unusedVariables false
set_option linter.unusedSimpArgs false
def piecesF (s : ByteArray) : Nat → Nat → Nat → More → List (Nat × Nat)
  | 0, _, from_, _ => [(from_, s.size)]
  | f + 1, k, from_, m =>
    if k < s.size then
      if m.goes (runeB s k (sizeB s k)) then piecesF s f (k + sizeB s k) from_ m
      else (from_, k) :: piecesF s f (k + sizeB s k) k (More.behind (runeB s k (sizeB s k)))
    else [(from_, s.size)]
def piecesB (s : ByteArray) : List (Nat × Nat) := piecesF s (s.size + 1) 0 0 .white
/-- what a piece is read as. -/
def nothingB (t : ByteArray) : Bool := decide (t.size = 0) || bAt t 0 == 35 || whiteC (bAt t 0)
def pieceTok (s : ByteArray) (p : Nat × Nat) : Option (Tok × Bool) := if nothingB (s.extract p.1 p.2) then none else some (tokR (s.extract p.1 p.2) p.1)
def toksP (s : ByteArray) (ps : List (Nat × Nat)) : List (Tok × Bool) := ps.filterMap (pieceTok s)
def foldT : List (Tok × Bool) → List Tok → Option (List Tok) × Nat
  | [], out => (some out, 0)
  | (x, true) :: r, out => foldT r (out ++ [x])
  | (x, false) :: _, _ => (none, x.at_.toNat)
theorem lexF_fuel {s : ByteArray} : ∀ (f f' : Nat) (c : Bool) (k : Nat) (out : List Tok), s.size ≤ k + f → s.size ≤ k + f' → lexF s f c k out = lexF s f' c k out := by
  intro f
  induction f with
  | zero =>
    intro f' c k out h1 h2
    rw [lexF_end (by omega), lexF_end (by omega)]
  | succ f ih =>
    intro f' c k out h1 h2
    by_cases hk : k < s.size
    · match f', h2 with
      | 0, h2 => omega
      | f' + 1, h2 =>
        rw [lexF, if_pos hk, lexF, if_pos hk]
        by_cases hz : sizeB s k = 0
        · rw [if_pos hz, if_pos hz]
        rw [if_neg hz, if_neg hz]
        cases c
        · simp only [Bool.false_eq_true, if_false]
          rw [ih f' true (k + 1) out (by omega) (by omega), ih f' false (k + 1) out (by omega) (by omega), ih f' false (k + sizeB s k) _ (by omega) (by omega)]
          rcases hd : digB s k with _ | _
          · rfl
          · have := numB_gt hd
            rw [ih f' false (numB s k).2 _ (by omega) (by omega)]
        · simp only [if_true]
          rw [ih f' _ (k + sizeB s k) out (by omega) (by omega)]
    · rw [lexF_end hk, lexF_end hk]
/-- the reading from k on; with a comment open. -/
def lexK (s : ByteArray) (c : Bool) (k : Nat) (out : List Tok) : Option (List Tok) × Nat := lexF s (s.size + 1) c k out
theorem lexK_end {s : ByteArray} {c : Bool} {k : Nat} {out : List Tok} (h : ¬ k < s.size) : lexK s c k out = (some out, 0) := lexF_end h
theorem lexK_open {s : ByteArray} {k : Nat} {c : Bool} {out : List Tok} (h : k < s.size) : lexK s c k out =
      if sizeB s k = 0 then (none, k)
      else if c then lexK s (decide (bAt s k ≠ 10)) (k + sizeB s k) out
      else if bAt s k = 35 then lexK s true (k + 1) out
      else if bAt s k = 32 ∨ bAt s k = 9 ∨ bAt s k = 10 then lexK s false (k + 1) out
      else if digB s k then
        if 1099511627776 < (numB s k).1 ∨ (bAt s k = 48 ∧ k + 1 < (numB s k).2) then (none, k) else lexK s false (numB s k).2 (out ++ [⟨2, 0, (numB s k).1, k⟩])
      else lexK s false (k + sizeB s k) (out ++ [⟨1, runeB s k (sizeB s k), 0, k⟩]) := by
  unfold lexK
  rw [lexF, if_pos h]
  by_cases hz : sizeB s k = 0
  · rw [if_pos hz, if_pos hz]
  rw [if_neg hz, if_neg hz]
  have ih := fun (c : Bool) (k' : Nat) (o : List Tok) (hk : k < k') => lexF_fuel (s := s) s.size (s.size + 1) c k' o (by omega) (by omega)
  cases c
  · simp only [Bool.false_eq_true, if_false]
    rw [ih true (k + 1) out (by omega), ih false (k + 1) out (by omega), ih false (k + sizeB s k) _ (by omega)]
    rcases hd : digB s k with _ | _
    · rfl
    · have := numB_gt hd
      rw [ih false (numB s k).2 _ (by omega)]
  · simp only [if_true]
    rw [ih _ (k + sizeB s k) out (by omega)]
/-- what has been read, and what is to be read on, in a piece that began at from_ and has gone to k. -/
def stay (s : ByteArray) : More → Nat → Nat → List Tok → Option (List Tok) × Nat
  | .white, _, k, out => lexK s false k out
  | .hash, _, k, out => lexK s true k out
  | .digit, from_, _, out => lexK s false from_ out
  | .sign, from_, k, out => lexK s false k (out ++ [⟨1, runeB s from_ (sizeB s from_), 0, from_⟩])
/-- what is known of a piece that began at from_ and has gone to k. -/
def Piece (s : ByteArray) : More → Nat → Nat → Prop
  | .white, from_, k => from_ ≤ k ∧ (from_ < k → whiteC (bAt s from_) = true)
  | .hash, from_, k => from_ < k ∧ bAt s from_ = 35
  | .digit, from_, k => from_ < k ∧ (∀ i, from_ ≤ i → i < k → digB s i = true)
  | .sign, from_, k => k = from_ + sizeB s from_ ∧ sizeB s from_ ≠ 0 ∧ bAt s from_ ≠ 35 ∧ whiteC (runeB s from_ (sizeB s from_)) = false ∧ digitC (runeB s from_ (sizeB s from_)) = false
theorem whiteC_big {c : Int} (h : 128 ≤ c) : whiteC c = false := by unfold whiteC; simp; omega
theorem digitC_big {c : Int} (h : 128 ≤ c) : digitC c = false := by unfold digitC; simp; omega
theorem whiteC_iff {c : Int} : whiteC c = true ↔ c = 32 ∨ c = 9 ∨ c = 10 := by unfold whiteC; simp; omega
theorem digB_digitC {s : ByteArray} {k : Nat} (hk : k < s.size) : digB s k = digitC (bAt s k) := by unfold digB digitC; rw [inB_at hk]
/-- a piece begins: what the first character tells. -/
theorem begin_piece {s : ByteArray} {k : Nat} {out : List Tok} (hk : k < s.size) (hz : sizeB s k ≠ 0) :
    Piece s (More.behind (runeB s k (sizeB s k))) k (k + sizeB s k) ∧ stay s (More.behind (runeB s k (sizeB s k))) k (k + sizeB s k) out = lexK s false k out := by
  rw [lexK_open hk, if_neg hz]
  simp only [Bool.false_eq_true, if_false]
  unfold More.behind
  rcases rune_byte hz with ⟨h1, h2, h3⟩ | ⟨h1, h2, h3⟩
  · rw [h3, h2]
    rcases hw : whiteC (bAt s k) with _ | _
    · have hnw : ¬ (bAt s k = 32 ∨ bAt s k = 9 ∨ bAt s k = 10) := by rw [← whiteC_iff, hw]; simp
      rw [if_neg hnw]
      rcases hd : digitC (bAt s k) with _ | _
      · rw [digB_digitC hk, hd]
        simp only [Bool.false_eq_true, if_false]
        by_cases h35 : bAt s k = 35
        · rw [if_pos h35, if_pos h35]
          exact ⟨⟨by omega, h35⟩, rfl⟩
        · rw [if_neg h35, if_neg h35]
          refine ⟨⟨by rw [h2], hz, h35, by rw [h3]; exact hw, by rw [h3]; exact hd⟩, ?_⟩
          show lexK s false (k + 1) (out ++ [⟨1, runeB s k (sizeB s k), 0, k⟩]) = _
          rw [h3]
      · have h35 : bAt s k ≠ 35 := by unfold digitC at hd; simp at hd; omega
        simp only [Bool.false_eq_true, if_false, if_true]
        rw [if_neg h35, digB_digitC hk, hd]
        simp only [if_true]
        refine ⟨⟨by omega, fun i hi1 hi2 => ?_⟩, ?_⟩
        · obtain rfl : i = k := by omega
          rw [digB_digitC hk, hd]
        · show lexK s false k out = _
          rw [lexK_open hk, if_neg hz]
          simp only [Bool.false_eq_true, if_false]
          rw [if_neg h35, if_neg hnw, digB_digitC hk, hd]
          simp only [if_true]
    · have hyw := whiteC_iff.1 hw
      simp only [if_true]
      rw [if_neg (by omega), if_pos hyw]
      exact ⟨⟨by omega, fun _ => hw⟩, rfl⟩
  · rw [whiteC_big h3, digitC_big h3]
    simp only [Bool.false_eq_true, if_false]
    rw [if_neg (show ¬ runeB s k (sizeB s k) = 35 by omega), if_neg (by omega), if_neg (by omega), digB_digitC hk, digitC_big h1]
    simp only [Bool.false_eq_true, if_false]
    exact ⟨⟨rfl, hz, by omega, whiteC_big h3, digitC_big h3⟩, rfl⟩
end Go.Proofs.YtnipifccalalhaaDoor
