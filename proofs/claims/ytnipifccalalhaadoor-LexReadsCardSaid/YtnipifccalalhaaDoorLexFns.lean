import Derived.Test.YtnipifccalalhaaDoorLexRef
import Derived.Test.YtnipifccalalhaaDoorLexMath2
/- The program's package lex: the functions that tell of one character. -/
namespace Go.Proofs.YtnipifccalalhaaDoor
open Go.RowKit
set_option linter.unusedVariables false
set_option linter.unusedSimpArgs false
def whiteC (c : Int) : Bool := c == 32 || c == 9 || c == 10
def digitC (c : Int) : Bool := decide (48 ≤ c) && decide (c ≤ 57)
theorem white_any (c : Int) (w : World) : Calls Tryd.prog 30 #[.int .i32 c] w fun e w' => e = .returned (.bool (whiteC c)) ∧ w = w' := by
  by_cases h1 : c = 32
  · subst h1
    go_enter Tryd.func30, Tryd.ntmps30
    go_wp2
    go_ret
    exact ⟨rfl, rfl⟩
  · by_cases h2 : c = 9
    · subst h2
      go_enter Tryd.func30, Tryd.ntmps30
      go_wp2
      go_ret
      exact ⟨rfl, rfl⟩
    · have e1 : (c == 32) = false := by simp [h1]
      have e2 : (c == 9) = false := by simp [h2]
      go_enter Tryd.func30, Tryd.ntmps30
      go_wp2
      go_ret
      exact ⟨ret_bool (by simp [whiteC, h1, h2]), rfl⟩
theorem digit_any (c : Int) (w : World) : Calls Tryd.prog 33 #[.int .i32 c] w fun e w' => e = .returned (.bool (digitC c)) ∧ w = w' := by
  by_cases h1 : 48 ≤ c
  · by_cases h2 : c ≤ 57
    all_goals
      go_enter Tryd.func33, Tryd.ntmps33
      go_wp2
      go_ret
      exact ⟨ret_bool (by simp [digitC, h1, h2]), rfl⟩
  · go_enter Tryd.func33, Tryd.ntmps33
    go_wp2
    go_ret
    exact ⟨ret_bool (by simp [digitC]; omega), rfl⟩
theorem hash_any (c : Int) (w : World) : Calls Tryd.prog 35 #[.int .i32 c] w fun e w' => e = .returned (.bool (c != 10)) ∧ w = w' := by
  go_enter Tryd.func35, Tryd.ntmps35
  go_wp2
  go_ret
  exact ⟨rfl, rfl⟩
theorem sgn_any (c : Int) (w : World) : Calls Tryd.prog 36 #[.int .i32 c] w fun e w' => e = .returned (.bool false) ∧ w = w' := by
  go_enter Tryd.func36, Tryd.ntmps36
  go_wp2
  go_ret
  exact ⟨rfl, rfl⟩
/-- which characters go on with a piece. -/
inductive More where
  | white | digit | hash | sign
  deriving DecidableEq
def More.fn : More → Value
  | .white => .func (.func 30) #[] #[]
  | .digit => .func (.func 33) #[] #[]
  | .hash => .func (.func 35) #[] #[]
  | .sign => .func (.func 36) #[] #[]
def More.goes : More → Int → Bool
  | .white, c => whiteC c
  | .digit, c => digitC c
  | .hash, c => c != 10
  | .sign, _ => false
def More.behind (c : Int) : More := if whiteC c then .white else if digitC c then .digit else if c = 35 then .hash else .sign
theorem behind_any (c : Int) (w : World) : Calls Tryd.prog 31 #[.int .i32 c] w fun e w' => e = .returned (More.behind c).fn ∧ w = w' := by
  rcases hw : whiteC c with _ | _
  · rcases hd : digitC c with _ | _
    · by_cases h : c = 35
      · subst h
        go_enter Tryd.func31, Tryd.ntmps31
        go_wp2_with (first | (go_at_call 30; refine (white_any _ _).mono ?_; rintro e w' ⟨rfl, rfl⟩) | (go_at_call 33; refine (digit_any _ _).mono ?_; rintro e w' ⟨rfl, rfl⟩))
        go_ret
        exact ⟨rfl, rfl⟩
      · have h35 : (c == 35) = false := by simp [h]
        go_enter Tryd.func31, Tryd.ntmps31
        go_wp2_with (first | (go_at_call 30; refine (white_any _ _).mono ?_; rintro e w' ⟨rfl, rfl⟩) | (go_at_call 33; refine (digit_any _ _).mono ?_; rintro e w' ⟨rfl, rfl⟩))
        go_ret
        exact ⟨by simp [More.behind, hw, hd, h, More.fn], rfl⟩
    · go_enter Tryd.func31, Tryd.ntmps31
      go_wp2_with (first | (go_at_call 30; refine (white_any _ _).mono ?_; rintro e w' ⟨rfl, rfl⟩) | (go_at_call 33; refine (digit_any _ _).mono ?_; rintro e w' ⟨rfl, rfl⟩))
      go_ret
      exact ⟨by simp [More.behind, hw, hd, More.fn], rfl⟩
  · go_enter Tryd.func31, Tryd.ntmps31
    go_wp2_with (first | (go_at_call 30; refine (white_any _ _).mono ?_; rintro e w' ⟨rfl, rfl⟩))
    go_ret
    exact ⟨by simp [More.behind, hw, More.fn], rfl⟩
/-- a call of the function that tells which characters go on. -/
theorem more_calls (m : More) (c : Int) (w : World) : ∃ f, m.fn = .func (.func f) #[] #[] ∧ Calls Tryd.prog f #[.int .i32 c] w fun e w' => e = .returned (.bool (m.goes c)) ∧ w = w' := by
  cases m
  · exact ⟨_, rfl, white_any c w⟩
  · exact ⟨_, rfl, digit_any c w⟩
  · exact ⟨_, rfl, hash_any c w⟩
  · exact ⟨_, rfl, sgn_any c w⟩
end Go.Proofs.YtnipifccalalhaaDoor
