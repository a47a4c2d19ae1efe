import Derived.Test.YtakdopblggkfnaaWords
/- Words broken into lines of one width. Nothing of the program stands here. -/
namespace Go.Proofs.Ytakdopblggkfnaa
open Go
set_option linter.unusedVariables false
set_option linter.unusedSimpArgs false
/-- the word at i. -/
def wordI (zs : List Int) (i : Nat) : Int := zs[i]?.getD 0
/-- how wide k words are together, from a on. -/
def sumK (zs : List Int) (a : Nat) : Nat → Int
  | 0 => 0
  | k + 1 => sumK zs a k + wordI zs (a + k)
/-- how wide the run from a up to b is. -/
def wideN (zs : List Int) (sp : Int) (a b : Nat) : Int := if a < b ∧ b ≤ zs.length then ((b : Int) - a - 1) * sp + sumK zs a (b - a) else 0
def wideI (zs : List Int) (sp a b : Int) : Int := if 0 ≤ a ∧ 0 ≤ b then wideN zs sp a.toNat b.toNat else 0
/-- numbers such as are spoken of. -/
def farN : Int := 35184372088832
def Near9 (zs : List Int) (sp : Int) : Prop := (0 ≤ sp ∧ sp ≤ farN) ∧ ∀ z ∈ zs, 0 ≤ z ∧ z ≤ farN
theorem word_bd {zs : List Int} {sp : Int} (h : Near9 zs sp) (i : Nat) : 0 ≤ wordI zs i ∧ wordI zs i ≤ farN := by
  unfold wordI
  cases hq : zs[i]? with
  | none => show (0 : Int) ≤ 0 ∧ (0 : Int) ≤ farN; unfold farN; omega
  | some z => exact h.2 z (List.mem_of_getElem? hq)
theorem sumK_bd {zs : List Int} {sp : Int} (h : Near9 zs sp) (a : Nat) : ∀ k : Nat, 0 ≤ sumK zs a k ∧ sumK zs a k ≤ k * farN
  | 0 => by unfold sumK farN; omega
  | k + 1 => by
    have h1 := sumK_bd h a k
    have h2 := word_bd h (a + k)
    unfold sumK
    unfold farN at *
    omega
theorem sumK_front (zs : List Int) (a : Nat) : ∀ k : Nat, sumK zs a (k + 1) = wordI zs a + sumK zs (a + 1) k
  | 0 => by unfold sumK; unfold sumK; rw [Nat.add_zero]; omega
  | k + 1 => by
    rw [sumK, sumK_front zs a k]
    conv => rhs; rw [sumK]
    rw [show a + 1 + k = a + (k + 1) by omega]
    omega
theorem wideN_one {zs : List Int} {sp : Int} {a : Nat} (h : a < zs.length) : wideN zs sp a (a + 1) = wordI zs a := by
  unfold wideN
  rw [if_pos ⟨by omega, by omega⟩, show a + 1 - a = 0 + 1 by omega, show ((a + 1 : Nat) : Int) - (a : Int) - 1 = 0 by omega]
  simp only [sumK, Nat.add_zero]
  omega
theorem wideN_step {zs : List Int} {sp : Int} {a b : Nat} (h1 : a < b) (h2 : b < zs.length) : wideN zs sp a (b + 1) = wideN zs sp a b + sp + wordI zs b := by
  unfold wideN
  rw [if_pos ⟨by omega, by omega⟩, if_pos ⟨by omega, by omega⟩, show b + 1 - a = (b - a) + 1 by omega, sumK, show a + (b - a) = b by omega]
  have h3 : (((b + 1 : Nat) : Int) - (a : Int) - 1) * sp = ((b : Int) - a - 1) * sp + sp := by
    rw [show ((b + 1 : Nat) : Int) - (a : Int) - 1 = ((b : Int) - a - 1) + 1 by omega, Int.add_mul, Int.one_mul]
  rw [h3]
  generalize ((b : Int) - a - 1) * sp = X
  omega
theorem wideN_front {zs : List Int} {sp : Int} {a b : Nat} (h1 : a + 1 < b) (h2 : b ≤ zs.length) : wideN zs sp a b = wordI zs a + sp + wideN zs sp (a + 1) b := by
  unfold wideN
  rw [if_pos ⟨by omega, by omega⟩, if_pos ⟨by omega, by omega⟩]
  obtain ⟨k, hk⟩ : ∃ k, b - a = k + 1 := ⟨b - a - 1, by omega⟩
  rw [hk, sumK_front, show b - (a + 1) = k by omega]
  have : (b : Int) - (a : Int) - 1 = ((b : Int) - ((a + 1 : Nat) : Int) - 1) + 1 := by omega
  rw [this, Int.add_mul, Int.one_mul]
  omega
theorem wideN_bd {zs : List Int} {sp : Int} (h : Near9 zs sp) (a b : Nat) : 0 ≤ wideN zs sp a b ∧ wideN zs sp a b ≤ 2 * zs.length * farN := by
  have hs := sumK_bd h a (b - a)
  obtain ⟨⟨h1, h2⟩, _⟩ := h
  unfold wideN
  split
  · rename_i hc
    obtain ⟨c1, c2⟩ := hc
    obtain ⟨d, hd⟩ : ∃ d : Nat, (b : Int) - a - 1 = (d : Int) := ⟨b - a - 1, by omega⟩
    rw [hd]
    have e1 : 0 ≤ (d : Int) * sp := Int.mul_nonneg (by omega) h1
    have e2 : (d : Int) * sp ≤ (d : Int) * farN := Int.mul_le_mul_of_nonneg_left h2 (by omega)
    have e3 : (d : Int) * farN ≤ (zs.length : Int) * farN := Int.mul_le_mul_of_nonneg_right (by omega) (by unfold farN; omega)
    have e4 : ((b - a : Nat) : Int) * farN ≤ (zs.length : Int) * farN := Int.mul_le_mul_of_nonneg_right (by omega) (by unfold farN; omega)
    have e5 : 2 * (zs.length : Int) * farN = (zs.length : Int) * farN + (zs.length : Int) * farN := by rw [Int.mul_assoc]; omega
    omega
  · refine ⟨Int.le_refl _, Int.mul_nonneg (by omega) (by unfold farN; omega)⟩
theorem wide_grow {zs : List Int} {sp : Int} (h : Near9 zs sp) {a b c : Nat} (h1 : a < b) (h2 : b ≤ c) (h3 : c ≤ zs.length) : wideN zs sp a b ≤ wideN zs sp a c := by
  obtain ⟨d, rfl⟩ : ∃ d, c = b + d := ⟨c - b, by omega⟩
  induction d with
  | zero => exact Int.le_refl _
  | succ d ih =>
    have hw := word_bd h (b + d)
    have := ih (by omega) (by omega)
    rw [← Nat.add_assoc, wideN_step (by omega) (by omega)]
    have := h.1.1
    omega
theorem wide_less {zs : List Int} {sp : Int} (h : Near9 zs sp) {a a' b : Nat} (h1 : a ≤ a') (h2 : a' < b) (h3 : b ≤ zs.length) : wideN zs sp a' b ≤ wideN zs sp a b := by
  obtain ⟨d, rfl⟩ : ∃ d, a' = a + d := ⟨a' - a, by omega⟩
  induction d with
  | zero => exact Int.le_refl _
  | succ d ih =>
    have hw := word_bd h (a + d)
    have h4 := ih (by omega) (by omega)
    rw [wideN_front (a := a + d) (by omega) h3, Nat.add_assoc] at h4
    have := h.1.1
    omega
/-- where the line from a on ends, if it has come to t. -/
def endF (zs : List Int) (sp wd : Int) (a : Nat) : Nat → Nat → Nat
  | 0, t => t
  | f + 1, t => if t < zs.length ∧ wideN zs sp a (t + 1) ≤ wd then endF zs sp wd a f (t + 1) else t
def endP (zs : List Int) (sp wd : Int) (a : Nat) : Nat := endF zs sp wd a zs.length (a + 1)
/-- the line from a on may end at t, and doesn't. -/
def LineTo (zs : List Int) (sp wd : Int) (a t : Nat) : Prop := a < t ∧ t ≤ zs.length ∧ (t = a + 1 ∨ wideN zs sp a t ≤ wd)
def Full (zs : List Int) (sp wd : Int) (a t : Nat) : Prop := t < zs.length → wd < wideN zs sp a (t + 1)
theorem endF_spec {zs : List Int} {sp wd : Int} {a : Nat} : ∀ (f t : Nat), LineTo zs sp wd a t → zs.length ≤ t + f → LineTo zs sp wd a (endF zs sp wd a f t) ∧ Full zs sp wd a (endF zs sp wd a f t)
  | 0, t, h, hf => ⟨h, fun h1 => by have := h.2.1; unfold endF at h1; omega⟩
  | f + 1, t, h, hf => by
    unfold endF
    by_cases hc : t < zs.length ∧ wideN zs sp a (t + 1) ≤ wd
    · rw [if_pos hc]
      exact endF_spec f (t + 1) ⟨by have := h.1; omega, by omega, .inr hc.2⟩ (by omega)
    · rw [if_neg hc]
      exact ⟨h, fun h1 => by
        rcases Int.lt_or_le wd (wideN zs sp a (t + 1)) with h2 | h2
        · exact h2
        · exact absurd ⟨h1, h2⟩ hc⟩
theorem endP_spec {zs : List Int} {sp wd : Int} {a : Nat} (h : a < zs.length) : LineTo zs sp wd a (endP zs sp wd a) ∧ Full zs sp wd a (endP zs sp wd a) :=
  endF_spec _ _ ⟨by omega, by omega, .inl rfl⟩ (by omega)
/-- no line from a on ends further on. -/
theorem full_most {zs : List Int} {sp wd : Int} (hn : Near9 zs sp) {a b e t : Nat} (hb : b ≤ a) (hl : LineTo zs sp wd b e) (h1 : LineTo zs sp wd a t) (h2 : Full zs sp wd a t) : e ≤ t := by
  rcases Nat.lt_or_ge t e with h3 | h3
  · exfalso
    have h4 := h2 (by have := hl.2.1; omega)
    have hat := h1.1
    have hle := hl.2.1
    have h5 : wideN zs sp a (t + 1) ≤ wideN zs sp a e := wide_grow hn (by omega) (by omega) hle
    have h6 : wideN zs sp a e ≤ wideN zs sp b e := wide_less hn hb (by omega) hle
    rcases hl.2.2 with h7 | h7 <;> omega
  · exact h3
theorem full_one {zs : List Int} {sp wd : Int} (hn : Near9 zs sp) {a t u : Nat} (h1 : LineTo zs sp wd a t) (h2 : Full zs sp wd a t) (h3 : LineTo zs sp wd a u) (h4 : Full zs sp wd a u) : t = u := by
  have := full_most hn (Nat.le_refl a) h1 h3 h4
  have := full_most hn (Nat.le_refl a) h3 h1 h2
  omega
/-- the lines from a on. -/
def linesF (zs : List Int) (sp wd : Int) : Nat → Nat → List (Nat × Nat)
  | 0, _ => []
  | f + 1, a => if a < zs.length then (a, endP zs sp wd a) :: linesF zs sp wd f (endP zs sp wd a) else []
def linesP (zs : List Int) (sp wd : Int) (a : Nat) : List (Nat × Nat) := linesF zs sp wd (zs.length - a) a
theorem linesF_eq {zs : List Int} {sp wd : Int} : ∀ (f g a : Nat), zs.length ≤ a + f → zs.length ≤ a + g → linesF zs sp wd f a = linesF zs sp wd g a
  | 0, 0, a, _, _ => rfl
  | 0, g + 1, a, h1, h2 => by unfold linesF; rw [if_neg (by omega)]
  | f + 1, 0, a, h1, h2 => by unfold linesF; rw [if_neg (by omega)]
  | f + 1, g + 1, a, h1, h2 => by
    unfold linesF
    by_cases h : a < zs.length
    · have := (endP_spec (sp := sp) (wd := wd) h).1.1
      rw [if_pos h, if_pos h, linesF_eq f g _ (by omega) (by omega)]
    · rw [if_neg h, if_neg h]
theorem linesP_end {zs : List Int} {sp wd : Int} {a : Nat} (h : zs.length ≤ a) : linesP zs sp wd a = [] := by
  unfold linesP
  rw [show zs.length - a = 0 by omega]
  rfl
theorem linesP_step {zs : List Int} {sp wd : Int} {a : Nat} (h : a < zs.length) : linesP zs sp wd a = (a, endP zs sp wd a) :: linesP zs sp wd (endP zs sp wd a) := by
  have := (endP_spec (sp := sp) (wd := wd) h).1
  unfold linesP
  obtain ⟨f, hf⟩ : ∃ f, zs.length - a = f + 1 := ⟨zs.length - a - 1, by omega⟩
  rw [hf, linesF, if_pos h]
  congr 1
  exact linesF_eq _ _ _ (by have := this.1; omega) (by omega)
/-- ends that part the words into lines from b on. -/
def PartsTo (zs : List Int) (sp wd : Int) : Nat → List Nat → Nat → Prop
  | b, [], c => b = c
  | b, e :: es, c => LineTo zs sp wd b e ∧ PartsTo zs sp wd e es c
theorem partsTo_snoc {zs : List Int} {sp wd : Int} : ∀ {es : List Nat} {b c e : Nat}, PartsTo zs sp wd b es c → LineTo zs sp wd c e → PartsTo zs sp wd b (es ++ [e]) e
  | [], b, c, e, h, hl => by obtain rfl : b = c := h; exact ⟨hl, rfl⟩
  | x :: es, b, c, e, h, hl => ⟨h.1, partsTo_snoc h.2 hl⟩
/-- no parting has fewer lines, whatever it begins ahead. -/
theorem lines_fewest {zs : List Int} {sp wd wd' : Int} (hn : Near9 zs sp) (hw : wd' ≤ wd) : ∀ (es : List Nat) (b a : Nat), b ≤ a → PartsTo zs sp wd' b es zs.length → (linesP zs sp wd a).length ≤ es.length
  | [], b, a, hba, h => by
    obtain rfl : b = zs.length := h
    rw [linesP_end hba]
    exact Nat.le_refl _
  | e :: es, b, a, hba, h => by
    by_cases ha : a < zs.length
    · obtain ⟨s1, s2⟩ := endP_spec (sp := sp) (wd := wd) ha
      have hl : LineTo zs sp wd b e := ⟨h.1.1, h.1.2.1, h.1.2.2.imp id (fun q => by omega)⟩
      have hm := full_most hn hba hl s1 s2
      rw [linesP_step ha, List.length_cons, List.length_cons]
      have := lines_fewest hn hw es e (endP zs sp wd a) hm h.2
      omega
    · rw [linesP_end (by omega)]
      exact Nat.zero_le _
theorem lines_parts {zs : List Int} {sp wd : Int} : ∀ (f a : Nat), zs.length ≤ a + f → a ≤ zs.length → PartsTo zs sp wd a ((linesP zs sp wd a).map (·.2)) zs.length
  | 0, a, h, ha => by
    rw [linesP_end (by omega)]
    show a = zs.length
    omega
  | f + 1, a, h, ha => by
    by_cases hl : a < zs.length
    · obtain ⟨s1, _⟩ := endP_spec (sp := sp) (wd := wd) hl
      rw [linesP_step hl]
      exact ⟨s1, lines_parts f (endP zs sp wd a) (by have := s1.1; omega) s1.2.1⟩
    · rw [linesP_end (by omega)]
      show a = zs.length
      omega
/-- of wider lines there are no more. -/
theorem lines_wider {zs : List Int} {sp wd wd' : Int} (hn : Near9 zs sp) (hw : wd' ≤ wd) (a : Nat) (ha : a ≤ zs.length) : (linesP zs sp wd a).length ≤ (linesP zs sp wd' a).length := by
  have := lines_fewest hn hw _ a a (Nat.le_refl _) (lines_parts zs.length a (by omega) ha)
  rwa [List.length_map] at this
end Go.Proofs.Ytakdopblggkfnaa
