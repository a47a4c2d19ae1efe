import Derived.Test.YtnipifccalalhaaDoorLexParted
/- Two scripts, one behind the other, with a LF between: their tokens. Nothing of the program stands here. -/
namespace Go.Proofs.YtnipifccalalhaaDoor
open Go
set_option linter.unusedVariables false
set_option linter.unusedSimpArgs false
theorem numF_size {s : ByteArray} : ∀ (f : Nat) (n : Int) (e : Nat), e ≤ s.size → (numF s f n e).2 ≤ s.size
  | 0, _, _, h => h
  | f + 1, n, e, h => by
    rw [numF]; split
    · rename_i hd
      have := inB_lt hd
      exact numF_size f _ _ (by omega)
    · exact h
theorem numB_size {s : ByteArray} {k : Nat} (h : k ≤ s.size) : (numB s k).2 ≤ s.size := numF_size _ _ _ h
def shiftT (A : Nat) (x : Tok) : Tok := ⟨x.kind, x.sign, x.n, x.at_ + (A : Int)⟩
section
variable {a b t : ByteArray} (h : Parted a b t)
include h
theorem Parted.lexF_head : ∀ (f f' : Nat) (c : Bool) (k : Nat) (out : List Tok), k ≤ a.size → a.size ≤ k + f → t.size ≤ k + f' →
    (∀ p, lexF a f c k out = (none, p) → lexF t f' c k out = (none, p)) ∧ (∀ o q, lexF a f c k out = (some o, q) → ∃ f'', t.size ≤ a.size + 1 + f'' ∧ lexF t f' c k out = lexF t f'' false (a.size + 1) o) := by
  have hs := h.size
  have last : ∀ (f f' : Nat) (c : Bool) (k : Nat) (out : List Tok), k = a.size → t.size ≤ k + f' →
      (∀ p, lexF a f c k out = (none, p) → lexF t f' c k out = (none, p)) ∧ (∀ o q, lexF a f c k out = (some o, q) → ∃ f'', t.size ≤ a.size + 1 + f'' ∧ lexF t f' c k out = lexF t f'' false (a.size + 1) o) := by
    intro f f' c k out hk hf'
    subst hk
    rw [lexF_end (Nat.lt_irrefl _)]
    obtain ⟨f1, _, hf1, ho⟩ := lexF_open (c := c) (out := out) (show a.size < t.size by omega) hf'
    have hz : sizeB t a.size = 1 := by
      unfold sizeB
      rw [if_pos (inB_yes (by omega) (by rw [h.lf]; decide) (by rw [h.lf]; decide))]
    rw [hz, h.lf] at ho
    refine ⟨fun p e => by (injection e with e1 _; cases e1), fun o q e => ?_⟩
    injection e with e1 _
    injection e1 with e1
    subst e1
    refine ⟨f1, by omega, ?_⟩
    rw [ho]
    cases c <;> simp
  intro f
  induction f with
  | zero => intro f' c k out hk hf hf'; exact last 0 f' c k out (by omega) hf'
  | succ f ih =>
    intro f' c k out hk hf hf'
    rcases Nat.lt_or_ge k a.size with hlt | hge
    · obtain ⟨fa, hfa, hfa2, hoa⟩ := lexF_open (c := c) (out := out) hlt hf
      obtain ⟨ft, _, hft2, hot⟩ := lexF_open (c := c) (out := out) (show k < t.size by omega) hf'
      obtain rfl : fa = f := by omega
      rw [h.sizeB_head hlt, h.head k hlt, h.digB_head (by omega), h.numB_head hlt] at hot
      rw [hoa, hot]
      by_cases hz : sizeB a k = 0
      · rw [if_pos hz, if_pos hz]
        exact ⟨fun p e => e, fun o q e => by (injection e with e1 _; cases e1)⟩
      · rw [if_neg hz, if_neg hz]
        have hin := sizeB_in (s := a) (k := k) (by omega)
        rw [h.runeB_head hin]
        cases c with
        | true => rw [if_pos rfl, if_pos rfl]; exact ih ft _ _ _ (by omega) (by omega) (by omega)
        | false =>
          simp only [Bool.false_eq_true, if_false]
          by_cases c1 : bAt a k = 35
          · rw [if_pos c1, if_pos c1]; exact ih ft _ _ _ (by omega) (by omega) (by omega)
          · rw [if_neg c1, if_neg c1]
            by_cases c2 : bAt a k = 32 ∨ bAt a k = 9 ∨ bAt a k = 10
            · rw [if_pos c2, if_pos c2]; exact ih ft _ _ _ (by omega) (by omega) (by omega)
            · rw [if_neg c2, if_neg c2]
              cases hd : digB a k with
              | false => simp only [Bool.false_eq_true, if_false]; exact ih ft _ _ _ (by omega) (by omega) (by omega)
              | true =>
                simp only [if_true]
                have hg := numB_gt hd
                have hg2 := numB_size (s := a) (k := k) (by omega)
                by_cases c3 : 1099511627776 < (numB a k).1 ∨ (bAt a k = 48 ∧ k + 1 < (numB a k).2)
                · rw [if_pos c3, if_pos c3]
                  exact ⟨fun p e => e, fun o q e => by (injection e with e1 _; cases e1)⟩
                · rw [if_neg c3, if_neg c3]; exact ih ft _ _ _ (by omega) (by omega) (by omega)
    · exact last (f + 1) f' c k out (by omega) hf'
theorem Parted.lexF_tail : ∀ (f f' : Nat) (c : Bool) (k : Nat) (pre out : List Tok), b.size ≤ k + f → t.size ≤ a.size + 1 + k + f' →
    lexF t f' c (a.size + 1 + k) (pre ++ out.map (shiftT (a.size + 1))) = match lexF b f c k out with
      | (none, p) => (none, a.size + 1 + p)
      | (some o, q) => (some (pre ++ o.map (shiftT (a.size + 1))), q) := by
  have hs := h.size
  have snoc : ∀ (pre out : List Tok) (x : Tok), pre ++ out.map (shiftT (a.size + 1)) ++ [shiftT (a.size + 1) x] = pre ++ (out ++ [x]).map (shiftT (a.size + 1)) := fun pre out x => by simp
  intro f
  induction f with
  | zero =>
    intro f' c k pre out hf hf'
    rw [lexF_end (by omega), lexF_end (by omega)]
  | succ f ih =>
    intro f' c k pre out hf hf'
    by_cases hlt : k < b.size
    · obtain ⟨fa, hfa, hfa2, hoa⟩ := lexF_open (c := c) (out := out) hlt hf
      obtain ⟨ft, _, hft2, hot⟩ := lexF_open (c := c) (out := pre ++ out.map (shiftT (a.size + 1))) (show a.size + 1 + k < t.size by omega) hf'
      obtain rfl : fa = f := by omega
      rw [h.sizeB_tail, h.tail k hlt, h.digB_tail, h.numB_tail] at hot
      rw [hoa, hot]
      by_cases hz : sizeB b k = 0
      · rw [if_pos hz, if_pos hz]
      · rw [if_neg hz, if_neg hz]
        have hin := sizeB_in (s := b) (k := k) (by omega)
        rw [h.runeB_tail hin]
        simp only [Nat.add_assoc (a.size + 1) k]
        cases c with
        | true => rw [if_pos rfl, if_pos rfl]; exact ih ft _ _ _ _ (by omega) (by omega)
        | false =>
          simp only [Bool.false_eq_true, if_false]
          by_cases c1 : bAt b k = 35
          · rw [if_pos c1, if_pos c1]; exact ih ft _ _ _ _ (by omega) (by omega)
          · rw [if_neg c1, if_neg c1]
            by_cases c2 : bAt b k = 32 ∨ bAt b k = 9 ∨ bAt b k = 10
            · rw [if_pos c2, if_pos c2]; exact ih ft _ _ _ _ (by omega) (by omega)
            · rw [if_neg c2, if_neg c2]
              have hat : ((a.size + 1 + k : Nat) : Int) = (k : Int) + ((a.size + 1 : Nat) : Int) := by omega
              cases hd : digB b k with
              | false =>
                simp only [Bool.false_eq_true, if_false]
                rw [hat]
                have e := snoc pre out ⟨1, runeB b k (sizeB b k), 0, k⟩
                unfold shiftT at e
                simp only at e
                rw [show (⟨1, runeB b k (sizeB b k), 0, (k : Int) + ((a.size + 1 : Nat) : Int)⟩ : Tok) = shiftT (a.size + 1) ⟨1, runeB b k (sizeB b k), 0, k⟩ from rfl, snoc]
                exact ih ft _ _ _ _ (by omega) (by omega)
              | true =>
                simp only [if_true]
                have hg := numB_gt hd
                by_cases c3 : 1099511627776 < (numB b k).1 ∨ (bAt b k = 48 ∧ k + 1 < (numB b k).2)
                · rw [if_pos c3, if_pos (by omega)]
                · rw [if_neg c3, if_neg (by omega), hat]
                  rw [show (⟨2, 0, (numB b k).1, (k : Int) + ((a.size + 1 : Nat) : Int)⟩ : Tok) = shiftT (a.size + 1) ⟨2, 0, (numB b k).1, k⟩ from rfl, snoc]
                  exact ih ft _ _ _ _ (by omega) (by omega)
    · rw [lexF_end (by omega), lexF_end (by omega)]
/-- a script that may not be is refused there. -/
theorem Parted.lexB_bad {p : Nat} (ha : lexB a = (none, p)) : lexB t = (none, p) := by
  have hs := h.size
  exact (h.lexF_head (a.size + 1) (t.size + 1) false 0 [] (by omega) (by omega) (by omega)).1 p ha
/-- .. and one that may be: the tokens of both. -/
theorem Parted.lexB_both {o : List Tok} {q : Nat} (ha : lexB a = (some o, q)) : lexB t = match lexB b with
      | (none, p) => (none, a.size + 1 + p)
      | (some m, q) => (some (o ++ m.map (shiftT (a.size + 1))), q) := by
  have hs := h.size
  obtain ⟨f'', hf'', e⟩ := (h.lexF_head (a.size + 1) (t.size + 1) false 0 [] (by omega) (by omega) (by omega)).2 o q ha
  have e2 := h.lexF_tail (b.size + 1) f'' false 0 o [] (by omega) (by omega)
  simp only [List.map_nil, List.append_nil, Nat.add_zero] at e2
  exact e.trans e2
end
end Go.Proofs.YtnipifccalalhaaDoor
