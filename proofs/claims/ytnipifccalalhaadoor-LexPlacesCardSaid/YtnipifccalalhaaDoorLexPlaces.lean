import Derived.Test.YtnipifccalalhaaDoorLexDecode
/- Where the tokens of a script stand: in order, whole, with white and comments alone between them. Nothing of the program stands here. -/
namespace Go.Proofs.YtnipifccalalhaaDoor
open Go
set_option linter.unusedVariables false
set_option linter.unusedSimpArgs false
/-- n bytes from i on, gone over as white and comments: whether a comment is open behind them; none: there is something else. -/
def nstF (s : ByteArray) : Nat → Nat → Bool → Option Bool
  | 0, _, c => some c
  | n + 1, i, c => if bAt s i = 10 then nstF s n (i + 1) false else if c then nstF s n (i + 1) true else if bAt s i = 35 then nstF s n (i + 1) true else if bAt s i = 32 ∨ bAt s i = 9 then nstF s n (i + 1) false else none
theorem nstF_add (s : ByteArray) : ∀ (n m i : Nat) (c : Bool), nstF s (n + m) i c = (nstF s n i c).bind fun c' => nstF s m (i + n) c'
  | 0, m, i, c => by rw [Nat.zero_add, nstF]; rfl
  | n + 1, m, i, c => by
    have ih := fun c => nstF_add s n m (i + 1) c
    rw [show n + 1 + m = (n + m) + 1 by omega, nstF, nstF]
    simp only [ih, show i + 1 + n = i + (n + 1) by omega]
    split
    · rfl
    · split
      · rfl
      · split
        · rfl
        · split <;> rfl
theorem nst_then {s : ByteArray} {e k z : Nat} {c c' : Bool} (he : e ≤ k) (h1 : nstF s (k - e) e false = some c) (h2 : nstF s z k c = some c') : nstF s (k + z - e) e false = some c' := by
  rw [show k + z - e = (k - e) + z by omega, nstF_add, h1]
  show nstF s z (e + (k - e)) c = _
  rw [show e + (k - e) = k by omega, h2]
/-- the bytes of a character of more than one byte are above 127. -/
theorem bytes_high {s : ByteArray} {k : Nat} (h2 : 2 ≤ sizeB s k) : ∀ j, j < sizeB s k → 128 ≤ bAt s (k + j) := by
  have hk : k < s.size := by have := sizeB_in (s := s) (k := k) (by omega); omega
  intro j hj
  have hz := sizeB_sizeN s k hk
  have e0 : bAt s k = ((s.get! k).toNat : Int) := rfl
  have e1 : bAt s (k + 1) = ((s.get! (k + 1)).toNat : Int) := rfl
  have e2 : bAt s (k + 2) = ((s.get! (k + 2)).toNat : Int) := rfl
  have e3 : bAt s (k + 3) = ((s.get! (k + 3)).toNat : Int) := rfl
  have hj4 := sizeB_le s k
  unfold sizeN at hz
  rcases (show j = 0 ∨ j = 1 ∨ j = 2 ∨ j = 3 by omega) with rfl | rfl | rfl | rfl
  all_goals
    (try simp only [Nat.add_zero])
    split at hz
    · omega
    split at hz
    · omega
    split at hz
    · omega
    split at hz
    · omega
    · omega
theorem byte_one {s : ByteArray} {k : Nat} (h : sizeB s k = 1) : bAt s k ≤ 127 := by
  have hk : k < s.size := by have := sizeB_in (s := s) (k := k) (by omega); omega
  have hz := sizeB_sizeN s k hk
  have e0 : bAt s k = ((s.get! k).toNat : Int) := rfl
  unfold sizeN at hz
  split at hz
  · omega
  split at hz
  · omega
  split at hz
  · omega
  split at hz
  · omega
  · omega
theorem nst_high (s : ByteArray) : ∀ (n i : Nat), (∀ j, j < n → bAt s (i + j) ≠ 10) → nstF s n i true = some true
  | 0, i, _ => rfl
  | n + 1, i, h => by
    rw [nstF, if_neg (show ¬ bAt s i = 10 from h 0 (by omega)), if_pos rfl]
    exact nst_high s n (i + 1) fun j hj => by rw [show i + 1 + j = i + (j + 1) by omega]; exact h (j + 1) (by omega)
/-- a character within a comment. -/
theorem nst_comment {s : ByteArray} {k : Nat} (hz : sizeB s k ≠ 0) : nstF s (sizeB s k) k true = some (decide (bAt s k ≠ 10)) := by
  rcases (show sizeB s k = 1 ∨ 2 ≤ sizeB s k by omega) with h | h
  · rw [h]
    by_cases c : bAt s k = 10
    · rw [nstF, if_pos c]; simp [nstF, c]
    · rw [nstF, if_neg c, if_pos rfl]; simp [nstF, c]
  · have hb := bytes_high h
    rw [nst_high s _ _ (fun j hj => by have := hb j hj; omega), decide_eq_true]
    have := hb 0 (by omega); rw [Nat.add_zero] at this; omega
theorem digB_numB_end (s : ByteArray) : ∀ (f : Nat) (n : Int) (e : Nat), s.size ≤ e + f → digB s (numF s f n e).2 = false
  | 0, n, e, h => inB_ge (by show ¬ e < s.size; omega) _ _
  | f + 1, n, e, h => by
    rw [numF]; split
    · exact digB_numB_end s f _ _ (by omega)
    · rename_i c; simpa using c
theorem numB_end (s : ByteArray) (k : Nat) : digB s (numB s k).2 = false := digB_numB_end s _ _ _ (by omega)
theorem numF_nonneg {s : ByteArray} : ∀ (f : Nat) (n : Int) (e : Nat), 0 ≤ n → 0 ≤ (numF s f n e).1
  | 0, _, _, h => h
  | f + 1, n, e, h => by
    rw [numF]; split
    · rename_i hd
      have hb := inB_iff.1 (show inB s e 48 57 = true from hd)
      exact numF_nonneg f _ _ (by omega)
    · exact h

/-- a token that stands at p. -/
def TokOk (s : ByteArray) (x : Tok) (p : Nat) : Prop :=
  x.at_ = (p : Int) ∧ p < s.size ∧ ((x.kind = 1 ∧ x.n = 0 ∧ sizeB s p ≠ 0 ∧ x.sign = runeB s p (sizeB s p)) ∨
    (x.kind = 2 ∧ x.sign = 0 ∧ digB s p = true ∧ x.n = (numB s p).1 ∧ x.n ≤ 1099511627776))
def endT (s : ByteArray) (x : Tok) (p : Nat) : Nat := if x.kind = 1 then p + sizeB s p else (numB s p).2
/-- tokens in order; behind the last one stands e; l: it is a number. -/
inductive Placed (s : ByteArray) : List Tok → Nat → Bool → Prop
  | nil : Placed s [] 0 false
  | snoc {out : List Tok} {e p : Nat} {l : Bool} {x : Tok} (h : Placed s out e l) (hx : TokOk s x p) (he : e ≤ p) (hn : (nstF s (p - e) e false).isSome = true) (ha : x.kind = 2 → l = true → e < p) : Placed s (out ++ [x]) (endT s x p) (decide (x.kind = 2))
theorem endT_size {s : ByteArray} {x : Tok} {p : Nat} (h : TokOk s x p) : p < endT s x p ∧ endT s x p ≤ s.size := by
  obtain ⟨_, hp, h | h⟩ := h
  · unfold endT; rw [if_pos h.1]
    have := sizeB_in (s := s) (k := p) (by have := h.2.2.1; omega)
    have := h.2.2.1
    omega
  · unfold endT; rw [if_neg (by rw [h.1]; decide)]
    exact ⟨numB_gt h.2.2.1, numB_size' h.2.2.1 hp⟩
where
  numB_size' {s : ByteArray} {p : Nat} (h : digB s p = true) (hp : p < s.size) : (numB s p).2 ≤ s.size := by
    unfold numB
    exact go _ _ _ (by omega)
  go {s : ByteArray} : ∀ (f : Nat) (n : Int) (e : Nat), e ≤ s.size → (numF s f n e).2 ≤ s.size
    | 0, _, _, h => h
    | f + 1, n, e, h => by
      rw [numF]; split
      · rename_i hd
        have := inB_lt hd
        exact go f _ _ (by omega)
      · exact h
theorem Placed.unique {s : ByteArray} {out : List Tok} {e e' : Nat} {l l' : Bool} (h : Placed s out e l) (h' : Placed s out e' l') : e = e' ∧ l = l' := by
  cases h with
  | nil =>
    generalize ho : ([] : List Tok) = o at h'
    cases h' with
    | nil => exact ⟨rfl, rfl⟩
    | snoc => simp at ho
  | @snoc out1 e1 p1 l1 x1 h1 hx1 he1 hn1 ha1 =>
    generalize ho : out1 ++ [x1] = o at h'
    cases h' with
    | nil => simp at ho
    | @snoc out2 e2 p2 l2 x2 h2 hx2 he2 hn2 ha2 =>
      obtain ⟨_, hx⟩ := List.append_inj' ho rfl
      injection hx with hx
      subst hx
      have : p1 = p2 := by have a := hx1.1; have b := hx2.1; omega
      subst this
      exact ⟨rfl, rfl⟩
theorem Placed.last {s : ByteArray} {out : List Tok} {x : Tok} {e : Nat} {l : Bool} (h : Placed s (out ++ [x]) e l) : ∃ e1 l1 p, Placed s out e1 l1 ∧ TokOk s x p ∧ e1 ≤ p ∧ (nstF s (p - e1) e1 false).isSome = true ∧ (x.kind = 2 → l1 = true → e1 < p) ∧ e = endT s x p ∧ l = decide (x.kind = 2) := by
  generalize ho : out ++ [x] = o at h
  cases h with
  | nil => simp at ho
  | @snoc out2 e2 p2 l2 x2 h2 hx2 he2 hn2 ha2 =>
    obtain ⟨h1, hx⟩ := List.append_inj' ho rfl
    injection hx with hx
    subst hx h1
    exact ⟨e2, l2, p2, h2, hx2, he2, hn2, ha2, rfl, rfl⟩
theorem Placed.take {s : ByteArray} : ∀ (n : Nat) {out : List Tok} {e : Nat} {l : Bool}, out.length = n → Placed s out e l → ∀ i, i ≤ n → ∃ e' l', Placed s (out.take i) e' l'
  | 0, out, e, l, hn, h, i, hi => by
    obtain rfl : i = 0 := by omega
    exact ⟨0, false, by rw [List.take_zero]; exact Placed.nil⟩
  | n + 1, out, e, l, hn, h, i, hi => by
    rcases (show i = n + 1 ∨ i ≤ n by omega) with rfl | hi2
    · exact ⟨e, l, by rw [List.take_of_length_le (by omega)]; exact h⟩
    · obtain ⟨o, x, rfl⟩ : ∃ o x, out = o ++ [x] := ⟨out.dropLast, out.getLast (by intro c; rw [c] at hn; cases hn), (List.dropLast_concat_getLast _).symm⟩
      obtain ⟨e1, l1, p, h1, _⟩ := h.last
      have hl : o.length = n := by simpa using hn
      rw [List.take_append_of_le_length (by omega)]
      exact Placed.take n hl h1 i hi2
theorem lexF_placed (s : ByteArray) : ∀ (f : Nat) (c : Bool) (k : Nat) (out : List Tok) (e : Nat) (l : Bool), k ≤ s.size → s.size ≤ k + f → Placed s out e l → e ≤ k → nstF s (k - e) e false = some c → (l = true → e = k → digB s k = false) →
    ∀ o q, lexF s f c k out = (some o, q) → ∃ e' l', Placed s o e' l' ∧ e' ≤ s.size ∧ (nstF s (s.size - e') e' false).isSome = true := by
  intro f
  induction f with
  | zero =>
    intro c k out e l hk hf hp he hn hl o q ho
    injection ho with h1 _
    injection h1 with h1
    subst h1
    obtain rfl : k = s.size := by omega
    exact ⟨e, l, hp, he, by rw [hn]; rfl⟩
  | succ f ih =>
    intro c k out e l hk hf hp he hn hl o q ho
    by_cases hlt : k < s.size
    · obtain ⟨f', hf', hf2, hop⟩ := lexF_open (c := c) (out := out) hlt hf
      obtain rfl : f' = f := by omega
      rw [hop] at ho
      by_cases hz : sizeB s k = 0
      · rw [if_pos hz] at ho; injection ho with h1 _; cases h1
      · rw [if_neg hz] at ho
        have hin := sizeB_in (s := s) (k := k) (by omega)
        cases c with
        | true =>
          rw [if_pos rfl] at ho
          exact ih _ _ _ e l (by omega) (by omega) hp (by omega) (nst_then he hn (nst_comment hz)) (fun _ q => by omega) o q ho
        | false =>
          simp only [Bool.false_eq_true, if_false] at ho
          by_cases c1 : bAt s k = 35
          · rw [if_pos c1] at ho
            exact ih _ _ _ e l (by omega) (by omega) hp (by omega) (nst_then he hn (by rw [nstF, if_neg (by omega), if_neg (by decide), if_pos c1]; rfl)) (fun _ q => by omega) o q ho
          · rw [if_neg c1] at ho
            by_cases c2 : bAt s k = 32 ∨ bAt s k = 9 ∨ bAt s k = 10
            · rw [if_pos c2] at ho
              refine ih _ _ _ e l (by omega) (by omega) hp (by omega) (nst_then he hn ?_) (fun _ q => by omega) o q ho
              rw [nstF]
              by_cases c3 : bAt s k = 10
              · rw [if_pos c3]; rfl
              · rw [if_neg c3, if_neg (by decide), if_neg c1, if_pos (by omega)]; rfl
            · rw [if_neg c2] at ho
              have nil0 : ∀ j, nstF s (j - j) j false = some false := fun j => by rw [Nat.sub_self]; rfl
              rcases hd : digB s k with _ | _
              · rw [hd] at ho
                simp only [Bool.false_eq_true, if_false] at ho
                have hx : TokOk s ⟨1, runeB s k (sizeB s k), 0, k⟩ k := ⟨rfl, hlt, .inl ⟨rfl, rfl, hz, rfl⟩⟩
                have hp2 := Placed.snoc hp hx he (by rw [hn]; rfl) (fun h => by cases h)
                have hee : endT s ⟨1, runeB s k (sizeB s k), 0, k⟩ k = k + sizeB s k := if_pos rfl
                rw [hee] at hp2
                exact ih _ _ _ _ _ (by omega) (by omega) hp2 (Nat.le_refl _) (nil0 _) (fun h => by simp at h) o q ho
              · rw [hd] at ho
                simp only [if_true] at ho
                by_cases c3 : 1099511627776 < (numB s k).1 ∨ (bAt s k = 48 ∧ k + 1 < (numB s k).2)
                · rw [if_pos c3] at ho; injection ho with h1 _; cases h1
                · rw [if_neg c3] at ho
                  have hx : TokOk s ⟨2, 0, (numB s k).1, k⟩ k := ⟨rfl, hlt, .inr ⟨rfl, rfl, hd, rfl, by show (numB s k).1 ≤ _; omega⟩⟩
                  have hes := endT_size hx
                  have hp2 := Placed.snoc hp hx he (by rw [hn]; rfl) (fun _ hl1 => by
                    rcases Nat.lt_or_ge e k with q1 | q1
                    · exact q1
                    · have := hl hl1 (by omega); rw [hd] at this; cases this)
                  have hee : endT s ⟨2, 0, (numB s k).1, k⟩ k = (numB s k).2 := if_neg (show ¬ (2 : Int) = 1 by decide)
                  rw [hee] at hp2 hes
                  exact ih _ _ _ _ _ (by omega) (by omega) hp2 (Nat.le_refl _) (nil0 _) (fun _ _ => numB_end s k) o q ho
    · rw [lexF_end hlt] at ho
      injection ho with h1 _
      injection h1 with h1
      subst h1
      obtain rfl : k = s.size := by omega
      exact ⟨e, l, hp, he, by rw [hn]; rfl⟩
theorem lexB_placed {s : ByteArray} {o : List Tok} {q : Nat} (h : lexB s = (some o, q)) : ∃ e l, Placed s o e l ∧ e ≤ s.size ∧ (nstF s (s.size - e) e false).isSome = true :=
  lexF_placed s _ _ _ _ 0 false (by omega) (by omega) Placed.nil (Nat.le_refl _) rfl (fun h => absurd h (by decide)) o q h
end Go.Proofs.YtnipifccalalhaaDoor
