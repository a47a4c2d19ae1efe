import Derived.Test.YtechccoongilcaaDoorJD700
import Derived.Lib.DecodeN
import Derived.OwnWalk
import Derived.Laws.Rows
import Derived.Laws.Tables
import Derived.Deep.WholeRow
import Derived.RangeFuncBox
import Derived.Deep.Slices
import Derived.StillTail
import Derived.OrdersHeld
import Derived.Deep.RegionHeld
/- A script cut ahead of one of its tokens: the tokens ahead of that one. Nothing of the program stands here. -/
namespace Go.Proofs.YtechccoongilcaaDoor
open Go
set_option linter.unusedVariables false
set_option linter.unusedSimpArgs false
/-- a is the head of s. -/
structure Headed (a s : ByteArray) : Prop where
  size : a.size ≤ s.size
  head : ∀ i, i < a.size → bAt s i = bAt a i
theorem lexF_from {s : ByteArray} : ∀ (f : Nat) (c : Bool) (k : Nat) (out : List Tok), s.size ≤ k + f → ∀ o q, lexF s f c k out = (some o, q) →
    ∃ new, o = out ++ new ∧ (∀ x ∈ new, (k : Int) ≤ x.at_) ∧ new.Pairwise fun x y => x.at_ < y.at_ := by
  intro f
  induction f with
  | zero =>
    intro c k out hf o q ho
    injection ho with h1 _
    injection h1 with h1
    exact ⟨[], by simp [h1], fun x hx => (by cases hx), .nil⟩
  | succ f ih =>
    intro c k out hf o q ho
    by_cases hlt : k < s.size
    · obtain ⟨f', hf', hf2, hop⟩ := lexF_open (c := c) (out := out) hlt hf
      obtain rfl : f' = f := by omega
      rw [hop] at ho
      have on : ∀ {c' k'}, k < k' → lexF s f' c' k' out = (some o, q) → ∃ new, o = out ++ new ∧ (∀ x ∈ new, (k : Int) ≤ x.at_) ∧ new.Pairwise fun x y => x.at_ < y.at_ := by
        intro c' k' hk ho
        obtain ⟨new, h1, h2, h3⟩ := ih c' k' out (by omega) o q ho
        exact ⟨new, h1, fun x hx => by have := h2 x hx; omega, h3⟩
      have more : ∀ {k'} {t : Tok}, k < k' → t.at_ = (k : Int) → lexF s f' false k' (out ++ [t]) = (some o, q) → ∃ new, o = out ++ new ∧ (∀ x ∈ new, (k : Int) ≤ x.at_) ∧ new.Pairwise fun x y => x.at_ < y.at_ := by
        intro k' t hk ht ho
        obtain ⟨new, h1, h2, h3⟩ := ih false k' _ (by omega) o q ho
        refine ⟨t :: new, by rw [h1]; simp, fun x hx => ?_, ?_⟩
        · rcases List.mem_cons.1 hx with rfl | hx
          · omega
          · have := h2 x hx; omega
        · exact List.pairwise_cons.2 ⟨fun x hx => by have := h2 x hx; omega, h3⟩
      by_cases hz : sizeB s k = 0
      · rw [if_pos hz] at ho; injection ho with h1 _; cases h1
      · rw [if_neg hz] at ho
        cases c with
        | true => rw [if_pos rfl] at ho; exact on (by omega) ho
        | false =>
          simp only [Bool.false_eq_true, if_false] at ho
          by_cases c1 : bAt s k = 35
          · rw [if_pos c1] at ho; exact on (by omega) ho
          · rw [if_neg c1] at ho
            by_cases c2 : bAt s k = 32 ∨ bAt s k = 9 ∨ bAt s k = 10
            · rw [if_pos c2] at ho; exact on (by omega) ho
            · rw [if_neg c2] at ho
              rcases hd : digB s k with _ | _
              · rw [hd] at ho
                simp only [Bool.false_eq_true, if_false] at ho
                exact more (by omega) rfl ho
              · rw [hd] at ho
                simp only [if_true] at ho
                have hg := numB_gt hd
                by_cases c3 : 1099511627776 < (numB s k).1 ∨ (bAt s k = 48 ∧ k + 1 < (numB s k).2)
                · rw [if_pos c3] at ho; injection ho with h1 _; cases h1
                · rw [if_neg c3] at ho; exact more (by omega) rfl ho
    · rw [lexF_end hlt] at ho
      injection ho with h1 _
      injection h1 with h1
      exact ⟨[], by simp [h1], fun x hx => (by cases hx), .nil⟩
theorem sizeB_low {s : ByteArray} {k : Nat} (h : k < s.size) (hb : bAt s k ≤ 127) : sizeB s k = 1 := by
  unfold sizeB; rw [if_pos (inB_yes h (bAt_bd s k).1 hb)]
section
variable {a s : ByteArray} (h : Headed a s)
include h
theorem Headed.inB {i : Nat} (hi : i < a.size) (lo hi' : Int) : Go.Proofs.YtechccoongilcaaDoor.inB a i lo hi' = Go.Proofs.YtechccoongilcaaDoor.inB s i lo hi' := by
  have hs := h.size
  rw [inB_at hi, inB_at (by omega), h.head i hi]
theorem Headed.moreB {i : Nat} : ∀ n, i + n ≤ a.size → Go.Proofs.YtechccoongilcaaDoor.moreB a i n = Go.Proofs.YtechccoongilcaaDoor.moreB s i n
  | 0, _ => rfl
  | n + 1, hn => by
    show (Go.Proofs.YtechccoongilcaaDoor.moreB a i n && Go.Proofs.YtechccoongilcaaDoor.inB a (i + n) 128 191) = (Go.Proofs.YtechccoongilcaaDoor.moreB s i n && Go.Proofs.YtechccoongilcaaDoor.inB s (i + n) 128 191)
    rw [Headed.moreB n (by omega), h.inB (by omega)]
theorem Headed.sizeB {k : Nat} (hz : sizeB s k ≠ 0) (hk : k + sizeB s k ≤ a.size) : Go.Proofs.YtechccoongilcaaDoor.sizeB a k = Go.Proofs.YtechccoongilcaaDoor.sizeB s k := by
  have hl : k < a.size := by omega
  unfold Go.Proofs.YtechccoongilcaaDoor.sizeB at hz hk ⊢
  simp only [h.inB hl]
  by_cases c1 : Go.Proofs.YtechccoongilcaaDoor.inB s k 0 127 = true
  · rw [if_pos c1, if_pos c1]
  · rw [if_neg c1] at hk hz
    rw [if_neg c1, if_neg c1]
    by_cases c2 : (Go.Proofs.YtechccoongilcaaDoor.inB s k 194 223 && Go.Proofs.YtechccoongilcaaDoor.moreB s (k + 1) 1) = true
    · rw [if_pos c2] at hk
      rw [h.moreB 1 (by omega), if_pos c2, if_pos c2]
    · rw [if_neg c2] at hk hz
      have h2 : k + 3 ≤ a.size := by
        revert hk hz
        split
        · intro _ hk; exact hk
        · split
          · intro _ hk; omega
          · intro hz _; exact absurd rfl hz
      rw [h.moreB 1 (by omega), if_neg c2, if_neg c2, h.inB (show k + 1 < a.size by omega), h.inB (show k + 1 < a.size by omega), h.moreB 1 (by omega), h.moreB 2 (by omega)]
      split
      · rfl
      · rename_i c3
        rw [if_neg c3] at hk hz
        have h4 : k + 4 ≤ a.size := by
          revert hk hz
          split
          · intro _ hk; exact hk
          · intro hz _; exact absurd rfl hz
        rw [h.inB (show k + 1 < a.size by omega), h.inB (show k + 1 < a.size by omega), h.moreB 2 (by omega), h.moreB 3 (by omega)]
theorem Headed.digB {k : Nat} (hk : k < a.size) : Go.Proofs.YtechccoongilcaaDoor.digB a k = Go.Proofs.YtechccoongilcaaDoor.digB s k := h.inB hk 48 57
theorem Headed.runeP {k : Nat} (base : Int) : ∀ n, k + n ≤ a.size → runeP s k base n = Go.Proofs.YtechccoongilcaaDoor.runeP a k base n
  | 0, _ => rfl
  | 1, hn => by show bAt s k - base = bAt a k - base; rw [h.head k (by omega)]
  | n + 2, hn => by
    show 64 * Go.Proofs.YtechccoongilcaaDoor.runeP s k base (n + 1) + bAt s (k + (n + 1)) - 128 = 64 * Go.Proofs.YtechccoongilcaaDoor.runeP a k base (n + 1) + bAt a (k + (n + 1)) - 128
    rw [Headed.runeP base (n + 1) (by omega), h.head _ (by omega)]
theorem Headed.runeB {k n : Nat} (hn : k + n ≤ a.size) : runeB s k n = Go.Proofs.YtechccoongilcaaDoor.runeB a k n := by
  unfold Go.Proofs.YtechccoongilcaaDoor.runeB
  split
  · rename_i e; subst e; exact h.head k (by omega)
  · exact h.runeP _ _ hn
theorem Headed.numF : ∀ (f f' : Nat) (n : Int) (e : Nat), s.size ≤ e + f → a.size ≤ e + f' → (numF s f n e).2 ≤ a.size → Go.Proofs.YtechccoongilcaaDoor.numF a f' n e = Go.Proofs.YtechccoongilcaaDoor.numF s f n e := by
  intro f
  induction f with
  | zero =>
    intro f' n e hf hf' hl
    have hs := h.size
    rw [numF_end (show Go.Proofs.YtechccoongilcaaDoor.digB a e = false from inB_ge (by omega) _ _)]; rfl
  | succ f ih =>
    intro f' n e hf hf' hl
    rcases hd : Go.Proofs.YtechccoongilcaaDoor.digB s e with _ | _
    · rw [numF_end hd] at hl ⊢
      refine numF_end ?_
      by_cases hea : e < a.size
      · rw [h.digB hea]; exact hd
      · exact inB_ge hea _ _
    · rw [Go.Proofs.YtechccoongilcaaDoor.numF, hd, if_pos rfl] at hl ⊢
      have hle := numF_le (s := s) f (min (10 * n + (bAt s e - 48)) 2199023255552) (e + 1)
      have hea : e < a.size := by omega
      match f', hf' with
      | 0, hf' => omega
      | f' + 1, hf' =>
        rw [Go.Proofs.YtechccoongilcaaDoor.numF, h.digB hea, hd, if_pos rfl, ← h.head e hea]
        exact ih f' _ (e + 1) (by omega) (by omega) hl
theorem Headed.numB {k : Nat} (hl : (numB s k).2 ≤ a.size) : Go.Proofs.YtechccoongilcaaDoor.numB a k = Go.Proofs.YtechccoongilcaaDoor.numB s k := h.numF _ _ 0 k (by omega) (by omega) hl
theorem Headed.lexF : ∀ (f f' : Nat) (c : Bool) (k : Nat) (out : List Tok), k ≤ a.size → s.size ≤ k + f → a.size ≤ k + f' →
    ∀ o q, lexF s f c k out = (some o, q) → ∀ (p : Nat) (x : Tok), o[p]? = some x → x.at_ = (a.size : Int) → out.length ≤ p → Go.Proofs.YtechccoongilcaaDoor.lexF a f' c k out = (some (o.take p), 0) := by
  have hs := h.size
  have last : ∀ (f f' : Nat) (c : Bool) (k : Nat) (out : List Tok), k = a.size → s.size ≤ k + f →
      ∀ o q, Go.Proofs.YtechccoongilcaaDoor.lexF s f c k out = (some o, q) → ∀ (p : Nat) (x : Tok), o[p]? = some x → x.at_ = (a.size : Int) → out.length ≤ p → Go.Proofs.YtechccoongilcaaDoor.lexF a f' c k out = (some (o.take p), 0) := by
    intro f f' c k out hk hf o q ho p x hx hat hp
    rw [lexF_end (by omega)]
    obtain ⟨new, h1, h2, h3⟩ := lexF_from f c k out hf o q ho
    have : p = out.length := by
      rcases Nat.lt_or_eq_of_le hp with hp | hp
      · exfalso
        rw [h1, List.getElem?_append_right (by omega)] at hx
        obtain ⟨hlt, hx⟩ := List.getElem?_eq_some_iff.1 hx
        have g1 := h2 new[0] (List.getElem_mem _)
        have g2 := List.pairwise_iff_getElem.1 h3 0 (p - out.length) (by omega) hlt (by omega)
        rw [hx] at g2
        omega
      · exact hp.symm
    rw [h1, this, List.take_left']
    rfl
  intro f
  induction f with
  | zero => intro f' c k out hk hf hf' o q ho; exact last 0 f' c k out (by omega) hf o q ho
  | succ f ih =>
    intro f' c k out hk hf hf' o q ho p x hx hat hp
    rcases Nat.lt_or_ge k a.size with hlt | hge
    · obtain ⟨fs, hfs, hfs2, hos⟩ := lexF_open (c := c) (out := out) (show k < s.size by omega) hf
      obtain ⟨fa, hfa, hfa2, hoa⟩ := lexF_open (c := c) (out := out) hlt hf'
      obtain rfl : fs = f := by omega
      rw [hos] at ho
      rw [hoa]
      have place : ∀ {c' k' out'}, s.size ≤ k' + fs → Go.Proofs.YtechccoongilcaaDoor.lexF s fs c' k' out' = (some o, q) → out'.length ≤ p → k' ≤ a.size := by
        intro c' k' out' hf ho hp
        obtain ⟨new, h1, h2, h3⟩ := lexF_from fs c' k' out' hf o q ho
        rw [h1, List.getElem?_append_right hp] at hx
        have := h2 x (List.mem_of_getElem? hx)
        omega
      have beyond : ∀ {k'} {t : Tok}, s.size ≤ k' + fs → t.at_ = (k : Int) → Go.Proofs.YtechccoongilcaaDoor.lexF s fs false k' (out ++ [t]) = (some o, q) → (out ++ [t]).length ≤ p := by
        intro k' t hf ht ho
        obtain ⟨new, h1, h2, h3⟩ := lexF_from fs false k' _ hf o q ho
        rcases Nat.lt_or_eq_of_le hp with hp | hp
        · rw [List.length_append]; exact hp
        · exfalso
          subst hp
          rw [h1] at hx
          simp at hx
          subst hx
          omega
      by_cases hz : Go.Proofs.YtechccoongilcaaDoor.sizeB s k = 0
      · rw [if_pos hz] at ho; injection ho with h1 _; cases h1
      · rw [if_neg hz] at ho
        have hb := h.head k hlt
        have one : k + 1 ≤ a.size := hlt
        have fit : k + Go.Proofs.YtechccoongilcaaDoor.sizeB s k ≤ a.size → Go.Proofs.YtechccoongilcaaDoor.sizeB a k = Go.Proofs.YtechccoongilcaaDoor.sizeB s k := fun e => h.sizeB hz e
        have low : bAt s k ≤ 127 → Go.Proofs.YtechccoongilcaaDoor.sizeB a k = Go.Proofs.YtechccoongilcaaDoor.sizeB s k := fun e => fit (by rw [sizeB_low (by omega) e]; exact one)
        cases c with
        | true =>
          rw [if_pos rfl] at ho
          have hk' := place (by omega) ho hp
          rw [fit hk', if_neg hz, if_pos rfl, ← hb]
          exact ih _ _ _ _ hk' (by omega) (by omega) o q ho p x hx hat hp
        | false =>
          simp only [Bool.false_eq_true, if_false] at ho ⊢
          by_cases c1 : bAt s k = 35
          · rw [if_pos c1] at ho
            rw [low (by omega), if_neg hz, if_pos (by omega)]
            exact ih _ _ _ _ one (by omega) (by omega) o q ho p x hx hat hp
          · rw [if_neg c1] at ho
            by_cases c2 : bAt s k = 32 ∨ bAt s k = 9 ∨ bAt s k = 10
            · rw [if_pos c2] at ho
              rw [low (by omega), if_neg hz, if_neg (by omega), if_pos (by omega)]
              exact ih _ _ _ _ one (by omega) (by omega) o q ho p x hx hat hp
            · rw [if_neg c2] at ho
              rcases hd : Go.Proofs.YtechccoongilcaaDoor.digB s k with _ | _
              · rw [hd] at ho
                simp only [Bool.false_eq_true, if_false] at ho
                have hp' := beyond (by omega) rfl ho
                have hk' := place (by omega) ho hp'
                rw [fit hk', if_neg hz, if_neg (by omega), if_neg (by omega), h.digB hlt, hd]
                simp only [Bool.false_eq_true, if_false]
                rw [← h.runeB hk']
                exact ih _ _ _ _ hk' (by omega) (by omega) o q ho p x hx hat hp'
              · rw [hd] at ho
                simp only [if_true] at ho
                have hg := numB_gt hd
                have hb9 : bAt s k ≤ 57 := by
                  have hd' := hd
                  unfold Go.Proofs.YtechccoongilcaaDoor.digB at hd'
                  rw [inB_at (by omega)] at hd'
                  simp only [Bool.and_eq_true, decide_eq_true_eq] at hd'
                  exact hd'.2
                by_cases c3 : 1099511627776 < (Go.Proofs.YtechccoongilcaaDoor.numB s k).1 ∨ (bAt s k = 48 ∧ k + 1 < (Go.Proofs.YtechccoongilcaaDoor.numB s k).2)
                · rw [if_pos c3] at ho; injection ho with h1 _; cases h1
                · rw [if_neg c3] at ho
                  have hp' := beyond (by omega) rfl ho
                  have hk' := place (by omega) ho hp'
                  rw [low (by omega), if_neg hz, if_neg (by omega), if_neg (by omega), h.digB hlt, hd, if_pos rfl, h.numB hk', ← hb, if_neg c3]
                  exact ih _ _ _ _ hk' (by omega) (by omega) o q ho p x hx hat hp'
    · exact last (f + 1) f' c k out (by omega) hf o q ho p x hx hat hp
end
/-- a script cut ahead of its token p. -/
theorem lexB_cut {a s : ByteArray} (h : Headed a s) {o : List Tok} {q : Nat} (ho : lexB s = (some o, q)) {p : Nat} {x : Tok} (hx : o[p]? = some x) (hat : x.at_ = (a.size : Int)) : lexB a = (some (o.take p), 0) :=
  h.lexF _ _ false 0 [] (Nat.zero_le _) (by omega) (by omega) o q ho p x hx hat (Nat.zero_le _)
end Go.Proofs.YtechccoongilcaaDoor
/- The model's way to read a character is the document's table. Nothing of the program stands here. -/
namespace Go.Proofs.YtechccoongilcaaDoor
open Go
set_option linter.unusedVariables false
set_option linter.unusedSimpArgs false
def sizeN (n b0 b1 b2 b3 : Nat) : Nat :=
  if b0 ≤ 127 then 1
  else if (194 ≤ b0 ∧ b0 ≤ 223) ∧ (1 < n ∧ 128 ≤ b1 ∧ b1 ≤ 191) then 2
  else if 224 ≤ b0 ∧ b0 ≤ 239 ∧ (1 < n ∧ 128 ≤ b1 ∧ b1 ≤ 191) ∧ (2 < n ∧ 128 ≤ b2 ∧ b2 ≤ 191) ∧ (b0 = 224 → 160 ≤ b1) ∧ (b0 = 237 → b1 ≤ 159) then 3
  else if 240 ≤ b0 ∧ b0 ≤ 244 ∧ (1 < n ∧ 128 ≤ b1 ∧ b1 ≤ 191) ∧ (2 < n ∧ 128 ≤ b2 ∧ b2 ≤ 191) ∧ (3 < n ∧ 128 ≤ b3 ∧ b3 ≤ 191) ∧ (b0 = 240 → 144 ≤ b1) ∧ (b0 = 244 → b1 ≤ 143) then 4
  else 0
def runeN (b0 b1 b2 b3 z : Nat) : Nat :=
  if z = 1 then b0 else if z = 2 then 64 * (b0 - 192) + (b1 - 128) else if z = 3 then 64 * (64 * (b0 - 224) + (b1 - 128)) + (b2 - 128) else 64 * (64 * (64 * (b0 - 240) + (b1 - 128)) + (b2 - 128)) + (b3 - 128)
set_option maxRecDepth 100000 in
set_option maxHeartbeats 8000000 in
theorem decodeN_size (n b0 b1 b2 b3 : Nat) (h0 : b0 < 256) (h1 : b1 < 256) (h2 : b2 < 256) (h3 : b3 < 256) :
    Go.Lib.decodeN n b0 b1 b2 b3 = if sizeN n b0 b1 b2 b3 = 0 then (65533, 1) else (runeN b0 b1 b2 b3 (sizeN n b0 b1 b2 b3), sizeN n b0 b1 b2 b3) := by
  unfold sizeN
  by_cases c1 : b0 ≤ 127
  · simp only [if_pos c1]
    unfold Go.Lib.decodeN runeN
    simp only [show b0 < 128 by omega, if_true]
    rfl
  simp only [if_neg c1]
  by_cases c2 : (194 ≤ b0 ∧ b0 ≤ 223) ∧ (1 < n ∧ 128 ≤ b1 ∧ b1 ≤ 191)
  · simp only [if_pos c2]
    unfold Go.Lib.decodeN runeN
    rw [if_neg (by omega), if_pos (by omega), if_pos (by omega)]
    simp only [show (2 : Nat) = 0 ↔ False by decide, show (2 : Nat) = 1 ↔ False by decide, if_false, if_true]
    apply Prod.ext <;> simp only <;> omega
  simp only [if_neg c2]
  by_cases c3 : 224 ≤ b0 ∧ b0 ≤ 239 ∧ (1 < n ∧ 128 ≤ b1 ∧ b1 ≤ 191) ∧ (2 < n ∧ 128 ≤ b2 ∧ b2 ≤ 191) ∧ (b0 = 224 → 160 ≤ b1) ∧ (b0 = 237 → b1 ≤ 159)
  · simp only [if_pos c3]
    obtain ⟨k1, k2, k3, k4, k5, k6⟩ := c3
    unfold Go.Lib.decodeN runeN
    rw [if_neg (by omega), if_neg (by omega), if_pos (by omega), if_pos (by omega)]
    simp only [show (3 : Nat) = 0 ↔ False by decide, show (3 : Nat) = 1 ↔ False by decide, show (3 : Nat) = 2 ↔ False by decide, if_false, if_true]
    apply Prod.ext <;> simp only <;> omega
  simp only [if_neg c3]
  by_cases c4 : 240 ≤ b0 ∧ b0 ≤ 244 ∧ (1 < n ∧ 128 ≤ b1 ∧ b1 ≤ 191) ∧ (2 < n ∧ 128 ≤ b2 ∧ b2 ≤ 191) ∧ (3 < n ∧ 128 ≤ b3 ∧ b3 ≤ 191) ∧ (b0 = 240 → 144 ≤ b1) ∧ (b0 = 244 → b1 ≤ 143)
  · simp only [if_pos c4]
    obtain ⟨k1, k2, k3, k4, k5, k6, k7⟩ := c4
    unfold Go.Lib.decodeN runeN
    rw [if_neg (by omega), if_neg (by omega), if_neg (by omega), if_pos (by omega), if_pos (by omega)]
    simp only [show (4 : Nat) = 0 ↔ False by decide, show (4 : Nat) = 1 ↔ False by decide, show (4 : Nat) = 2 ↔ False by decide, show (4 : Nat) = 3 ↔ False by decide, if_false]
    apply Prod.ext <;> simp only <;> omega
  simp only [if_neg c4, if_true]
  unfold Go.Lib.decodeN
  rw [if_neg (by omega)]
  split
  · rw [if_neg (by omega)]
  · split
    · rw [if_neg (by omega)]
    · split
      · rw [if_neg (by omega)]
      · rfl
theorem inB_iff {s : ByteArray} {i : Nat} {a b : Int} : inB s i a b = true ↔ i < s.size ∧ a ≤ bAt s i ∧ bAt s i ≤ b := by
  unfold inB; simp only [Bool.and_eq_true, decide_eq_true_eq, and_assoc]
theorem moreB_iff {s : ByteArray} {i : Nat} : ∀ {n : Nat}, moreB s i n = true ↔ ∀ j, j < n → inB s (i + j) 128 191 = true
  | 0 => by simp [moreB]
  | n + 1 => by
    unfold moreB
    rw [Bool.and_eq_true, moreB_iff (n := n)]
    constructor
    · rintro ⟨h1, h2⟩ j hj
      rcases (show j < n ∨ j = n by omega) with h | rfl
      · exact h1 j h
      · exact h2
    · intro h
      exact ⟨fun j hj => h j (by omega), h n (by omega)⟩
theorem more1 {s : ByteArray} {i : Nat} : moreB s i 1 = true ↔ inB s i 128 191 = true := by
  rw [moreB_iff]
  refine ⟨fun h => h 0 (by decide), fun h j hj => ?_⟩
  obtain rfl : j = 0 := by omega
  exact h
theorem more2 {s : ByteArray} {i : Nat} : moreB s i 2 = true ↔ inB s i 128 191 = true ∧ inB s (i + 1) 128 191 = true := by
  rw [moreB_iff]
  refine ⟨fun h => ⟨h 0 (by decide), h 1 (by decide)⟩, fun ⟨h, k⟩ j hj => ?_⟩
  rcases (show j = 0 ∨ j = 1 by omega) with rfl | rfl
  · exact h
  · exact k
theorem more3 {s : ByteArray} {i : Nat} : moreB s i 3 = true ↔ inB s i 128 191 = true ∧ inB s (i + 1) 128 191 = true ∧ inB s (i + 2) 128 191 = true := by
  rw [moreB_iff]
  refine ⟨fun h => ⟨h 0 (by decide), h 1 (by decide), h 2 (by decide)⟩, fun ⟨h, k, l⟩ j hj => ?_⟩
  rcases (show j = 0 ∨ j = 1 ∨ j = 2 by omega) with rfl | rfl | rfl
  · exact h
  · exact k
  · exact l
theorem sizeB_sizeN (s : ByteArray) (k : Nat) (hk : k < s.size) : sizeB s k = sizeN (s.size - k) (s.get! k).toNat (s.get! (k + 1)).toNat (s.get! (k + 2)).toNat (s.get! (k + 3)).toNat := by
  have e0 : bAt s k = ((s.get! k).toNat : Int) := rfl
  have e1 : bAt s (k + 1) = ((s.get! (k + 1)).toNat : Int) := rfl
  have e2 : bAt s (k + 2) = ((s.get! (k + 2)).toNat : Int) := rfl
  have e3 : bAt s (k + 3) = ((s.get! (k + 3)).toNat : Int) := rfl
  have n1 : k + 1 + 1 = k + 2 := rfl
  have n2 : k + 2 + 1 = k + 3 := rfl
  have n3 : k + 1 + 2 = k + 3 := rfl
  have m1 : (s.get! k).toNat < 256 := (s.get! k).toNat_lt
  unfold sizeB sizeN
  simp only [Bool.or_eq_true, Bool.and_eq_true, more1, more2, more3, inB_iff, n1, n2, n3, e0, e1, e2, e3]
  generalize (s.get! k).toNat = b0 at *
  generalize (s.get! (k + 1)).toNat = b1
  generalize (s.get! (k + 2)).toNat = b2
  generalize (s.get! (k + 3)).toNat = b3
  have i1 : (if k < s.size ∧ (0 : Int) ≤ (b0 : Int) ∧ (b0 : Int) ≤ 127 then (1 : Nat) else 0) = if b0 ≤ 127 then 1 else 0 := by
    by_cases c : b0 ≤ 127
    · rw [if_pos c, if_pos (by omega)]
    · rw [if_neg c, if_neg (by omega)]
  by_cases c1 : b0 ≤ 127
  · rw [if_pos (by omega), if_pos c1]
  rw [if_neg (by omega), if_neg c1]
  by_cases c2 : (194 ≤ b0 ∧ b0 ≤ 223) ∧ (1 < s.size - k ∧ 128 ≤ b1 ∧ b1 ≤ 191)
  · rw [if_pos c2, if_pos (by omega)]
  rw [if_neg c2, if_neg (by omega)]
  by_cases c3 : 224 ≤ b0 ∧ b0 ≤ 239 ∧ (1 < s.size - k ∧ 128 ≤ b1 ∧ b1 ≤ 191) ∧ (2 < s.size - k ∧ 128 ≤ b2 ∧ b2 ≤ 191) ∧ (b0 = 224 → 160 ≤ b1) ∧ (b0 = 237 → b1 ≤ 159)
  · rw [if_pos c3, if_pos (by omega)]
  rw [if_neg c3, if_neg (by omega)]
  by_cases c4 : 240 ≤ b0 ∧ b0 ≤ 244 ∧ (1 < s.size - k ∧ 128 ≤ b1 ∧ b1 ≤ 191) ∧ (2 < s.size - k ∧ 128 ≤ b2 ∧ b2 ≤ 191) ∧ (3 < s.size - k ∧ 128 ≤ b3 ∧ b3 ≤ 191) ∧ (b0 = 240 → 144 ≤ b1) ∧ (b0 = 244 → b1 ≤ 143)
  · rw [if_pos c4, if_pos (by omega)]
  rw [if_neg c4, if_neg (by omega)]
/-- the model's decode, in the document's words. -/
theorem decode_size (s : ByteArray) (k : Nat) (hk : k < s.size) : (sizeB s k = 0 → Utf8.decode s k = (65533, 1)) ∧ (sizeB s k ≠ 0 → Utf8.decode s k = ((runeB s k (sizeB s k)).toNat, sizeB s k) ∧ 0 ≤ runeB s k (sizeB s k)) := by
  have hd := Go.Lib.decode_at s k
  rw [decodeN_size _ _ _ _ _ (s.get! k).toNat_lt (s.get! (k + 1)).toNat_lt (s.get! (k + 2)).toNat_lt (s.get! (k + 3)).toNat_lt, ← sizeB_sizeN s k hk] at hd
  refine ⟨fun h => by rw [hd, if_pos h], fun h => ?_⟩
  rw [if_neg h] at hd
  rw [hd]
  have hz := sizeB_sizeN s k hk
  have e0 : bAt s k = ((s.get! k).toNat : Int) := rfl
  have e1 : bAt s (k + 1) = ((s.get! (k + 1)).toNat : Int) := rfl
  have e2 : bAt s (k + 2) = ((s.get! (k + 2)).toNat : Int) := rfl
  have e3 : bAt s (k + 3) = ((s.get! (k + 3)).toNat : Int) := rfl
  have key : runeB s k (sizeB s k) = (runeN (s.get! k).toNat (s.get! (k + 1)).toNat (s.get! (k + 2)).toNat (s.get! (k + 3)).toNat (sizeB s k) : Int) := by
    generalize hb0 : (s.get! k).toNat = b0 at *
    generalize hb1 : (s.get! (k + 1)).toNat = b1 at *
    generalize hb2 : (s.get! (k + 2)).toNat = b2 at *
    generalize hb3 : (s.get! (k + 3)).toNat = b3 at *
    unfold sizeN at hz
    unfold runeN
    split at hz
    · rw [hz]; show bAt s k = _; rw [e0]; rfl
    split at hz
    · rename_i c; rw [hz]; show 64 * (bAt s k - 192) + bAt s (k + 1) - 128 = _; rw [e0, e1]; simp only [show (2 : Nat) = 1 ↔ False by decide, if_false, if_true]; omega
    split at hz
    · rename_i c; rw [hz]; show 64 * (64 * (bAt s k - 224) + bAt s (k + 1) - 128) + bAt s (k + 2) - 128 = _; rw [e0, e1, e2]; simp only [show (3 : Nat) = 1 ↔ False by decide, show (3 : Nat) = 2 ↔ False by decide, if_false, if_true]; omega
    split at hz
    · rename_i c; rw [hz]; show 64 * (64 * (64 * (bAt s k - 240) + bAt s (k + 1) - 128) + bAt s (k + 2) - 128) + bAt s (k + 3) - 128 = _; rw [e0, e1, e2, e3]; simp only [show (4 : Nat) = 1 ↔ False by decide, show (4 : Nat) = 2 ↔ False by decide, show (4 : Nat) = 3 ↔ False by decide, if_false]; omega
    · exact absurd hz h
  refine ⟨?_, by rw [key]; omega⟩
  rw [key]
  simp
end Go.Proofs.YtechccoongilcaaDoor
/- Where the tokens of a script stand: in order, whole, with white and comments alone between them. Nothing of the program stands here. -/
namespace Go.Proofs.YtechccoongilcaaDoor
open Go
set_option linter.unusedVariables false
set_option linter.unusedSimpArgs false
/-- n bytes from i on, gone over as white and comments: whether a comment is open behind them; none: there is something else. -/
def nstF (s : ByteArray) : Nat → Nat → Bool → Option Bool
  | 0, _, c => some c
  | n + 1, i, c => if bAt s i = 10 then nstF s n (i + 1) false else if c then nstF s n (i + 1) true else if bAt s i = 35 then nstF s n (i + 1) true else if bAt s i = 32 ∨ bAt s i = 9 then nstF s n (i + 1) false else none
theorem nstF_add (s : ByteArray) : ∀ (n m i : Nat) (c : Bool), nstF s (n + m) i c = (nstF s n i c).bind fun c' => nstF s m (i + n) c'
  | 0, m, i, c => by rw [Nat.zero_add, nstF]; rfl
  | n + 1, m, i, c => by
    have ih := fun c => nstF_add s n m (i + 1) c
    rw [show n + 1 + m = (n + m) + 1 by omega, nstF, nstF]
    simp only [ih, show i + 1 + n = i + (n + 1) by omega]
    split
    · rfl
    · split
      · rfl
      · split
        · rfl
        · split <;> rfl
theorem nst_then {s : ByteArray} {e k z : Nat} {c c' : Bool} (he : e ≤ k) (h1 : nstF s (k - e) e false = some c) (h2 : nstF s z k c = some c') : nstF s (k + z - e) e false = some c' := by
  rw [show k + z - e = (k - e) + z by omega, nstF_add, h1]
  show nstF s z (e + (k - e)) c = _
  rw [show e + (k - e) = k by omega, h2]
/-- the bytes of a character of more than one byte are above 127. -/
theorem bytes_high {s : ByteArray} {k : Nat} (h2 : 2 ≤ sizeB s k) : ∀ j, j < sizeB s k → 128 ≤ bAt s (k + j) := by
  have hk : k < s.size := by have := sizeB_in (s := s) (k := k) (by omega); omega
  intro j hj
  have hz := sizeB_sizeN s k hk
  have e0 : bAt s k = ((s.get! k).toNat : Int) := rfl
  have e1 : bAt s (k + 1) = ((s.get! (k + 1)).toNat : Int) := rfl
  have e2 : bAt s (k + 2) = ((s.get! (k + 2)).toNat : Int) := rfl
  have e3 : bAt s (k + 3) = ((s.get! (k + 3)).toNat : Int) := rfl
  have hj4 := sizeB_le s k
  unfold sizeN at hz
  rcases (show j = 0 ∨ j = 1 ∨ j = 2 ∨ j = 3 by omega) with rfl | rfl | rfl | rfl
  all_goals
    (try simp only [Nat.add_zero])
    split at hz
    · omega
    split at hz
    · omega
    split at hz
    · omega
    split at hz
    · omega
    · omega
theorem byte_one {s : ByteArray} {k : Nat} (h : sizeB s k = 1) : bAt s k ≤ 127 := by
  have hk : k < s.size := by have := sizeB_in (s := s) (k := k) (by omega); omega
  have hz := sizeB_sizeN s k hk
  have e0 : bAt s k = ((s.get! k).toNat : Int) := rfl
  unfold sizeN at hz
  split at hz
  · omega
  split at hz
  · omega
  split at hz
  · omega
  split at hz
  · omega
  · omega
theorem nst_high (s : ByteArray) : ∀ (n i : Nat), (∀ j, j < n → bAt s (i + j) ≠ 10) → nstF s n i true = some true
  | 0, i, _ => rfl
  | n + 1, i, h => by
    rw [nstF, if_neg (show ¬ bAt s i = 10 from h 0 (by omega)), if_pos rfl]
    exact nst_high s n (i + 1) fun j hj => by rw [show i + 1 + j = i + (j + 1) by omega]; exact h (j + 1) (by omega)
/-- a character within a comment. -/
theorem nst_comment {s : ByteArray} {k : Nat} (hz : sizeB s k ≠ 0) : nstF s (sizeB s k) k true = some (decide (bAt s k ≠ 10)) := by
  rcases (show sizeB s k = 1 ∨ 2 ≤ sizeB s k by omega) with h | h
  · rw [h]
    by_cases c : bAt s k = 10
    · rw [nstF, if_pos c]; simp [nstF, c]
    · rw [nstF, if_neg c, if_pos rfl]; simp [nstF, c]
  · have hb := bytes_high h
    rw [nst_high s _ _ (fun j hj => by have := hb j hj; omega), decide_eq_true]
    have := hb 0 (by omega); rw [Nat.add_zero] at this; omega
theorem digB_numB_end (s : ByteArray) : ∀ (f : Nat) (n : Int) (e : Nat), s.size ≤ e + f → digB s (numF s f n e).2 = false
  | 0, n, e, h => inB_ge (by show ¬ e < s.size; omega) _ _
  | f + 1, n, e, h => by
    rw [numF]; split
    · exact digB_numB_end s f _ _ (by omega)
    · rename_i c; simpa using c
theorem numB_end (s : ByteArray) (k : Nat) : digB s (numB s k).2 = false := digB_numB_end s _ _ _ (by omega)
theorem numF_nonneg {s : ByteArray} : ∀ (f : Nat) (n : Int) (e : Nat), 0 ≤ n → 0 ≤ (numF s f n e).1
  | 0, _, _, h => h
  | f + 1, n, e, h => by
    rw [numF]; split
    · rename_i hd
      have hb := inB_iff.1 (show inB s e 48 57 = true from hd)
      exact numF_nonneg f _ _ (by omega)
    · exact h

/-- a token that stands at p. -/
def TokOk (s : ByteArray) (x : Tok) (p : Nat) : Prop :=
  x.at_ = (p : Int) ∧ p < s.size ∧ ((x.kind = 1 ∧ x.n = 0 ∧ sizeB s p ≠ 0 ∧ x.sign = runeB s p (sizeB s p)) ∨
    (x.kind = 2 ∧ x.sign = 0 ∧ digB s p = true ∧ x.n = (numB s p).1 ∧ x.n ≤ 1099511627776))
def endT (s : ByteArray) (x : Tok) (p : Nat) : Nat := if x.kind = 1 then p + sizeB s p else (numB s p).2
/-- tokens in order; behind the last one stands e; l: it is a number. -/
inductive Placed (s : ByteArray) : List Tok → Nat → Bool → Prop
  | nil : Placed s [] 0 false
  | snoc {out : List Tok} {e p : Nat} {l : Bool} {x : Tok} (h : Placed s out e l) (hx : TokOk s x p) (he : e ≤ p) (hn : (nstF s (p - e) e false).isSome = true) (ha : x.kind = 2 → l = true → e < p) : Placed s (out ++ [x]) (endT s x p) (decide (x.kind = 2))
theorem endT_size {s : ByteArray} {x : Tok} {p : Nat} (h : TokOk s x p) : p < endT s x p ∧ endT s x p ≤ s.size := by
  obtain ⟨_, hp, h | h⟩ := h
  · unfold endT; rw [if_pos h.1]
    have := sizeB_in (s := s) (k := p) (by have := h.2.2.1; omega)
    have := h.2.2.1
    omega
  · unfold endT; rw [if_neg (by rw [h.1]; decide)]
    exact ⟨numB_gt h.2.2.1, numB_size' h.2.2.1 hp⟩
where
  numB_size' {s : ByteArray} {p : Nat} (h : digB s p = true) (hp : p < s.size) : (numB s p).2 ≤ s.size := by
    unfold numB
    exact go _ _ _ (by omega)
  go {s : ByteArray} : ∀ (f : Nat) (n : Int) (e : Nat), e ≤ s.size → (numF s f n e).2 ≤ s.size
    | 0, _, _, h => h
    | f + 1, n, e, h => by
      rw [numF]; split
      · rename_i hd
        have := inB_lt hd
        exact go f _ _ (by omega)
      · exact h
theorem Placed.unique {s : ByteArray} {out : List Tok} {e e' : Nat} {l l' : Bool} (h : Placed s out e l) (h' : Placed s out e' l') : e = e' ∧ l = l' := by
  cases h with
  | nil =>
    generalize ho : ([] : List Tok) = o at h'
    cases h' with
    | nil => exact ⟨rfl, rfl⟩
    | snoc => simp at ho
  | @snoc out1 e1 p1 l1 x1 h1 hx1 he1 hn1 ha1 =>
    generalize ho : out1 ++ [x1] = o at h'
    cases h' with
    | nil => simp at ho
    | @snoc out2 e2 p2 l2 x2 h2 hx2 he2 hn2 ha2 =>
      obtain ⟨_, hx⟩ := List.append_inj' ho rfl
      injection hx with hx
      subst hx
      have : p1 = p2 := by have a := hx1.1; have b := hx2.1; omega
      subst this
      exact ⟨rfl, rfl⟩
theorem Placed.last {s : ByteArray} {out : List Tok} {x : Tok} {e : Nat} {l : Bool} (h : Placed s (out ++ [x]) e l) : ∃ e1 l1 p, Placed s out e1 l1 ∧ TokOk s x p ∧ e1 ≤ p ∧ (nstF s (p - e1) e1 false).isSome = true ∧ (x.kind = 2 → l1 = true → e1 < p) ∧ e = endT s x p ∧ l = decide (x.kind = 2) := by
  generalize ho : out ++ [x] = o at h
  cases h with
  | nil => simp at ho
  | @snoc out2 e2 p2 l2 x2 h2 hx2 he2 hn2 ha2 =>
    obtain ⟨h1, hx⟩ := List.append_inj' ho rfl
    injection hx with hx
    subst hx h1
    exact ⟨e2, l2, p2, h2, hx2, he2, hn2, ha2, rfl, rfl⟩
theorem Placed.take {s : ByteArray} : ∀ (n : Nat) {out : List Tok} {e : Nat} {l : Bool}, out.length = n → Placed s out e l → ∀ i, i ≤ n → ∃ e' l', Placed s (out.take i) e' l'
  | 0, out, e, l, hn, h, i, hi => by
    obtain rfl : i = 0 := by omega
    exact ⟨0, false, by rw [List.take_zero]; exact Placed.nil⟩
  | n + 1, out, e, l, hn, h, i, hi => by
    rcases (show i = n + 1 ∨ i ≤ n by omega) with rfl | hi2
    · exact ⟨e, l, by rw [List.take_of_length_le (by omega)]; exact h⟩
    · obtain ⟨o, x, rfl⟩ : ∃ o x, out = o ++ [x] := ⟨out.dropLast, out.getLast (by intro c; rw [c] at hn; cases hn), (List.dropLast_concat_getLast _).symm⟩
      obtain ⟨e1, l1, p, h1, _⟩ := h.last
      have hl : o.length = n := by simpa using hn
      rw [List.take_append_of_le_length (by omega)]
      exact Placed.take n hl h1 i hi2
theorem lexF_placed (s : ByteArray) : ∀ (f : Nat) (c : Bool) (k : Nat) (out : List Tok) (e : Nat) (l : Bool), k ≤ s.size → s.size ≤ k + f → Placed s out e l → e ≤ k → nstF s (k - e) e false = some c → (l = true → e = k → digB s k = false) →
    ∀ o q, lexF s f c k out = (some o, q) → ∃ e' l', Placed s o e' l' ∧ e' ≤ s.size ∧ (nstF s (s.size - e') e' false).isSome = true := by
  intro f
  induction f with
  | zero =>
    intro c k out e l hk hf hp he hn hl o q ho
    injection ho with h1 _
    injection h1 with h1
    subst h1
    obtain rfl : k = s.size := by omega
    exact ⟨e, l, hp, he, by rw [hn]; rfl⟩
  | succ f ih =>
    intro c k out e l hk hf hp he hn hl o q ho
    by_cases hlt : k < s.size
    · obtain ⟨f', hf', hf2, hop⟩ := lexF_open (c := c) (out := out) hlt hf
      obtain rfl : f' = f := by omega
      rw [hop] at ho
      by_cases hz : sizeB s k = 0
      · rw [if_pos hz] at ho; injection ho with h1 _; cases h1
      · rw [if_neg hz] at ho
        have hin := sizeB_in (s := s) (k := k) (by omega)
        cases c with
        | true =>
          rw [if_pos rfl] at ho
          exact ih _ _ _ e l (by omega) (by omega) hp (by omega) (nst_then he hn (nst_comment hz)) (fun _ q => by omega) o q ho
        | false =>
          simp only [Bool.false_eq_true, if_false] at ho
          by_cases c1 : bAt s k = 35
          · rw [if_pos c1] at ho
            exact ih _ _ _ e l (by omega) (by omega) hp (by omega) (nst_then he hn (by rw [nstF, if_neg (by omega), if_neg (by decide), if_pos c1]; rfl)) (fun _ q => by omega) o q ho
          · rw [if_neg c1] at ho
            by_cases c2 : bAt s k = 32 ∨ bAt s k = 9 ∨ bAt s k = 10
            · rw [if_pos c2] at ho
              refine ih _ _ _ e l (by omega) (by omega) hp (by omega) (nst_then he hn ?_) (fun _ q => by omega) o q ho
              rw [nstF]
              by_cases c3 : bAt s k = 10
              · rw [if_pos c3]; rfl
              · rw [if_neg c3, if_neg (by decide), if_neg c1, if_pos (by omega)]; rfl
            · rw [if_neg c2] at ho
              have nil0 : ∀ j, nstF s (j - j) j false = some false := fun j => by rw [Nat.sub_self]; rfl
              rcases hd : digB s k with _ | _
              · rw [hd] at ho
                simp only [Bool.false_eq_true, if_false] at ho
                have hx : TokOk s ⟨1, runeB s k (sizeB s k), 0, k⟩ k := ⟨rfl, hlt, .inl ⟨rfl, rfl, hz, rfl⟩⟩
                have hp2 := Placed.snoc hp hx he (by rw [hn]; rfl) (fun h => by cases h)
                have hee : endT s ⟨1, runeB s k (sizeB s k), 0, k⟩ k = k + sizeB s k := if_pos rfl
                rw [hee] at hp2
                exact ih _ _ _ _ _ (by omega) (by omega) hp2 (Nat.le_refl _) (nil0 _) (fun h => by simp at h) o q ho
              · rw [hd] at ho
                simp only [if_true] at ho
                by_cases c3 : 1099511627776 < (numB s k).1 ∨ (bAt s k = 48 ∧ k + 1 < (numB s k).2)
                · rw [if_pos c3] at ho; injection ho with h1 _; cases h1
                · rw [if_neg c3] at ho
                  have hx : TokOk s ⟨2, 0, (numB s k).1, k⟩ k := ⟨rfl, hlt, .inr ⟨rfl, rfl, hd, rfl, by show (numB s k).1 ≤ _; omega⟩⟩
                  have hes := endT_size hx
                  have hp2 := Placed.snoc hp hx he (by rw [hn]; rfl) (fun _ hl1 => by
                    rcases Nat.lt_or_ge e k with q1 | q1
                    · exact q1
                    · have := hl hl1 (by omega); rw [hd] at this; cases this)
                  have hee : endT s ⟨2, 0, (numB s k).1, k⟩ k = (numB s k).2 := if_neg (show ¬ (2 : Int) = 1 by decide)
                  rw [hee] at hp2 hes
                  exact ih _ _ _ _ _ (by omega) (by omega) hp2 (Nat.le_refl _) (nil0 _) (fun _ _ => numB_end s k) o q ho
    · rw [lexF_end hlt] at ho
      injection ho with h1 _
      injection h1 with h1
      subst h1
      obtain rfl : k = s.size := by omega
      exact ⟨e, l, hp, he, by rw [hn]; rfl⟩
theorem lexB_placed {s : ByteArray} {o : List Tok} {q : Nat} (h : lexB s = (some o, q)) : ∃ e l, Placed s o e l ∧ e ≤ s.size ∧ (nstF s (s.size - e) e false).isSome = true :=
  lexF_placed s _ _ _ _ 0 false (by omega) (by omega) Placed.nil (Nat.le_refl _) rfl (fun h => absurd h (by decide)) o q h
end Go.Proofs.YtechccoongilcaaDoor
/- Two scripts whose tokens are alike below j are read alike as far as j goes. Nothing of the program stands here. -/
namespace Go.Proofs.YtechccoongilcaaDoor
open Go
set_option linter.unusedVariables false
set_option linter.unusedSimpArgs false
/-- what a reader sees of a token: its kind, its sign, its number; not its place. -/
def sight (l : List Tok) (k : Nat) : Option (Int × Int × Int) := (l[k]?).map fun t => (t.kind, t.sign, t.n)
/-- alike below j. -/
def Alike (l l' : List Tok) (j : Nat) : Prop := ∀ k, k < j → sight l k = sight l' k
theorem Alike.symm {l l' : List Tok} {j : Nat} (h : Alike l l' j) : Alike l' l j := fun k hk => (h k hk).symm
theorem Alike.mono {l l' : List Tok} {j i : Nat} (h : Alike l l' j) (hi : i ≤ j) : Alike l l' i := fun k hk => h k (by omega)
theorem sgB_sight (l : List Tok) (i : Nat) (c : Int) : sgB l i c = match sight l i with | some x => x.1 == 1 && x.2.1 == c | none => false := by
  unfold sgB sight; cases l[i]? <;> rfl
theorem nmB_sight (l : List Tok) (i : Nat) (a b : Int) : nmB l i a b = match sight l i with | some x => x.1 == 2 && decide (a ≤ x.2.2) && decide (x.2.2 ≤ b) | none => false := by
  unfold nmB sight; cases l[i]? <;> rfl
theorem nAt_sight (l : List Tok) (i : Nat) : nAt l i = match sight l i with | some x => x.2.2 | none => 0 := by
  unfold nAt sight; cases l[i]? <;> rfl
theorem Alike.sg {l l' : List Tok} {j i : Nat} (h : Alike l l' j) (hi : i < j) (c : Int) : sgB l' i c = sgB l i c := by rw [sgB_sight, sgB_sight, h i hi]
theorem Alike.nm {l l' : List Tok} {j i : Nat} (h : Alike l l' j) (hi : i < j) (a b : Int) : nmB l' i a b = nmB l i a b := by rw [nmB_sight, nmB_sight, h i hi]
theorem Alike.nat {l l' : List Tok} {j i : Nat} (h : Alike l l' j) (hi : i < j) : nAt l' i = nAt l i := by rw [nAt_sight, nAt_sight, h i hi]
theorem Alike.opens {l l' : List Tok} {j i : Nat} (h : Alike l l' j) (hi : i < j) : opens l' i = Go.Proofs.YtechccoongilcaaDoor.opens l i := by
  unfold Go.Proofs.YtechccoongilcaaDoor.opens; rw [h.sg hi, h.sg hi, h.sg hi, h.sg hi]
theorem Alike.letter {l l' : List Tok} {j i : Nat} (h : Alike l l' j) (hi : i < j) (told : List Int) : letterB l' i told = letterB l i told := by
  unfold letterB; rw [show sgB l' i = sgB l i from funext (h.sg hi)]
theorem Attrs.alike {l l' : List Tok} {j i : Nat} {s : Sty} {told : List Int} {r : Res Sty} (h : Attrs l i s told r) (ha : Alike l l' j) (hj : r.at_ < j) : Attrs l' i s told r := by
  induction h with
  | @stop i s told h1 => exact .stop (by rw [ha.letter (show i < j from hj)]; exact h1)
  | bad h1 h2 =>
    simp only [Res.at_] at hj
    have e := fun t => ha.letter (show _ < j from Nat.lt_of_succ_lt hj) t
    refine .bad (by rw [e]; exact h1) ?_
    rw [e, ha.nm hj]; exact h2
  | @step i s told r h1 h2 h3 ih =>
    have hl := h3.le.1
    have e := fun t => ha.letter (show i < j by omega) t
    have hk : i + 1 < j := by omega
    refine .step (by rw [e]; exact h1) (by rw [e, ha.nm hk]; exact h2) ?_
    rw [e, ha.nat hk]; exact ih hj
theorem Words.alike {l l' : List Tok} {j k : Nat} {out ws : List Int} {b : Nat} (h : Words l k out ws b) (ha : Alike l l' j) (hj : b < j) : Words l' k out ws b := by
  induction h with
  | stop h1 => exact .stop (by rw [ha.nm hj]; exact h1)
  | @step k out ws b h1 h2 ih =>
    have hl := h2.le.1
    have hk : k < j := by omega
    exact .step (by rw [ha.nm hk]; exact h1) (by rw [ha.nat hk]; exact ih hj)
/-- as far as one of the readers has looked. -/
def Res.before {α : Type} (r : Res α) (t : Bool) (j : Nat) : Prop := match r with
  | .ok _ b => if t then b < j else b ≤ j
  | .bad p => p < j
theorem boxR_alike {l l' : List Tok} {j i : Nat} {kind side e : Int} (ha : Alike l l' j) (hj : (boxR l i kind side e).before false j) : boxR l' i kind side e = boxR l i kind side e := by
  unfold boxR at hj ⊢
  by_cases h1 : nmB l i 1 maxN = false
  · rw [if_pos h1] at hj ⊢
    rw [if_pos (by rw [ha.nm hj]; exact h1)]
  · rw [if_neg h1] at hj ⊢
    by_cases h2 : nmB l (i + 1) 1 maxN = false
    · rw [if_pos h2] at hj ⊢
      have hj' : i + 1 < j := hj
      rw [if_neg (by rw [ha.nm (by omega)]; exact h1), if_pos (by rw [ha.nm hj']; exact h2)]
    · rw [if_neg h2] at hj ⊢
      by_cases h3 : sgB l (i + 2) e = false
      · rw [if_pos h3] at hj ⊢
        have hj' : i + 2 < j := hj
        rw [if_neg (by rw [ha.nm (by omega)]; exact h1), if_neg (by rw [ha.nm (by omega)]; exact h2), if_pos (by rw [ha.sg hj']; exact h3)]
      · rw [if_neg h3] at hj ⊢
        have hj' : i + 3 ≤ j := hj
        rw [if_neg (by rw [ha.nm (by omega)]; exact h1), if_neg (by rw [ha.nm (by omega)]; exact h2), if_neg (by rw [ha.sg (by omega)]; exact h3), ha.nat (by omega), ha.nat (by omega)]
theorem Res.before_le {α : Type} {r : Res α} {t : Bool} {j : Nat} (h : r.before t j) : r.at_ ≤ j := by
  cases r with
  | ok x b => cases t
              · exact h
              · exact Nat.le_of_lt (show b < j from h)
  | bad p => exact Nat.le_of_lt h
theorem Res.before_lt {α : Type} {r : Res α} {j : Nat} (h : r.before true j) : r.at_ < j := by
  cases r with
  | ok x b => exact h
  | bad p => exact h
theorem boxR_gt {l : List Tok} {i j : Nat} {kind side e : Int} (h : (boxR l i kind side e).before false j) : i < j := by
  have hl := boxR_le l i kind side e
  cases hb : boxR l i kind side e with
  | ok x b => rw [hb] at h; have := hl.2.2 _ _ hb; have h' : b ≤ j := h; omega
  | bad p => rw [hb] at h; have h' : p < j := h; have := hl.1; rw [hb] at this; simp only [Res.at_] at this; omega
theorem Parse.alike {l l' : List Tok} {j : Nat} {t : Bool} {i : Nat} {out : List Nd} {r : Res (List Nd)} (h : Parse l t i out r) (ha : Alike l l' j) (hj : r.before t j) : Parse l' t i out r := by
  induction h with
  | stop h1 => exact .stop (by rw [ha.opens (show _ < j from hj)]; exact h1)
  | @more i out x b r h1 h2 h3 ih1 ih2 =>
    have hl := h3.le.1
    have hb := Res.before_lt hj
    have hi := h2.le.2.2 rfl
    simp only [Res.at_] at hi
    exact .more (by rw [ha.opens (show i < j by omega)]; exact h1) (ih1 (show b ≤ j by omega)) (ih2 hj)
  | @fail i out p h1 h2 ih =>
    have hi := h2.le.1
    have hp : p < j := hj
    simp only [Res.at_] at hi
    exact .fail (by rw [ha.opens (show i < j by omega)]; exact h1) (ih hj)
  | @blockA i p g1 g2 =>
    have hl := g2.le.1
    have hp : p < j := hj
    simp only [Res.at_] at hl
    exact .blockA (by rw [ha.sg (show i < j by omega)]; exact g1) (g2.alike ha hj)
  | @blockN i s a p g1 g2 g3 ih =>
    have hl := g2.le.1
    have hp : p < j := hj
    have hm := g3.le.1
    simp only [Res.at_] at hl hm
    by_cases hap : a < j
    · exact .blockN (by rw [ha.sg (show i < j by omega)]; exact g1) (g2.alike ha hap) (ih hj)
    · omega
  | @blockE i s a inner b g1 g2 g3 g4 ih =>
    have hl := g2.le.1
    have hp : b < j := hj
    have hm := g3.le.1
    simp only [Res.at_] at hl hm
    exact .blockE (by rw [ha.sg (show i < j by omega)]; exact g1) (g2.alike ha (show a < j by omega)) (ih (show b < j from hp)) (by rw [ha.sg hp]; exact g4)
  | @block i s a inner b g1 g2 g3 g4 ih =>
    have hl := g2.le.1
    have hp : b + 1 ≤ j := hj
    have hm := g3.le.1
    simp only [Res.at_] at hl hm
    exact .block (by rw [ha.sg (show i < j by omega)]; exact g1) (g2.alike ha (show a < j by omega)) (ih (show b < j from hp)) (by rw [ha.sg hp]; exact g4)
  | @textL i g1 g2 =>
    have hp : i + 1 < j := hj
    exact .textL (by rw [ha.sg (show i < j by omega)]; exact g1) (by rw [ha.nm hp]; exact g2)
  | @textS i g1 g2 g3 =>
    have hp : i + 2 < j := hj
    exact .textS (by rw [ha.sg (show i < j by omega)]; exact g1) (by rw [ha.nm (show i + 1 < j by omega)]; exact g2) (by rw [ha.nm hp]; exact g3)
  | @textW i ws b g1 g2 g3 g4 g5 =>
    have hp : b < j := hj
    have hl := g4.le.1
    exact .textW (by rw [ha.sg (show i < j by omega)]; exact g1) (by rw [ha.nm (show i + 1 < j by omega)]; exact g2) (by rw [ha.nm (show i + 2 < j by omega)]; exact g3) (g4.alike ha hp) (g5.imp id fun h => by rw [ha.sg hp]; exact h)
  | @text i ws b g1 g2 g3 g4 g5 g6 =>
    have hp : b + 1 ≤ j := hj
    have hl := g4.le.1
    have k1 := ha.nat (show i + 1 < j by omega)
    have k2 := ha.nat (show i + 2 < j by omega)
    rw [← k1, ← k2]
    exact .text (by rw [ha.sg (show i < j by omega)]; exact g1) (by rw [ha.nm (show i + 1 < j by omega)]; exact g2) (by rw [ha.nm (show i + 2 < j by omega)]; exact g3) (g4.alike ha hp) g5 (by rw [ha.sg hp]; exact g6)
  | @mono i g1 =>
    have hi := boxR_gt hj
    rw [← boxR_alike ha hj]
    exact .mono (by rw [ha.sg (show i < j by omega)]; exact g1)
  | @left i g1 g2 =>
    have hi := boxR_gt hj
    rw [← boxR_alike ha hj]
    exact .left (by rw [ha.sg (show i < j by omega)]; exact g1) (by rw [ha.sg (show i + 1 < j by omega)]; exact g2)
  | @right i g1 g2 =>
    have hi := boxR_gt hj
    rw [← boxR_alike ha hj]
    exact .right (by rw [ha.sg (show i < j by omega)]; exact g1) (by rw [ha.sg (show i + 1 < j by omega)]; exact g2)
  | @side i g1 g2 g3 =>
    have hp : i + 1 < j := hj
    exact .side (by rw [ha.sg (show i < j by omega)]; exact g1) (by rw [ha.sg hp]; exact g2) (by rw [ha.sg hp]; exact g3)
end Go.Proofs.YtechccoongilcaaDoor
/- What is read of a script cut ahead of a token, and of two scripts one behind the other. Nothing of the program stands here. -/
namespace Go.Proofs.YtechccoongilcaaDoor
open Go
set_option linter.unusedVariables false
set_option linter.unusedSimpArgs false
theorem sgB_out {l : List Tok} {i : Nat} (h : sight l i = none) (c : Int) : sgB l i c = false := by rw [sgB_sight, h]
theorem nmB_out {l : List Tok} {i : Nat} (h : sight l i = none) (a b : Int) : nmB l i a b = false := by rw [nmB_sight, h]
theorem letterB_out {l : List Tok} {i : Nat} (h : sight l i = none) (told : List Int) : letterB l i told = 0 := by
  unfold letterB
  rw [show sgB l i = fun _ => false from funext (sgB_out h), show (lettersB.find? fun _ => false) = none from rfl]
theorem opens_out {l : List Tok} {i : Nat} (h : sight l i = none) : opens l i = false := by
  unfold opens; rw [sgB_out h, sgB_out h, sgB_out h, sgB_out h]; rfl
/-- l' ends at j, and is like l below it. -/
structure Cut (l l' : List Tok) (j : Nat) : Prop where
  al : Alike l l' j
  out : sight l' j = none
section
variable {l l' : List Tok} {j : Nat} (h : Cut l l' j)
include h
theorem Cut.sg {i : Nat} (hi : i ≤ j) {c : Int} (hf : sgB l i c = false) : sgB l' i c = false := by
  rcases Nat.lt_or_eq_of_le hi with hi | rfl
  · rw [h.al.sg hi]; exact hf
  · exact sgB_out h.out c
theorem Cut.nm {i : Nat} (hi : i ≤ j) {a b : Int} (hf : nmB l i a b = false) : nmB l' i a b = false := by
  rcases Nat.lt_or_eq_of_le hi with hi | rfl
  · rw [h.al.nm hi]; exact hf
  · exact nmB_out h.out a b
theorem Cut.letter {i : Nat} (hi : i ≤ j) {told : List Int} (hf : letterB l i told = 0) : letterB l' i told = 0 := by
  rcases Nat.lt_or_eq_of_le hi with hi | rfl
  · rw [h.al.letter hi]; exact hf
  · exact letterB_out h.out told
theorem Cut.opens {i : Nat} (hi : i ≤ j) (hf : Go.Proofs.YtechccoongilcaaDoor.opens l i = false) : Go.Proofs.YtechccoongilcaaDoor.opens l' i = false := by
  rcases Nat.lt_or_eq_of_le hi with hi | rfl
  · rw [h.al.opens hi]; exact hf
  · exact opens_out h.out
theorem Attrs.cut {i : Nat} {s : Sty} {told : List Int} {r : Res Sty} (k : Attrs l i s told r) (hj : r.at_ ≤ j) : Attrs l' i s told r := by
  induction k with
  | @stop i s told h1 => exact .stop (h.letter (show i ≤ j from hj) h1)
  | @bad i s told h1 h2 =>
    have hp : i + 1 ≤ j := hj
    have e := fun t => h.al.letter (show i < j by omega) t
    exact .bad (by rw [e]; exact h1) (by rw [e]; exact h.nm hp h2)
  | @step i s told r h1 h2 h3 ih =>
    have hl := h3.le.1
    have e := fun t => h.al.letter (show i < j by omega) t
    have hk : i + 1 < j := by omega
    refine .step (by rw [e]; exact h1) (by rw [e, h.al.nm hk]; exact h2) ?_
    rw [e, h.al.nat hk]; exact ih hj
theorem Words.cut {k : Nat} {out ws : List Int} {b : Nat} (g : Words l k out ws b) (hj : b ≤ j) : Words l' k out ws b := by
  induction g with
  | stop h1 => exact .stop (h.nm hj h1)
  | @step k out ws b h1 h2 ih =>
    have hl := h2.le.1
    have hk : k < j := by omega
    exact .step (by rw [h.al.nm hk]; exact h1) (by rw [h.al.nat hk]; exact ih hj)
theorem boxR_cut {i : Nat} {kind side e : Int} (hj : (boxR l i kind side e).at_ ≤ j) : boxR l' i kind side e = boxR l i kind side e := by
  unfold boxR at hj ⊢
  by_cases h1 : nmB l i 1 maxN = false
  · rw [if_pos h1] at hj ⊢
    rw [if_pos (h.nm (show i ≤ j from hj) h1)]
  · rw [if_neg h1] at hj ⊢
    by_cases h2 : nmB l (i + 1) 1 maxN = false
    · rw [if_pos h2] at hj ⊢
      have hj' : i + 1 ≤ j := hj
      rw [if_neg (by rw [h.al.nm (by omega)]; exact h1), if_pos (h.nm hj' h2)]
    · rw [if_neg h2] at hj ⊢
      by_cases h3 : sgB l (i + 2) e = false
      · rw [if_pos h3] at hj ⊢
        have hj' : i + 2 ≤ j := hj
        rw [if_neg (by rw [h.al.nm (by omega)]; exact h1), if_neg (by rw [h.al.nm (by omega)]; exact h2), if_pos (h.sg hj' h3)]
      · rw [if_neg h3] at hj ⊢
        have hj' : i + 3 ≤ j := hj
        rw [if_neg (by rw [h.al.nm (by omega)]; exact h1), if_neg (by rw [h.al.nm (by omega)]; exact h2), if_neg (by rw [h.al.sg (by omega)]; exact h3), h.al.nat (by omega), h.al.nat (by omega)]
theorem Parse.cut {t : Bool} {i : Nat} {out : List Nd} {r : Res (List Nd)} (k : Parse l t i out r) (hj : r.at_ ≤ j) : Parse l' t i out r := by
  have one := k.le.2.2
  induction k with
  | @stop i out h1 => exact .stop (h.opens (show i ≤ j from hj) h1)
  | @more i out x b r h1 h2 h3 ih1 ih2 =>
    have hl := h3.le.1
    have hi := h2.le.2.2 rfl
    simp only [Res.at_] at hi
    exact .more (by rw [h.al.opens (show i < j by omega)]; exact h1) (ih1 (show b ≤ j by omega) h2.le.2.2) (ih2 hj h3.le.2.2)
  | @fail i out p h1 h2 ih =>
    have hi := h2.le.2.2 rfl
    have hp : p ≤ j := hj
    simp only [Res.at_] at hi
    exact .fail (by rw [h.al.opens (show i < j by omega)]; exact h1) (ih hj h2.le.2.2)
  | @blockA i p g1 g2 =>
    have hl := g2.le.1
    have hp : p ≤ j := hj
    simp only [Res.at_] at hl
    exact .blockA (by rw [h.al.sg (show i < j by omega)]; exact g1) (g2.cut h hj)
  | @blockN i s a p g1 g2 g3 ih =>
    have hl := g2.le.1
    have hp : p ≤ j := hj
    have hm := g3.le.1
    simp only [Res.at_] at hl hm
    exact .blockN (by rw [h.al.sg (show i < j by omega)]; exact g1) (g2.cut h (show a ≤ j by omega)) (ih hj g3.le.2.2)
  | @blockE i s a inner b g1 g2 g3 g4 ih =>
    have hl := g2.le.1
    have hp : b ≤ j := hj
    have hm := g3.le.1
    simp only [Res.at_] at hl hm
    exact .blockE (by rw [h.al.sg (show i < j by omega)]; exact g1) (g2.cut h (show a ≤ j by omega)) (ih hp g3.le.2.2) (h.sg hp g4)
  | @block i s a inner b g1 g2 g3 g4 ih =>
    have hl := g2.le.1
    have hp : b + 1 ≤ j := hj
    have hm := g3.le.1
    simp only [Res.at_] at hl hm
    exact .block (by rw [h.al.sg (show i < j by omega)]; exact g1) (g2.cut h (show a ≤ j by omega)) (ih (show b ≤ j by omega) g3.le.2.2) (by rw [h.al.sg (show b < j by omega)]; exact g4)
  | @textL i g1 g2 =>
    have hp : i + 1 ≤ j := hj
    exact .textL (by rw [h.al.sg (show i < j by omega)]; exact g1) (h.nm hp g2)
  | @textS i g1 g2 g3 =>
    have hp : i + 2 ≤ j := hj
    exact .textS (by rw [h.al.sg (show i < j by omega)]; exact g1) (by rw [h.al.nm (show i + 1 < j by omega)]; exact g2) (h.nm hp g3)
  | @textW i ws b g1 g2 g3 g4 g5 =>
    have hp : b ≤ j := hj
    have hl := g4.le.1
    exact .textW (by rw [h.al.sg (show i < j by omega)]; exact g1) (by rw [h.al.nm (show i + 1 < j by omega)]; exact g2) (by rw [h.al.nm (show i + 2 < j by omega)]; exact g3) (g4.cut h hp) (g5.imp id fun k => h.sg hp k)
  | @text i ws b g1 g2 g3 g4 g5 g6 =>
    have hp : b + 1 ≤ j := hj
    have hl := g4.le.1
    have k1 := h.al.nat (show i + 1 < j by omega)
    have k2 := h.al.nat (show i + 2 < j by omega)
    rw [← k1, ← k2]
    exact .text (by rw [h.al.sg (show i < j by omega)]; exact g1) (by rw [h.al.nm (show i + 1 < j by omega)]; exact g2) (by rw [h.al.nm (show i + 2 < j by omega)]; exact g3) (g4.cut h (by omega)) g5 (by rw [h.al.sg (by omega)]; exact g6)
  | @mono i g1 =>
    have hi := one rfl
    rw [← boxR_cut h hj]
    exact .mono (by rw [h.al.sg (show i < j by omega)]; exact g1)
  | @left i g1 g2 =>
    have hi := (boxR_le l (i + 2) 4 1 62).1
    rw [← boxR_cut h hj]
    exact .left (by rw [h.al.sg (show i < j by omega)]; exact g1) (by rw [h.al.sg (show i + 1 < j by omega)]; exact g2)
  | @right i g1 g2 =>
    have hi := (boxR_le l (i + 2) 4 2 62).1
    rw [← boxR_cut h hj]
    exact .right (by rw [h.al.sg (show i < j by omega)]; exact g1) (by rw [h.al.sg (show i + 1 < j by omega)]; exact g2)
  | @side i g1 g2 g3 =>
    have hp : i + 1 ≤ j := hj
    exact .side (by rw [h.al.sg (show i < j by omega)]; exact g1) (h.sg hp g2) (h.sg hp g3)
end
/-! ### one behind the other -/
theorem Parse.on' {l l' : List Tok} {t : Bool} {i j : Nat} {out x : List Nd} {r q : Res (List Nd)} (k : Parse l t i out q) (ha : Alike l l' j) (ht : t = true) (hq : q = .ok x j) (hr : Parse l' true j x r) : Parse l' true i out r := by
  induction k with
  | stop h1 => cases hq; exact hr
  | @more i out y b q h1 h2 h3 ih1 ih2 =>
    subst hq
    have hl := h3.le.1
    have hi := h2.le.2.2 rfl
    simp only [Res.at_] at hi hl
    exact .more (by rw [ha.opens (show i < j by omega)]; exact h1) (h2.alike ha (show b ≤ j by omega)) (ih2 rfl rfl)
  | fail _ _ => cases hq
  | _ => cases ht
/-- a script's nodes that end at j, and what stands behind: what both are read as. -/
theorem Parse.on {l l' : List Tok} {i j : Nat} {out x : List Nd} {r : Res (List Nd)} (k : Parse l true i out (.ok x j)) (ha : Alike l l' j) (hr : Parse l' true j x r) : Parse l' true i out r := k.on' ha rfl rfl hr
def Res.far {α : Type} (A : Nat) : Res α → Res α
  | .ok x b => .ok x (A + b)
  | .bad p => .bad (A + p)
def Res.moved (pre : List Nd) (A : Nat) : Res (List Nd) → Res (List Nd)
  | .ok x b => .ok (pre ++ x) (A + b)
  | .bad p => .bad (A + p)
/-- l' from A on is l. -/
def Behind (l l' : List Tok) (A : Nat) : Prop := ∀ k, sight l' (A + k) = sight l k
section
variable {l l' : List Tok} {A : Nat} (h : Behind l l' A)
include h
theorem Behind.sg (i : Nat) (c : Int) : sgB l' (A + i) c = sgB l i c := by rw [sgB_sight, sgB_sight, h]
theorem Behind.nm (i : Nat) (a b : Int) : nmB l' (A + i) a b = nmB l i a b := by rw [nmB_sight, nmB_sight, h]
theorem Behind.nat (i : Nat) : nAt l' (A + i) = nAt l i := by rw [nAt_sight, nAt_sight, h]
theorem Behind.letter (i : Nat) (told : List Int) : letterB l' (A + i) told = letterB l i told := by
  unfold letterB; rw [show sgB l' (A + i) = sgB l i from funext (h.sg i)]
theorem Behind.opens (i : Nat) : Go.Proofs.YtechccoongilcaaDoor.opens l' (A + i) = Go.Proofs.YtechccoongilcaaDoor.opens l i := by
  unfold Go.Proofs.YtechccoongilcaaDoor.opens; rw [h.sg, h.sg, h.sg, h.sg]
theorem Attrs.behind {i : Nat} {s : Sty} {told : List Int} {r : Res Sty} (k : Attrs l i s told r) : Attrs l' (A + i) s told (r.far A) := by
  induction k with
  | stop h1 => exact .stop (by rw [h.letter]; exact h1)
  | bad h1 h2 => exact .bad (by rw [h.letter]; exact h1) (by rw [h.letter, Nat.add_assoc, h.nm]; exact h2)
  | @step i s told r h1 h2 h3 ih => exact .step (by rw [h.letter]; exact h1) (by rw [h.letter, Nat.add_assoc, h.nm]; exact h2) (by rw [h.letter, show nAt l' (A + i + 1) = nAt l (i + 1) from h.nat (i + 1)]; exact ih)
theorem Words.behind {k : Nat} {out ws : List Int} {b : Nat} (g : Words l k out ws b) : Words l' (A + k) out ws (A + b) := by
  induction g with
  | stop h1 => exact .stop (by rw [h.nm]; exact h1)
  | step h1 h2 ih => exact .step (by rw [h.nm]; exact h1) (by rw [h.nat]; exact ih)
theorem boxR_behind (i : Nat) (kind side e : Int) : boxR l' (A + i) kind side e = (boxR l i kind side e).moved [] A := by
  unfold boxR
  rw [Nat.add_assoc, Nat.add_assoc, Nat.add_assoc, h.nm, h.nm, h.sg, h.nat, h.nat]
  split
  · rfl
  · split
    · rfl
    · split <;> rfl
theorem Parse.behind {t : Bool} {i : Nat} {out : List Nd} {r : Res (List Nd)} (k : Parse l t i out r) (pre : List Nd) : Parse l' t (A + i) (if t then pre ++ out else out) (r.moved (if t then pre else []) A) := by
  induction k generalizing pre with
  | stop h1 => exact .stop (by rw [h.opens]; exact h1)
  | more h1 h2 h3 ih1 ih2 =>
    simp only [if_true, List.append_assoc] at ih2 ⊢
    exact .more (by rw [h.opens]; exact h1) (ih1 []) (by simpa [Res.moved, List.append_assoc] using ih2 pre)
  | fail h1 h2 ih => exact .fail (by rw [h.opens]; exact h1) (ih [])
  | blockA g1 g2 => exact .blockA (by rw [h.sg]; exact g1) (g2.behind h)
  | blockN g1 g2 g3 ih => exact .blockN (by rw [h.sg]; exact g1) (g2.behind h) (ih [])
  | blockE g1 g2 g3 g4 ih => exact .blockE (by rw [h.sg]; exact g1) (g2.behind h) (ih []) ((h.sg _ _).trans g4)
  | block g1 g2 g3 g4 ih => exact .block (by rw [h.sg]; exact g1) (g2.behind h) (ih []) ((h.sg _ _).trans g4)
  | textL g1 g2 => exact .textL (by rw [h.sg]; exact g1) (by rw [Nat.add_assoc, h.nm]; exact g2)
  | textS g1 g2 g3 => exact .textS (by rw [h.sg]; exact g1) (by rw [Nat.add_assoc, h.nm]; exact g2) (by rw [Nat.add_assoc, h.nm]; exact g3)
  | textW g1 g2 g3 g4 g5 => exact .textW (by rw [h.sg]; exact g1) (by rw [Nat.add_assoc, h.nm]; exact g2) (by rw [Nat.add_assoc, h.nm]; exact g3) (g4.behind h) (g5.imp id fun k => (h.sg _ _).trans k)
  | @text i ws b g1 g2 g3 g4 g5 g6 =>
    have k1 := h.nat (i + 1)
    have k2 := h.nat (i + 2)
    rw [← k1, ← k2]
    exact .text (by rw [h.sg]; exact g1) (by rw [Nat.add_assoc, h.nm]; exact g2) (by rw [Nat.add_assoc, h.nm]; exact g3) (g4.behind h) g5 ((h.sg _ _).trans g6)
  | @mono i g1 => have := Parse.mono (l := l') (i := A + i) (by rw [h.sg]; exact g1); rw [Nat.add_assoc, boxR_behind h] at this; exact this
  | @left i g1 g2 => have := Parse.left (l := l') (i := A + i) (by rw [h.sg]; exact g1) (by rw [Nat.add_assoc, h.sg]; exact g2); rw [Nat.add_assoc, boxR_behind h] at this; exact this
  | @right i g1 g2 => have := Parse.right (l := l') (i := A + i) (by rw [h.sg]; exact g1) (by rw [Nat.add_assoc, h.sg]; exact g2); rw [Nat.add_assoc, boxR_behind h] at this; exact this
  | side g1 g2 g3 => exact .side (by rw [h.sg]; exact g1) (by rw [Nat.add_assoc, h.sg]; exact g2) (by rw [Nat.add_assoc, h.sg]; exact g3)
end
end Go.Proofs.YtechccoongilcaaDoor
/- A document read among tokens by a function with fuel: for scripts that are written out. Nothing of the program stands here. -/
namespace Go.Proofs.YtechccoongilcaaDoor
open Go
set_option linter.unusedVariables false
set_option linter.unusedSimpArgs false
deriving instance DecidableEq for Res
def attrsF (l : List Tok) : Nat → Nat → Sty → List Int → Option (Res Sty)
  | 0, _, _, _ => none
  | f + 1, i, s, told =>
    if letterB l i told = 0 then some (.ok s i)
    else if nmB l (i + 1) (limitB (letterB l i told)).1 (limitB (letterB l i told)).2 = false then some (.bad (i + 1))
    else attrsF l f (i + 2) (withB s (letterB l i told) (nAt l (i + 1))) (told ++ [letterB l i told])
theorem attrsF_ok {l : List Tok} : ∀ {f i s told r}, attrsF l f i s told = some r → Attrs l i s told r
  | 0, _, _, _, _, h => by cases h
  | f + 1, i, s, told, r, h => by
    unfold attrsF at h
    split at h
    · rename_i h1; cases h; exact .stop h1
    · rename_i h1
      split at h
      · rename_i h2; cases h; exact .bad h1 h2
      · rename_i h2; exact .step h1 (by simpa using h2) (attrsF_ok h)
def wordsF (l : List Tok) : Nat → Nat → List Int → Option (List Int × Nat)
  | 0, _, _ => none
  | f + 1, k, out => if nmB l k 1 maxN = false then some (out, k) else wordsF l f (k + 1) (out ++ [nAt l k])
theorem wordsF_ok {l : List Tok} : ∀ {f k out ws b}, wordsF l f k out = some (ws, b) → Words l k out ws b
  | 0, _, _, _, _, h => by cases h
  | f + 1, k, out, ws, b, h => by
    unfold wordsF at h
    split at h
    · rename_i h1; cases h; exact .stop h1
    · rename_i h1; exact .step (by simpa using h1) (wordsF_ok h)
def parseF (l : List Tok) : Nat → Bool → Nat → List Nd → Option (Res (List Nd))
  | 0, _, _, _ => none
  | f + 1, true, i, out =>
    if opens l i = false then some (.ok out i)
    else match parseF l f false i [] with
      | some (.ok x b) => parseF l f true b (out ++ x)
      | some (.bad p) => some (.bad p)
      | none => none
  | f + 1, false, i, [] =>
    if sgB l i 91 = true then
      match attrsF l (f + 1) (i + 1) .plain [] with
      | some (.bad p) => some (.bad p)
      | some (.ok s a) => match parseF l f true a [] with
        | some (.bad p) => some (.bad p)
        | some (.ok inner b) => if sgB l b 93 = true then some (.ok (blk s inner :: inner) (b + 1)) else some (.bad b)
        | none => none
      | none => none
    else if sgB l i 40 = true then
      if nmB l (i + 1) 1 maxN = false then some (.bad (i + 1))
      else if nmB l (i + 2) 0 maxN = false then some (.bad (i + 2))
      else match wordsF l (f + 1) (i + 3) [] with
        | some (ws, b) => if ws = [] ∨ sgB l b 41 = false then some (.bad b) else some (.ok [txt (nAt l (i + 1)) (nAt l (i + 2)) ws] (b + 1))
        | none => none
    else if sgB l i 123 = true then some (boxR l (i + 1) 3 0 125)
    else if sgB l i 60 = true then
      if sgB l (i + 1) 76 = true then some (boxR l (i + 2) 4 1 62)
      else if sgB l (i + 1) 82 = true then some (boxR l (i + 2) 4 2 62)
      else some (.bad (i + 1))
    else none
  | _, false, _, _ :: _ => none
theorem parseF_ok {l : List Tok} : ∀ {f t i out r}, parseF l f t i out = some r → Parse l t i out r
  | 0, _, _, _, _, h => by unfold parseF at h; cases h
  | f + 1, true, i, out, r, h => by
    unfold parseF at h
    split at h
    · rename_i h1; cases h; exact .stop h1
    · rename_i h1
      have h1 : opens l i = true := by simpa using h1
      split at h
      · rename_i x b h2; exact .more h1 (parseF_ok h2) (parseF_ok h)
      · rename_i p h2; cases h; exact .fail h1 (parseF_ok h2)
      · cases h
  | f + 1, false, i, _ :: _, r, h => by unfold parseF at h; cases h
  | f + 1, false, i, [], r, h => by
    unfold parseF at h
    split at h
    · rename_i h1
      split at h
      · rename_i p h2; cases h; exact .blockA h1 (attrsF_ok h2)
      · rename_i s a h2
        split at h
        · rename_i p h3; cases h; exact .blockN h1 (attrsF_ok h2) (parseF_ok h3)
        · rename_i inner b h3
          split at h
          · rename_i h4; cases h; exact .block h1 (attrsF_ok h2) (parseF_ok h3) h4
          · rename_i h4; cases h; exact .blockE h1 (attrsF_ok h2) (parseF_ok h3) (by simpa using h4)
        · cases h
      · cases h
    · split at h
      · rename_i h1
        split at h
        · rename_i h2; cases h; exact .textL h1 h2
        · rename_i h2
          split at h
          · rename_i h3; cases h; exact .textS h1 (by simpa using h2) h3
          · rename_i h3
            split at h
            · rename_i ws b h4
              split at h
              · rename_i h5; cases h; exact .textW h1 (by simpa using h2) (by simpa using h3) (wordsF_ok h4) h5
              · rename_i h5
                cases h
                rw [not_or] at h5
                exact .text h1 (by simpa using h2) (by simpa using h3) (wordsF_ok h4) h5.1 (by simpa using h5.2)
            · cases h
      · split at h
        · rename_i h1; cases h; exact .mono h1
        · split at h
          · rename_i h1
            split at h
            · rename_i h2; cases h; exact .left h1 h2
            · rename_i h2
              split at h
              · rename_i h3; cases h; exact .right h1 h3
              · rename_i h3; cases h; exact .side h1 (by simpa using h2) (by simpa using h3)
          · cases h
/-- what a script that is written out is read as. -/
def readF (l : List Tok) (len : Nat) : Option (Option (List Nd) × Nat) :=
  match parseF l (2 * l.length + 2) true 0 [] with
  | some (.ok x b) => match l[b]? with
    | some t => some (none, t.at_.toNat)
    | none => if b = l.length then some (some x, 0) else none
  | some (.bad p) => match l[p]? with
    | some t => some (none, t.at_.toNat)
    | none => some (none, len)
  | none => none
theorem readF_ok {l : List Tok} {len : Nat} {r : Option (List Nd) × Nat} (h : readF l len = some r) : Read l len r := by
  unfold readF at h
  split at h
  · rename_i x b h1
    split at h
    · rename_i t h2; cases h; exact .rest (parseF_ok h1) h2
    · split at h
      · rename_i h3; cases h; subst h3; exact .ok (parseF_ok h1)
      · cases h
  · rename_i p h1
    split at h
    · rename_i t h2; cases h; exact .bad (parseF_ok h1) h2
    · rename_i h2; cases h; exact .short (parseF_ok h1) (by simpa using h2)
  · cases h
end Go.Proofs.YtechccoongilcaaDoor
/- What is read are rows within rows, and its numbers are such as a script tells. Nothing of the program stands here. -/
namespace Go.Proofs.YtechccoongilcaaDoor
open Go
set_option linter.unusedVariables false
set_option linter.unusedSimpArgs false
/-- rows within rows. -/
inductive Forest : List Nd → Prop
  | nil : Forest []
  | cons {x : Nd} {inner rest : List Nd} : x.size = 1 + (inner.length : Int) → (x.kind ≠ 1 → inner = []) → Forest inner → Forest rest → Forest (x :: (inner ++ rest))
theorem Forest.append {a b : List Nd} (h : Forest a) (k : Forest b) : Forest (a ++ b) := by
  induction h with
  | nil => exact k
  | cons h1 h2 h3 h4 _ ih => rw [List.cons_append, List.append_assoc]; exact .cons h1 h2 h3 ih
theorem Forest.one {x : Nd} (h : x.size = 1) : Forest [x] := by
  have := Forest.cons (x := x) (inner := []) (rest := []) (by simp [h]) (fun _ => rfl) .nil .nil
  simpa using this
def okN (n lo hi : Int) : Prop := lo ≤ n ∧ n ≤ hi
def Sty.fits (s : Sty) : Prop := (okN s.top 0 maxN ∧ okN s.bottom 0 maxN ∧ okN s.padTop 0 maxN ∧ okN s.padBottom 0 maxN ∧ okN s.inset 0 maxN ∧ okN s.orphans 1 maxN) ∧ okN s.widows 1 maxN ∧ okN s.head 0 maxN ∧ okN s.before 0 4 ∧ okN s.after 0 4 ∧ okN s.inside 0 1 ∧ okN s.clear 0 3
def Nd.fits (x : Nd) : Prop :=
  (x.kind = 1 ∧ x.sty.fits ∧ x.line = 0 ∧ x.space = 0 ∧ x.words = [] ∧ x.w = 0 ∧ x.h = 0 ∧ x.side = 0) ∨
  (x.kind = 2 ∧ x.sty = .none ∧ okN x.line 1 maxN ∧ okN x.space 0 maxN ∧ x.words ≠ [] ∧ (∀ n ∈ x.words, okN n 1 maxN) ∧ x.w = 0 ∧ x.h = 0 ∧ x.side = 0) ∨
  (x.kind = 3 ∧ x.sty = .none ∧ x.line = 0 ∧ x.space = 0 ∧ x.words = [] ∧ okN x.w 1 maxN ∧ okN x.h 1 maxN ∧ x.side = 0) ∨
  (x.kind = 4 ∧ x.sty = .none ∧ x.line = 0 ∧ x.space = 0 ∧ x.words = [] ∧ okN x.w 1 maxN ∧ okN x.h 1 maxN ∧ okN x.side 1 2)
theorem plain_fits : Sty.plain.fits := by unfold Sty.fits okN Sty.plain maxN; decide
theorem with_fits {s : Sty} (h : s.fits) {c n : Int} (hc : c ∈ lettersB) (hn : okN n (limitB c).1 (limitB c).2) : (withB s c n).fits := by
  obtain ⟨⟨h1, h2, h3, h4, h5, h6⟩, h7, h8, h9, h10, h11, h12⟩ := h
  simp only [lettersB, List.mem_cons, List.not_mem_nil, or_false] at hc
  have up : ∀ {lo}, 0 ≤ lo → okN n lo maxN → okN n 0 maxN := fun h k => ⟨by have := k.1; omega, k.2⟩
  rcases hc with rfl | rfl | rfl | rfl | rfl | rfl | rfl | rfl | rfl | rfl | rfl | rfl
  · exact ⟨⟨hn, h2, h3, h4, h5, h6⟩, h7, h8, h9, h10, h11, h12⟩
  · exact ⟨⟨h1, hn, h3, h4, h5, h6⟩, h7, h8, h9, h10, h11, h12⟩
  · exact ⟨⟨h1, h2, hn, h4, h5, h6⟩, h7, h8, h9, h10, h11, h12⟩
  · exact ⟨⟨h1, h2, h3, hn, h5, h6⟩, h7, h8, h9, h10, h11, h12⟩
  · exact ⟨⟨h1, h2, h3, h4, hn, h6⟩, h7, h8, h9, h10, h11, h12⟩
  · exact ⟨⟨h1, h2, h3, h4, h5, hn⟩, h7, h8, h9, h10, h11, h12⟩
  · exact ⟨⟨h1, h2, h3, h4, h5, h6⟩, hn, h8, h9, h10, h11, h12⟩
  · exact ⟨⟨h1, h2, h3, h4, h5, h6⟩, h7, up (lo := 1) (by decide) hn, h9, h10, h11, h12⟩
  · exact ⟨⟨h1, h2, h3, h4, h5, h6⟩, h7, h8, hn, h10, h11, h12⟩
  · exact ⟨⟨h1, h2, h3, h4, h5, h6⟩, h7, h8, h9, hn, h11, h12⟩
  · exact ⟨⟨h1, h2, h3, h4, h5, h6⟩, h7, h8, h9, h10, hn, h12⟩
  · exact ⟨⟨h1, h2, h3, h4, h5, h6⟩, h7, h8, h9, h10, h11, hn⟩
theorem Attrs.fits {l : List Tok} {i : Nat} {s : Sty} {told : List Int} {r : Res Sty} (h : Attrs l i s told r) : s.fits → ∀ s' a, r = .ok s' a → s'.fits := by
  induction h with
  | stop _ => intro hs s' a e; cases e; exact hs
  | bad _ _ => intro _ s' a e; cases e
  | step h1 h2 _ ih => intro hs s' a e; exact ih (with_fits hs (letterB_sg h1).2.1 (nmB_bd h2)) s' a e
theorem Words.fits {l : List Tok} {k : Nat} {out ws : List Int} {b : Nat} (h : Words l k out ws b) : (∀ n ∈ out, okN n 1 maxN) → ∀ n ∈ ws, okN n 1 maxN := by
  induction h with
  | stop _ => exact fun h => h
  | step h1 _ ih =>
    intro hs
    refine ih (fun n hn => ?_)
    rcases List.mem_append.1 hn with hn | hn
    · exact hs n hn
    · simp at hn; subst hn; exact nmB_bd h1
theorem boxR_ok {l : List Tok} {i : Nat} {kind side e : Int} {x : List Nd} {b : Nat} (h : boxR l i kind side e = .ok x b) : ∃ u v, x = [box_ kind side u v] ∧ okN u 1 maxN ∧ okN v 1 maxN := by
  unfold boxR at h
  split at h
  · cases h
  split at h
  · cases h
  split at h
  · cases h
  · rename_i h1 h2 _
    cases h
    exact ⟨_, _, rfl, nmB_bd (by simpa using h1), nmB_bd (by simpa using h2)⟩
theorem Parse.forest {l : List Tok} {t : Bool} {i : Nat} {out : List Nd} {r : Res (List Nd)} (h : Parse l t i out r) : Forest out → ∀ x b, r = .ok x b → Forest x := by
  induction h with
  | stop _ => intro hf x b e; cases e; exact hf
  | more _ _ _ ih1 ih2 => intro hf x b e; exact ih2 (hf.append (ih1 .nil _ _ rfl)) x b e
  | fail _ _ _ => intro _ x b e; cases e
  | blockA _ _ => intro _ x b e; cases e
  | blockN _ _ _ _ => intro _ x b e; cases e
  | blockE _ _ _ _ _ => intro _ x b e; cases e
  | @block i s a inner b0 _ _ _ _ ih =>
    intro _ x b e
    cases e
    have := Forest.cons (x := blk s inner) (inner := inner) (rest := []) rfl (fun h => absurd rfl h) (ih .nil _ _ rfl) .nil
    simpa using this
  | textL _ _ => intro _ x b e; cases e
  | textS _ _ _ => intro _ x b e; cases e
  | textW _ _ _ _ _ => intro _ x b e; cases e
  | text _ _ _ _ _ _ => intro _ x b e; cases e; exact .one rfl
  | mono _ => intro _ x b e; obtain ⟨u, v, rfl, _⟩ := boxR_ok e; exact .one rfl
  | left _ _ => intro _ x b e; obtain ⟨u, v, rfl, _⟩ := boxR_ok e; exact .one rfl
  | right _ _ => intro _ x b e; obtain ⟨u, v, rfl, _⟩ := boxR_ok e; exact .one rfl
  | side _ _ _ => intro _ x b e; cases e
theorem Parse.fits {l : List Tok} {t : Bool} {i : Nat} {out : List Nd} {r : Res (List Nd)} (h : Parse l t i out r) : (∀ x ∈ out, x.fits) → ∀ x b, r = .ok x b → ∀ y ∈ x, y.fits := by
  induction h with
  | stop _ => intro hf x b e; cases e; exact hf
  | more _ _ _ ih1 ih2 =>
    intro hf x b e
    refine ih2 (fun y hy => ?_) x b e
    rcases List.mem_append.1 hy with hy | hy
    · exact hf y hy
    · exact ih1 (fun _ h => by cases h) _ _ rfl y hy
  | fail _ _ _ => intro _ x b e; cases e
  | blockA _ _ => intro _ x b e; cases e
  | blockN _ _ _ _ => intro _ x b e; cases e
  | blockE _ _ _ _ _ => intro _ x b e; cases e
  | block _ g2 _ _ ih =>
    intro _ x b e
    cases e
    intro y hy
    rcases List.mem_cons.1 hy with rfl | hy
    · exact .inl ⟨rfl, g2.fits plain_fits _ _ rfl, rfl, rfl, rfl, rfl, rfl, rfl⟩
    · exact ih (fun _ h => by cases h) _ _ rfl y hy
  | textL _ _ => intro _ x b e; cases e
  | textS _ _ _ => intro _ x b e; cases e
  | textW _ _ _ _ _ => intro _ x b e; cases e
  | text _ g2 g3 g4 g5 _ =>
    intro _ x b e
    cases e
    intro y hy
    simp at hy
    subst hy
    exact .inr (.inl ⟨rfl, rfl, nmB_bd g2, nmB_bd g3, g5, g4.fits (fun _ h => by cases h), rfl, rfl, rfl⟩)
  | mono _ => intro _ x b e; obtain ⟨u, v, rfl, hu, hv⟩ := boxR_ok e; intro y hy; simp at hy; subst hy; exact .inr (.inr (.inl ⟨rfl, rfl, rfl, rfl, rfl, hu, hv, rfl⟩))
  | left _ _ => intro _ x b e; obtain ⟨u, v, rfl, hu, hv⟩ := boxR_ok e; intro y hy; simp at hy; subst hy; exact .inr (.inr (.inr ⟨rfl, rfl, rfl, rfl, rfl, hu, hv, by simp [box_], by simp [box_]⟩))
  | right _ _ => intro _ x b e; obtain ⟨u, v, rfl, hu, hv⟩ := boxR_ok e; intro y hy; simp at hy; subst hy; exact .inr (.inr (.inr ⟨rfl, rfl, rfl, rfl, rfl, hu, hv, by simp [box_], by simp [box_]⟩))
  | side _ _ _ => intro _ x b e; cases e
end Go.Proofs.YtechccoongilcaaDoor
/- Nodes read without recursion: blocks that are open stand in a row. Nothing of the program stands here. -/
namespace Go.Proofs.YtechccoongilcaaDoor
open Go
set_option linter.unusedVariables false
set_option linter.unusedSimpArgs false
/-- a block that is open: its style, and the nodes ahead of it. -/
structure Fr where
  sty : Sty
  pre : List Nd
/-- what the whole is read as, the nodes cur being read up to i, within blocks that are open (the innermost first). -/
inductive Cont (l : List Tok) : List Fr → Nat → List Nd → Res (List Nd) → Prop
  | done {i cur r} : Parse l true i cur r → Cont l [] i cur r
  | fail {f fs i cur p} : Parse l true i cur (.bad p) → Cont l (f :: fs) i cur (.bad p)
  | lost {f fs i cur x b} : Parse l true i cur (.ok x b) → sgB l b 93 = false → Cont l (f :: fs) i cur (.bad b)
  | shut {f fs i cur x b r} : Parse l true i cur (.ok x b) → sgB l b 93 = true → Cont l fs (b + 1) (f.pre ++ (blk f.sty x :: x)) r → Cont l (f :: fs) i cur r
theorem Cont.one {l : List Tok} {fs : List Fr} {i b : Nat} {cur x : List Nd} {r : Res (List Nd)} (h1 : opens l i = true) (h2 : Parse l false i [] (.ok x b)) (h : Cont l fs b (cur ++ x) r) : Cont l fs i cur r := by
  cases h with
  | done h => exact .done (.more h1 h2 h)
  | fail h => exact .fail (.more h1 h2 h)
  | lost h k => exact .lost (.more h1 h2 h) k
  | shut h k g => exact .shut (.more h1 h2 h) k g
theorem Cont.bad {l : List Tok} {fs : List Fr} {i p : Nat} {cur : List Nd} (h1 : opens l i = true) (h2 : Parse l false i [] (.bad p)) : Cont l fs i cur (.bad p) := by
  cases fs with
  | nil => exact .done (.fail h1 h2)
  | cons f fs => exact .fail (.fail h1 h2)
theorem opens_sq {l : List Tok} {i : Nat} (h : sgB l i 91 = true) : opens l i = true := by unfold opens; rw [h]; rfl
theorem Cont.enter {l : List Tok} {fs : List Fr} {i a : Nat} {s : Sty} {cur : List Nd} {r : Res (List Nd)} (h1 : sgB l i 91 = true) (h2 : Attrs l (i + 1) .plain [] (.ok s a)) (h : Cont l (⟨s, cur⟩ :: fs) a [] r) : Cont l fs i cur r := by
  cases h with
  | fail h => exact .bad (opens_sq h1) (.blockN h1 h2 h)
  | lost h k => exact .bad (opens_sq h1) (.blockE h1 h2 h k)
  | shut h k g => exact .one (opens_sq h1) (.block h1 h2 h k) g
theorem Cont.leave {l : List Tok} {f : Fr} {fs : List Fr} {i : Nat} {cur : List Nd} {r : Res (List Nd)} (h1 : sgB l i 93 = true) (h : Cont l fs (i + 1) (f.pre ++ (blk f.sty cur :: cur)) r) : Cont l (f :: fs) i cur r := by
  refine .shut (.stop ?_) h1 h
  unfold opens
  rw [sgB_one h1 (by decide), sgB_one h1 (by decide), sgB_one h1 (by decide), sgB_one h1 (by decide)]
  rfl
/-- nothing begins there, and no block ends. -/
theorem Cont.not {l : List Tok} {f : Fr} {fs : List Fr} {i : Nat} {cur : List Nd} (h1 : opens l i = false) (h2 : sgB l i 93 = false) : Cont l (f :: fs) i cur (.bad i) := .lost (.stop h1) h2
/-- the row of nodes as it stands while blocks are open: each is told with size 1. -/
def rowF : List Fr → List Nd
  | [] => []
  | f :: fs => rowF fs ++ f.pre ++ [blk f.sty []]
def openF : List Fr → List Int
  | [] => []
  | f :: fs => openF fs ++ [((rowF fs ++ f.pre).length : Int)]
theorem openF_len (fs : List Fr) : (openF fs).length = fs.length := by
  induction fs with
  | nil => rfl
  | cons f fs ih => simp [openF, ih]
theorem openF_le (fs : List Fr) : fs.length ≤ (rowF fs).length := by
  induction fs with
  | nil => exact Nat.le_refl _
  | cons f fs ih => simp [rowF]; omega
/-- what the machine answers when it ends. -/
inductive Fin (l : List Tok) : Option (List Nd) × Nat → Prop
  | ok {x} : Parse l true 0 [] (.ok x l.length) → Fin l (some x, l.length)
  | bad {p} : (∃ x, Parse l true 0 [] (.ok x p) ∧ p < l.length) ∨ Parse l true 0 [] (.bad p) → Fin l (none, p)
/-- where the program says that a script goes wrong. -/
def placeB (l : List Tok) (len p : Nat) : Int := match l[p]? with
  | some t => t.at_
  | none => len
theorem Fin.read {l : List Tok} {len : Nat} {r : Option (List Nd) × Nat} (h : Fin l r) : Read l len (r.1, match r.1 with | some _ => 0 | none => (placeB l len r.2).toNat) := by
  cases h with
  | ok h => exact .ok h
  | @bad p h =>
    unfold placeB
    rcases hl : l[p]? with _ | t
    · rcases h with ⟨x, h, k⟩ | h
      · exact absurd (List.getElem?_eq_none_iff.1 hl) (by omega)
      · simpa using Read.short h (List.getElem?_eq_none_iff.1 hl)
    · rcases h with ⟨x, h, k⟩ | h
      · exact .rest h hl
      · exact .bad h hl
/-- the end: no token is left, or nothing begins. -/
theorem fin_end {l : List Tok} {fs : List Fr} {i : Nat} {cur : List Nd} (h : ∀ r, Cont l fs i cur r → Parse l true 0 [] r) (hi : i = l.length) (ho : opens l i = false) (hs : sgB l i 93 = false) : Fin l (if fs = [] then some (rowF fs ++ cur) else none, i) := by
  subst hi
  cases fs with
  | nil => simpa [rowF] using Fin.ok (h _ (.done (.stop ho)))
  | cons f fs => simpa using Fin.bad (.inr (h _ (.not ho hs)))
theorem fin_not {l : List Tok} {fs : List Fr} {i : Nat} {cur : List Nd} (h : ∀ r, Cont l fs i cur r → Parse l true 0 [] r) (hi : i < l.length) (ho : opens l i = false) (hs : fs ≠ [] → sgB l i 93 = false) : Fin l (none, i) := by
  cases fs with
  | nil => exact .bad (.inl ⟨_, h _ (.done (.stop ho)), hi⟩)
  | cons f fs => exact .bad (.inr (h _ (.not ho (hs (by simp)))))
theorem fin_bad {l : List Tok} {fs : List Fr} {i p : Nat} {cur : List Nd} (h : ∀ r, Cont l fs i cur r → Parse l true 0 [] r) (ho : opens l i = true) (hp : Parse l false i [] (.bad p)) : Fin l (none, p) := .bad (.inr (h _ (.bad ho hp)))
end Go.Proofs.YtechccoongilcaaDoor
/- A struct of many cells, read and written in one step: for a walk that would open it into its cells. Nothing of the program stands here. -/
namespace Go.Proofs.YtechccoongilcaaDoor
open Go.RowKit
set_option linter.unusedVariables false
set_option linter.unusedSimpArgs false
section
variable {P : Program} {ops : Array Oper} {rest : List Oper} {o : Oper} {a : Act} {w : World} {Q : Exit → Act → World → Prop}
theorem wpList_load_row (hgd : o.guard = none) (t : TypeId) (x : Operand) (ho : o.op = .load t x) (g : Nat) (hx : a.eval x = .pointer (some ⟨g, 0, none⟩)) (te : TypeId) (cs : Array Value) (d : TypeDesc)
    (hg : w.heap[g]? = some (.cells cs te (0, 0))) (hu : P.underlying t = some d) (hd : (match d with | .struct _ | .array _ _ => true | _ => false) = true) (hi : (P.info? t).map (·.size) = some cs.size)
    (h : wpList P ops Q rest (a.put o.dst (.agg cs)) w) : wpList P ops Q (o :: rest) a w := by
  refine wpList_plain hgd fun K hK => ?_
  have hr := run_loadVar_row (P := P) w g te t cs (0, 0) d hg hu hd hi
  unfold Oper.wp
  have he : (execOp a.eval o).run P w = .ok (.value (.agg cs)) w := by
    unfold execOp
    simp only [ho, hx, Instr.loadAt, Instr.sureAddr, Sem.run_bind, Sem.run_pure, Result.andThen_ok, hr]
  rw [he, Oper.upon_value]
  exact hK _ _ h
theorem wpList_store_row (hgd : o.guard = none) (t : TypeId) (x y : Operand) (ho : o.op = .store t x y) (g : Nat) (hx : a.eval x = .pointer (some ⟨g, 0, none⟩)) (te : TypeId) (old cs : Array Value) (hy : a.eval y = .agg cs)
    (hg : w.heap[g]? = some (.cells old te (0, 0))) (hi : (P.info? t).map (·.size) = some cs.size) (hs : old.size = cs.size) (h1 : cs.all (·.oneCell') = true)
    (h : ∀ w', w' = w.setRow g cs → wpList P ops Q rest (a.put o.dst undef) w') : wpList P ops Q (o :: rest) a w := by
  refine wpList_plain hgd fun K hK => ?_
  have hr := run_storeVar_row (P := P) w g te t old cs hg hi hs h1
  unfold Oper.wp
  have he : (execOp a.eval o).run P w = .ok .skip (w.setRow g cs) := by
    unfold execOp
    simp only [ho, hx, hy, Instr.storeAt, Instr.sureAddr, Sem.run_bind, Sem.run_pure, Result.andThen_ok, hr]
  rw [he, Oper.upon_skip]
  exact hK _ _ (h _ rfl)
end
theorem setRow_heap {w : World} {g : Nat} {old cs : Array Value} {te : TypeId} (hg : w.heap[g]? = some (.cells old te (0, 0))) : (w.setRow g cs).heap[g]? = some (.cells cs te (0, 0)) := by
  obtain ⟨hlt, hk⟩ := Array.getElem?_eq_some_iff.1 hg
  show (w.heap.modify g _)[g]? = _
  rw [Array.getElem?_eq_getElem (by rw [Array.size_modify]; exact hlt), Array.getElem_modify_self, hk]
theorem setRow_other {w : World} {g k : Nat} {cs : Array Value} (hk : k ≠ g) : (w.setRow g cs).heap[k]? = w.heap[k]? := by
  show (w.heap.modify g _)[k]? = _
  rw [Array.getElem?_modify, if_neg (fun e => hk e.symm)]
theorem setRow_size (w : World) (g : Nat) (cs : Array Value) : (w.setRow g cs).heap.size = w.heap.size := by
  show (w.heap.modify g _).size = _
  rw [Array.size_modify]
theorem below_setRow {B : Nat} {a w : World} (h : Below B a w) {g : Nat} (hg : B ≤ g) (cs : Array Value) : Below B a (w.setRow g cs) :=
  h.trans ⟨rfl, rfl, rfl, by rw [setRow_size]; exact Nat.le_refl _, fun k hk => setRow_other (by omega)⟩
/-- block g holds the cells vs. -/
def Blk (w : World) (g : Nat) (t : TypeId) (vs : List Value) : Prop := w.heap[g]? = some (.cells vs.toArray t (0, 0))
theorem Blk.box {w : World} {g : Nat} {t : TypeId} {vs : List Value} (h : Blk w g t vs) : Box w g vs := by
  refine ⟨(Array.getElem?_eq_some_iff.1 h).1, fun o => by simp [World.frozen?, show w.heap[g]? = _ from h], fun j v hv => ?_⟩
  simp [World.cell?, show w.heap[g]? = _ from h]
  simpa using hv
theorem Blk.below {w w' : World} {B g : Nat} {t : TypeId} {vs : List Value} (h : Blk w g t vs) (hb : Below B w w') (hg : g < B) : Blk w' g t vs := (hb.block g hg).trans h
theorem Blk.on {w w' : World} {g : Nat} {t : TypeId} {vs : List Value} (h : Blk w g t vs) (hb : Below w.heap.size w w') : Blk w' g t vs := h.below hb (Array.getElem?_eq_some_iff.1 h).1
theorem Blk.new (w : World) (t : TypeId) (vs : List Value) (g : Nat) (hg : g = w.heap.size) (cs : Array Value) (hc : cs = vs.toArray) : Blk (w.alloc (.cells cs t)) g t vs := by subst hg hc; exact World.alloc_heap_new w _
theorem Blk.alloc {w : World} {g : Nat} {t : TypeId} {vs : List Value} (h : Blk w g t vs) (o : Obj) : Blk (w.alloc o) g t vs := h.on ((Below.refl _ _).alloc (Nat.le_refl _) o)
theorem Blk.drew {w : World} {g : Nat} {t : TypeId} {vs : List Value} (h : Blk w g t vs) : Blk w.drew g t vs := h
theorem Blk.set {w : World} {g : Nat} {t : TypeId} {vs : List Value} (h : Blk w g t vs) (j : Nat) (v : Value) : Blk (w.setCell ⟨g, j, none⟩ v) g t (vs.set j v) := by
  obtain ⟨hlt, hk⟩ := Array.getElem?_eq_some_iff.1 h
  show (w.heap.modify g _)[g]? = _
  rw [Array.getElem?_eq_getElem (by rw [Array.size_modify]; exact hlt), Array.getElem_modify_self, hk]
  simp
theorem Blk.set_other {w : World} {g m : Nat} {t : TypeId} {vs : List Value} (h : Blk w g t vs) (hm : m ≠ g) (j : Nat) (v : Value) : Blk (w.setCell ⟨m, j, none⟩ v) g t vs := (Below.heap_setCell _ _ _ _ (fun e => hm e.symm)).trans h
theorem Blk.row {w : World} {g : Nat} {t : TypeId} {vs : List Value} (h : Blk w g t vs) (us : List Value) (cs : Array Value) (hc : cs = us.toArray) : Blk (w.setRow g cs) g t us := by subst hc; exact setRow_heap h
theorem Blk.row_other {w : World} {g m : Nat} {t : TypeId} {vs : List Value} (h : Blk w g t vs) (hm : g ≠ m) (cs : Array Value) : Blk (w.setRow m cs) g t vs := (setRow_other hm).trans h
theorem Blk.grown {w w' : World} {g : Nat} {t : TypeId} {vs : List Value} {row : Option Nat} (h : Blk w g t vs) (hg : w.grownBy w' row) (hr : ∀ k, row = some k → k ≠ g) : Blk w' g t vs :=
  (hg.block g (Array.getElem?_eq_some_iff.1 h).1 (fun e => hr g e.symm rfl)).trans h
theorem owns_set {w : World} {base : Nat} {e : TypeId} {size : Nat} {v : Value} {n : Nat} {xs : List Value} (h : w.ownsRow base e size v n xs) {m : Nat} (hm : m < base) (j : Nat) (u : Value) : (w.setCell ⟨m, j, none⟩ u).ownsRow base e size v n xs := by
  refine ⟨h.1, ?_⟩
  rcases h.2 with h2 | ⟨g, cap, cur, h1, h2, h3, h4⟩
  · exact .inl h2
  · exact .inr ⟨g, cap, cur, h1, h2, (Below.heap_setCell _ _ _ _ (fun e => by simp at e; omega)).trans h3, h4⟩
end Go.Proofs.YtechccoongilcaaDoor
/- Slices whose elements lie in k cells each: read, come in, and of the call's own. Nothing of the program stands here. -/
namespace Go.Proofs.YtechccoongilcaaDoor
open Go.ChangeShapes Go.WideShapes Go.ChangeAt Go.RowKit
set_option linter.unusedVariables false
set_option linter.unusedSimpArgs false

/-- the slice value '.slice A n c' holds zs: element i lies in the k cells 'enc zs[i]'. -/
def Rows {α : Type} (k : Nat) (enc : α → List Value) (w : World) (A : Option Addr) (n : Nat) (zs : List α) : Prop :=
  zs.length = n ∧ n ≤ 9223372036854775807 ∧ (0 < n → ∃ b off, A = some ⟨b, off, none⟩ ∧ b < w.heap.size ∧ ∀ i x, zs[i]? = some x → ∀ j v, (enc x)[j]? = some v → w.cell? ⟨b, off + i * k + j, none⟩ = some v)
section
variable {α : Type} {k : Nat} {enc : α → List Value} {w w' : World} {A : Option Addr} {n : Nat} {zs : List α}
theorem Rows.nil (w : World) (A : Option Addr) : Rows k enc w A 0 [] := ⟨rfl, by decide, fun h => absurd h (by decide)⟩
theorem Rows.len (h : Rows k enc w A n zs) : zs.length = n := h.1
theorem Rows.below (h : Rows k enc w A n zs) (hb : Below w.heap.size w w') : Rows k enc w' A n zs :=
  ⟨h.1, h.2.1, fun hn => by
    obtain ⟨b, off, e, hl, hc⟩ := h.2.2 hn
    have := hb.size
    exact ⟨b, off, e, by omega, fun i x hx j v hv => (below_cell hb hl).trans (hc i x hx j v hv)⟩⟩
theorem Rows.drew (h : Rows k enc w A n zs) : Rows k enc w.drew A n zs := h.below ((Below.refl _ _).drew)
theorem Rows.on (h : Rows k enc w A n zs) (ho : On w w') : Rows k enc w' A n zs := h.below ho
/-- element i: where it lies, and what it is. -/
theorem Rows.at_ (h : Rows k enc w A n zs) {i : Nat} (hi : i < n) : ∃ b off x, A = some ⟨b, off, none⟩ ∧ b < w.heap.size ∧ zs[i]? = some x ∧ ∀ j v, (enc x)[j]? = some v → w.cell? ⟨b, off + i * k + j, none⟩ = some v := by
  obtain ⟨b, off, e, hl, hc⟩ := h.2.2 (by omega)
  have hx : zs[i]? = some (zs[i]'(by rw [h.1]; exact hi)) := List.getElem?_eq_getElem _
  exact ⟨b, off, _, e, hl, hx, hc i _ hx⟩
theorem flat_get (hk : ∀ x : α, (enc x).length = k) : ∀ (zs : List α) (i : Nat) (x : α) (j : Nat) (v : Value), zs[i]? = some x → (enc x)[j]? = some v → (zs.flatMap enc)[i * k + j]? = some v
  | [], i, x, j, v, h, _ => by simp at h
  | z :: zs, 0, x, j, v, h, hv => by
    simp only [List.getElem?_cons_zero, Option.some.injEq] at h
    subst h
    rw [Nat.zero_mul, Nat.zero_add, List.flatMap_cons, List.getElem?_append_left (List.getElem?_eq_some_iff.1 hv).1]; exact hv
  | z :: zs, i + 1, x, j, v, h, hv => by
    rw [List.flatMap_cons, List.getElem?_append_right (by rw [hk, Nat.add_mul, Nat.one_mul]; omega), hk, show (i + 1) * k + j - k = i * k + j by rw [Nat.add_mul, Nat.one_mul]; omega]
    exact flat_get hk zs i x j v (by simpa using h) hv
theorem flat_len (hk : ∀ x : α, (enc x).length = k) (zs : List α) : (zs.flatMap enc).length = zs.length * k := by
  induction zs with
  | nil => simp
  | cons z zs ih => rw [List.flatMap_cons, List.length_append, hk, ih, List.length_cons, Nat.add_mul, Nat.one_mul]; omega
theorem Rows.cells (hk : ∀ x : α, (enc x).length = k) (h0 : 0 < k) (h : Rows k enc w A n zs) : Cells w A n k (zs.flatMap enc) := by
  obtain ⟨h1, h2, h3⟩ := h
  refine ⟨by rw [flat_len hk, h1], h2, fun hn => ?_⟩
  obtain ⟨b, off, e, hb, hc⟩ := h3 hn
  refine ⟨b, off, e, hb, fun j u hu => ?_⟩
  have hj : j < zs.length * k := by rw [← flat_len hk]; exact (List.getElem?_eq_some_iff.1 hu).1
  have hi : j / k < zs.length := Nat.div_lt_of_lt_mul (by rw [Nat.mul_comm]; exact hj)
  have hx : zs[j / k]? = some (zs[j / k]) := List.getElem?_eq_getElem hi
  have hm : j % k < (enc (zs[j / k])).length := by rw [hk]; exact Nat.mod_lt _ h0
  have hv : (enc (zs[j / k]))[j % k]? = some ((enc (zs[j / k]))[j % k]) := List.getElem?_eq_getElem hm
  have e1 := flat_get hk zs (j / k) _ (j % k) _ hx hv
  have e2 : j / k * k + j % k = j := by rw [Nat.mul_comm]; exact Nat.div_add_mod j k
  rw [e2] at e1
  rw [e1] at hu
  have := hc _ _ hx _ _ hv
  rw [Nat.add_assoc, e2] at this
  rw [this, hu]
theorem Cells.rows (hk : ∀ x : α, (enc x).length = k) (h0 : 0 < k) (h : Cells w A n k (zs.flatMap enc)) : Rows k enc w A n zs := by
  obtain ⟨h1, h2, h3⟩ := h
  rw [flat_len hk] at h1
  refine ⟨Nat.eq_of_mul_eq_mul_right h0 h1, h2, fun hn => ?_⟩
  obtain ⟨b, off, e, hb, hc⟩ := h3 hn
  exact ⟨b, off, e, hb, fun i x hx j v hv => by rw [Nat.add_assoc]; exact hc _ _ (flat_get hk zs i x j v hx hv)⟩
theorem ownsRow_rows {base : Nat} {e : TypeId} {c : Nat} (hk : ∀ x : α, (enc x).length = k) (h0 : 0 < k) (h : w.ownsRow base e k (.slice A n c) n (zs.flatMap enc)) : Rows k enc w A n zs := (ownsRow_cells h).rows hk h0
end
theorem owns_below {w w' : World} {base : Nat} {e : TypeId} {size : Nat} {v : Value} {n : Nat} {xs : List Value} (h : w.ownsRow base e size v n xs) (hb : Below w.heap.size w w') : w'.ownsRow base e size v n xs := by
  refine ⟨h.1, ?_⟩
  rcases h.2 with h2 | ⟨g, cap, cur, h1, h2, h3, h4⟩
  · exact .inl h2
  · have hlt : g < w.heap.size := by
      rcases Nat.lt_or_ge g w.heap.size with h' | h'
      · exact h'
      · rw [Array.getElem?_eq_none h'] at h3; cases h3
    exact .inr ⟨g, cap, cur, h1, h2, (hb.block g hlt).trans h3, h4⟩
theorem owns_block {w : World} {base : Nat} {e : TypeId} {size : Nat} {v : Value} {n : Nat} {xs : List Value} (h : w.ownsRow base e size v n xs) : ∀ k, v.ownBlock = some k → base ≤ k := by
  intro k hk
  rcases h.2 with ⟨rfl, _⟩ | ⟨g, cap, cur, rfl, h2, _⟩
  · cases hk
  · injection hk with hk; subst hk; exact h2
theorem owns_block_lt {w : World} {base : Nat} {e : TypeId} {size : Nat} {v : Value} {n : Nat} {xs : List Value} (h : w.ownsRow base e size v n xs) : ∀ k, v.ownBlock = some k → k < w.heap.size := by
  intro k hk
  rcases h.2 with ⟨rfl, _⟩ | ⟨g, cap, cur, rfl, h2, h3, _⟩
  · cases hk
  · injection hk with hk; subst hk
    show g < w.heap.size
    rcases Nat.lt_or_ge g w.heap.size with h' | h'
    · exact h'
    · rw [Array.getElem?_eq_none h'] at h3; cases h3
theorem Box.grown {w w' : World} {n : Nat} {vs : List Value} {row : Option Nat} (h : Box w n vs) (hg : w.grownBy w' row) (hr : ∀ k, row = some k → k ≠ n) : Box w' n vs := by
  have hb : w'.heap[n]? = w.heap[n]? := hg.block n h.lt (fun e => hr n e.symm rfl)
  exact ⟨Nat.lt_of_lt_of_le h.1 hg.size, fun o => (World.frozen?_of_block (w := w) (a := ⟨n, o, none⟩) hb).trans (h.2.1 o), fun j v hv => (World.cell?_of_block (w := w) (a := ⟨n, j, none⟩) hb).trans (h.2.2 j v hv)⟩
theorem owns_nil (w : World) (base : Nat) (e : TypeId) (size : Nat) : w.ownsRow base e size (.slice none 0 0) 0 [] := ⟨by simp, .inl ⟨rfl, rfl⟩⟩
theorem list_choose {α : Type} {p : Nat → α → Prop} : ∀ {n : Nat}, (∀ i, i < n → ∃ x, p i x) → ∃ zs : List α, zs.length = n ∧ ∀ i x, zs[i]? = some x → p i x
  | 0, _ => ⟨[], rfl, fun i x h => by simp at h⟩
  | n + 1, hx => by
    obtain ⟨zs, h1, h2⟩ := list_choose (n := n) (fun i hin => hx i (by omega))
    obtain ⟨x, hx1⟩ := hx n (by omega)
    refine ⟨zs ++ [x], by simp [h1], fun i y hy => ?_⟩
    rcases Nat.lt_or_ge i zs.length with hlt | hge
    · rw [List.getElem?_append_left hlt] at hy; exact h2 i y hy
    · rw [List.getElem?_append_right hge] at hy
      have e : i = zs.length := by
        have := (List.getElem?_eq_some_iff.1 hy).1; simp at this; omega
      subst e
      simp at hy
      subst hy
      rw [h1]; exact hx1
section
variable {H : Type} {enc : TypeId × Value → H} {P : Program} {W : World}
/-- a slice that came in, of whatever elements that can be told from their cells. -/
theorem open_rows {α : Type} {k : Nat} (ea : α → List Value) (good : α → Prop) {base : Nat} {t e : TypeId} {v : Value} {d : DataW H} {p : List MemPlace} (ht : P.underlying t = some (.slice e)) (hC : P.cellsOf e = k) (h0 : 0 < k) (hk : ∀ x : α, (ea x).length = k)
    (hdec : ∀ fuel cs y, DataW.trod enc P W 0 (fun _ => true) true fuel e cs = some y → ∃ x, cs = ea x ∧ good x)
    (hv : Value.okWide P W .any base t v) (h : DataW.Trod enc P W 0 (fun _ => true) true t v d p) :
    ∃ A n c zs, v = .slice A n c ∧ n ≤ c ∧ c ≤ maxLen ∧ Rows k ea W A n zs ∧ ∀ z ∈ zs, good z := by
  obtain ⟨A, n, c, rfl⟩ := okWide_slice ht hv
  obtain ⟨fuel, hf⟩ := h
  rcases Go.Deep.open_slice ht hf with ⟨hcs, _⟩ | ⟨a, len, cap, m, fu, D, Pl, hcs, _, hl, hm, hmm, _, hi⟩
  · simp [Value.cells] at hcs
    obtain ⟨rfl, rfl, rfl⟩ := hcs
    exact ⟨_, _, _, [], rfl, Nat.le_refl _, by decide, Rows.nil _ _, by simp⟩
  · simp [Value.cells] at hcs
    obtain ⟨rfl, rfl, rfl⟩ := hcs
    simp only [if_true] at hmm
    rw [hC] at hi
    have hx : ∀ i, i < n → ∃ x, W.cells? 0 (a.add (i * k)) k = some (ea x) ∧ good x := by
      intro i hin
      obtain ⟨cs', hc', ht'⟩ := hi i (by omega)
      obtain ⟨x, rfl, hg⟩ := hdec _ _ _ ht'
      exact ⟨x, hc', hg⟩
    have hex := list_choose (p := fun i x => W.cells? 0 (a.add (i * k)) k = some (ea x) ∧ good x) hx
    obtain ⟨zs, h1, h2⟩ := hex
    obtain ⟨b, off, spot⟩ := a
    refine ⟨_, _, _, zs, rfl, hl, hm, ⟨h1, by unfold maxLen at hm; omega, fun hn => ?_⟩, fun z hz => ?_⟩
    · have hcell : ∀ i x, zs[i]? = some x → ∀ j v, (ea x)[j]? = some v → W.cell? ((⟨b, off, spot⟩ : Addr).add (i * k + j)) = some v := by
        intro i x hx j v hv
        obtain ⟨hc, _⟩ := h2 i x hx
        obtain ⟨_, hlen, hat⟩ := World.cells?_some hc
        have hj : j < k := by rw [← hk x]; exact (List.getElem?_eq_some_iff.1 hv).1
        have := hat j hj
        rw [hv, Go.Deep.add_add] at this
        exact this
      have hz0 : zs[0]? = some (zs[0]'(by omega)) := List.getElem?_eq_getElem _
      have hv0 : (ea (zs[0]'(by omega)))[0]? = some ((ea (zs[0]'(by omega)))[0]'(by rw [hk]; exact h0)) := List.getElem?_eq_getElem _
      have hc0 := hcell 0 _ hz0 0 _ hv0
      have hspot : spot = none := by simpa [Addr.add] using World.cell?_spot hc0
      subst hspot
      refine ⟨b, off, rfl, ?_, fun i x hx j v hv => ?_⟩
      · have := cell_lt hc0; simpa [Addr.add] using this
      · have := hcell i x hx j v hv
        rwa [add_plain, ← Nat.add_assoc] at this
    · obtain ⟨i, hi2⟩ := List.mem_iff_getElem?.1 hz
      exact (h2 i z hi2).2
end
end Go.Proofs.YtechccoongilcaaDoor
/- A walk is stopped ahead of an operation, told by what it is. Nothing of the program stands here. -/
namespace Go.Proofs.YtechccoongilcaaDoor
open Go.RowKit
set_option linter.unusedVariables false
def Stop (p : Prop) : Prop := p
theorem Stop.intro {p : Prop} (h : p) : Stop p := h
section
variable {P : Program} {ops : Array Oper} {rest : List Oper} {o : Oper} {a : Act} {w : World} {Q : Exit → Act → World → Prop}
/-- ahead of this load. -/
theorem stop_load (t : TypeId) (x : Operand) (ho : o.op = .load t x) (h : Stop (wpList P ops Q (o :: rest) a w)) : wpList P ops Q (o :: rest) a w := h
/-- ahead of this store. -/
theorem stop_store (t : TypeId) (x y : Operand) (ho : o.op = .store t x y) (h : Stop (wpList P ops Q (o :: rest) a w)) : wpList P ops Q (o :: rest) a w := h
/-- ahead of the operation whose result goes there. -/
theorem stop_dst (d : Nat) (ho : o.dst = some d) (h : Stop (wpList P ops Q (o :: rest) a w)) : wpList P ops Q (o :: rest) a w := h
end
end Go.Proofs.YtechccoongilcaaDoor
/- A region that draws its order and whose last operation waits for all others: its head alone draws, and the last one comes behind. Nothing of the program stands here. -/
namespace Go.Proofs.YtechccoongilcaaDoor
open Go
set_option linter.unusedVariables false
set_option linter.unusedSimpArgs false
section
variable {P : Program} {ops : Array Oper} {Q : Exit → Act → World → Prop}
def headOf (ops : Array Oper) (n : Nat) : Array Oper := (ops.toList.take n).toArray
theorem headOf_lt {n i : Nat} (h : i < n) : (headOf ops n)[i]? = ops[i]? := by
  unfold headOf; simp [List.getElem?_take, h]
theorem headOf_ge {n i : Nat} (h : n ≤ i) : (headOf ops n)[i]? = none := by
  unfold headOf; simp [List.getElem?_take, Nat.not_lt.2 h]
theorem headOf_size {n : Nat} (h : n ≤ ops.size) : (headOf ops n).size = n := by
  unfold headOf; simp; omega
/-- what is asked behind the head: the last operation. -/
def TailPost (P : Program) (ops : Array Oper) (o : Oper) (Q : Exit → Act → World → Prop) : Exit → Act → World → Prop
  | .normal, a, w => wpList P ops Q [o] a w
  | e, a, w => Q e a w
/-- each operation waits for, and is guarded by, earlier ones alone. -/
def backB (ops : Array Oper) : Bool := (List.range ops.size).all fun i => match ops[i]? with
  | some o => (o.after.all fun e => decide (e.on < i)) && (match o.guard with | some (g, _) => decide (g < i) | none => true)
  | none => true
theorem backB_spec (h : backB ops = true) {i : Nat} {o : Oper} (ho : ops[i]? = some o) : (∀ e ∈ o.after, e.on < i) ∧ ∀ g b, o.guard = some (g, b) → g < i := by
  have hlt : i < ops.size := (Array.getElem?_eq_some_iff.1 ho).1
  have h1 := List.all_eq_true.1 h i (List.mem_range.2 hlt)
  simp only [ho, Bool.and_eq_true] at h1
  refine ⟨fun e he => ?_, fun g b hg => ?_⟩
  · have := Array.all_eq_true_iff_forall_mem.1 h1.1 e he
    simpa using this
  · have := h1.2
    rw [hg] at this
    simpa using this
theorem wp_tail {o' o : Oper} {a : Act} {w : World} {K K' : Act → World → Prop} (h : ∀ a w, K a w → K' a w)
    (hh : o.wp P a w K (TailPost P ops o' Q)) : o.wp P a w K' Q := by
  unfold Oper.wp at *
  generalize (execOp a.eval o).run P w = r at *
  cases r with
  | ok n w' =>
    cases n <;> simp only [Oper.upon] at hh ⊢ <;>
      first
        | exact h _ _ hh
        | exact Calls.mono hh (fun e w'' he => by cases e <;> first | exact h _ _ he | exact he)
        | exact Rows.mono hh (fun _ _ he => h _ _ he)
  | halt x w' => cases x <;> simp only [Oper.upon] at hh ⊢ <;> exact hh
theorem wanted_head {n i : Nat} (hb : backB ops = true) (hi : i < n) {o : Oper} (ho : ops[i]? = some o) (t : Array Value) :
    Region.wanted o (yielded (headOf ops n) t) = Region.wanted o (yielded ops t) := by
  unfold Region.wanted
  cases hg : o.guard with
  | none => rfl
  | some p =>
    obtain ⟨g, b⟩ := p
    have hlt := (backB_spec hb ho).2 g b hg
    show (yielded (headOf ops n) t g == some b) = (yielded ops t g == some b)
    unfold yielded
    rw [headOf_lt (by omega)]
theorem wpOp_tail {n i : Nat} {o' : Oper} (hb : backB ops = true) (hi : i < n) {a : Act} {w : World} {K K' : Act → World → Prop} (h : ∀ a w, K a w → K' a w)
    (hh : wpOp P (headOf ops n) (TailPost P ops o' Q) i K a w) : wpOp P ops Q i K' a w := by
  unfold wpOp at *
  rw [headOf_lt hi] at hh
  cases ho : ops[i]? with
  | none => simp only [ho] at hh; exact h _ _ hh
  | some o =>
    simp only [ho] at hh ⊢
    rw [wanted_head hb hi ho] at hh
    split
    · rename_i hw
      simp only [hw, if_true] at hh
      rcases hh with hh | ⟨h1, h2⟩
      · exact .inl (wp_tail h hh)
      · exact .inr ⟨h1, h2⟩
    · rename_i hw; simp only [hw] at hh; exact h _ _ hh
theorem wpAny_done {md : Region.Mode} {listed : Array Bool} {a : Act} {w : World} (hr : Region.ready md ops listed = []) (h : Q .normal a w) : ∀ f, wpAny P md ops Q f listed a w
  | 0 => ⟨hr, h⟩
  | f + 1 => ⟨fun _ => h, fun i hi => by rw [hr] at hi; cases hi⟩
theorem getD_of {l : Array Bool} {i : Nat} {b d : Bool} (h : l[i]? = some b) : l.getD i d = b := by
  simp [Array.getD_eq_getD_getElem?, h]
theorem ready_head {n : Nat} (hb : backB ops = true) {listed listedH : Array Bool} (hl : ∀ i, i < n → listedH[i]? = listed[i]?) {i : Nat} (hi : i < n) :
    i ∈ Region.ready .any (headOf ops n) listedH ↔ i ∈ Region.ready .any ops listed := by
  have hg : ∀ j d, j < n → listedH.getD j d = listed.getD j d := fun j d hj => by rw [Array.getD_eq_getD_getElem?, Array.getD_eq_getD_getElem?, hl j hj]
  rw [mem_ready, mem_ready, headOf_lt hi, hg i _ hi]
  constructor
  · rintro ⟨h0, o, ho, h⟩
    exact ⟨h0, o, ho, fun e he hm => by rw [← hg _ _ (Nat.lt_trans ((backB_spec hb ho).1 e he) hi)]; exact h e he hm⟩
  · rintro ⟨h0, o, ho, h⟩
    exact ⟨h0, o, ho, fun e he hm => by rw [hg _ _ (Nat.lt_trans ((backB_spec hb ho).1 e he) hi)]; exact h e he hm⟩
theorem tailEnd {n f : Nat} {o : Oper} {listed listedH : Array Bool} {a : Act} {w : World} (hsz : ops.size = n + 1) (hb : backB ops = true) (ho : ops[n]? = some o)
    (hr : Region.ready .any (headOf ops n) listedH = []) (h : TailPost P ops o Q .normal a w) (inv : HeadInv .any ops n listed) (hl : ∀ i, i < n → listedH[i]? = listed[i]?) : wpAny P .any ops Q (f + 1) listed a w := by
  have hsl : listed.size = n + 1 := inv.size.trans hsz
  have both : ∀ i, i < n + 1 → ∀ b, listed.getD i true = b → listed.getD i false = b := fun i hi b hb' => by
    simp only [Array.getD_eq_getD_getElem?, Array.getElem?_eq_getElem (by omega : i < listed.size), Option.getD_some] at hb' ⊢
    exact hb'
  have hall : ∀ i, i < n → listed.getD i true = true := by
    intro i
    induction i using Nat.strongRecOn with
    | _ i ih =>
      intro hi
      cases hv : listed.getD i true with
      | true => rfl
      | false =>
        exfalso
        have hoi : ops[i]? = some ops[i] := Array.getElem?_eq_getElem (by omega)
        have hm : i ∈ Region.ready .any ops listed := mem_ready.2 ⟨hv, ops[i], hoi, fun e he _ => by
          have hlt := (backB_spec hb hoi).1 e he
          exact both _ (by omega) _ (ih e.on hlt (by omega))⟩
        have := (ready_head hb hl hi).2 hm
        rw [hr] at this; cases this
  have hn : n ∈ Region.ready .any ops listed := mem_ready.2 ⟨inv.tail n (Nat.le_refl _) (by omega), o, ho, fun e he _ => by
    have hlt := (backB_spec hb ho).1 e he
    exact both _ (by omega) _ (hall e.on hlt)⟩
  refine ⟨fun h0 => (by rw [h0] at hn; cases hn), fun i hi => ?_⟩
  have hin : i = n := by
    obtain ⟨h0, oi, hoi, _⟩ := mem_ready.1 hi
    have hlt : i < ops.size := (Array.getElem?_eq_some_iff.1 hoi).1
    rcases Nat.lt_or_ge i n with h' | h'
    · rw [hall i h'] at h0; cases h0
    · omega
  subst hin
  have hnil : Region.ready .any ops (listed.setIfInBounds i true) = [] := by
    rw [List.eq_nil_iff_forall_not_mem]
    intro j hj
    obtain ⟨h0, oj, hoj, _⟩ := mem_ready.1 hj
    have hlt : j < ops.size := (Array.getElem?_eq_some_iff.1 hoj).1
    by_cases hij : i = j
    · subst hij
      simp [Array.getD_eq_getD_getElem?, Array.getElem?_setIfInBounds, hsl] at h0
    · rw [getD_set_ne true hij] at h0
      rw [hall j (by omega)] at h0; cases h0
  have hdone : ∀ a' w', wpList P ops Q [] a' w' → wpAny P .any ops Q f (listed.setIfInBounds i true) a' w' := fun a' w' hq => wpAny_done hnil hq f
  have h' : wpList P ops Q [o] a w := h
  unfold wpList at h'
  unfold wpOp
  simp only [ho]
  split
  · rename_i hw
    simp only [hw, if_true] at h'
    exact h'.imp (Oper.wp_mono hdone) id
  · rename_i hw
    simp only [hw] at h'
    exact hdone _ _ h'
def tailB (ops : Array Oper) (n : Nat) : Bool := ops.size == n + 1 && Region.sinkB .any ops n && backB ops
theorem wpAny_tail {n : Nat} {o : Oper} (hsz : ops.size = n + 1) (hs : Region.sinkB .any ops n = true) (hb : backB ops = true) (ho : ops[n]? = some o) :
    ∀ (f : Nat) (listed listedH : Array Bool) (a : Act) (w : World), HeadInv .any ops n listed → (∀ i, i < n → listedH[i]? = listed[i]?) →
      wpAny P .any (headOf ops n) (TailPost P ops o Q) f listedH a w → wpAny P .any ops Q (f + 1) listed a w := by
  have hc : Region.chainB .any ops n = true := List.all_eq_true.2 fun t ht => by
    have := List.mem_range.1 ht
    simp only [Bool.or_eq_true, decide_eq_true_eq]; left; omega
  intro f
  induction f with
  | zero =>
    intro listed listedH a w inv hl h
    exact tailEnd hsz hb ho h.1 h.2 inv hl
  | succ f ih =>
    intro listed listedH a w inv hl h
    by_cases hr : Region.ready .any (headOf ops n) listedH = []
    · exact tailEnd hsz hb ho hr (h.1 hr) inv hl
    · obtain ⟨i0, hi0⟩ := List.exists_mem_of_ne_nil _ hr
      have hi0n : i0 < n := by
        obtain ⟨_, o0, ho0, _⟩ := mem_ready.1 hi0
        rcases Nat.lt_or_ge i0 n with h' | h'
        · exact h'
        · rw [headOf_ge h'] at ho0; cases ho0
      have hi0' := (ready_head hb hl hi0n).1 hi0
      refine ⟨fun h0 => (by rw [h0] at hi0'; cases hi0'), fun i hi => ?_⟩
      rcases Nat.lt_or_ge i n with hin | hin
      · refine wpOp_tail hb hin (fun a' w' h' => ih _ _ a' w' (inv.set hi hin) (fun j hj => ?_) h') (h.2 i ((ready_head hb hl hin).2 hi))
        rw [Array.getElem?_setIfInBounds, Array.getElem?_setIfInBounds]
        have hsl : listed.size = n + 1 := inv.size.trans hsz
        have hsH : i < listedH.size := by
          have e1 := hl i hin
          rw [Array.getElem?_eq_getElem (by omega : i < listed.size)] at e1
          exact (Array.getElem?_eq_some_iff.1 e1).1
        by_cases hij : i = j
        · subst hij; rw [if_pos rfl, if_pos rfl, if_pos hsH, if_pos (by omega)]
        · rw [if_neg hij, if_neg hij]; exact hl j hj
      · exact absurd hi (tail_waits hs hc (by omega) inv _ i0 rfl hi0n (mem_ready.1 hi0').1 i hin)
theorem wp_region_tail (n : Nat) {id : Nat} {o : Oper} {a : Act} {w : World} (hm : P.follows .mixedOrders = true) (hB : tailB ops n = true) (ho : ops[n]? = some o)
    (h : wpAny P .any (headOf ops n) (TailPost P ops o Q) n (Array.replicate n false) a w.drew) : (Code.region id ops true).wp P Q a w := by
  unfold tailB at hB
  simp only [Bool.and_eq_true, beq_iff_eq] at hB
  obtain ⟨⟨hsz, hs⟩, hb⟩ := hB
  refine wp_region_any hm ?_
  rw [hsz]
  refine wpAny_tail hsz hs hb ho n (Array.replicate (n + 1) false) (Array.replicate n false) a w.drew ?_ (fun i hi => ?_) h
  · exact ⟨by simp [hsz], fun j oj hj hl => absurd hl (by rw [getD_replicate_false]; decide), fun t ht ht2 => by
      have : t = n := by omega
      subst this; simp⟩
  · rw [Array.getElem?_replicate, Array.getElem?_replicate, if_pos hi, if_pos (by omega)]
/-- .. its head reads alone, and its callees read, draw and make memory. -/
theorem wp_region_on_tail (n : Nat) {id : Nat} {o : Oper} {a : Act} {W : World} (hm : P.follows .mixedOrders = true) (hB : tailB ops n = true) (ho : ops[n]? = some o) (hL : Region.lexB .any (headOf ops n) = true)
    (h : wpQuiet P (headOf ops n) (fun w' => ∃ p : OnW W, w' = p.w) (fun a' => ∀ w', (∃ p : OnW W, w' = p.w) → wpList P ops Q [o] a' w') (headOf ops n).toList a) : (Code.region id ops true).wp P Q a W := by
  have hsz : ops.size = n + 1 := by
    unfold tailB at hB
    simp only [Bool.and_eq_true, beq_iff_eq] at hB
    exact hB.1.1
  have hn : (headOf ops n).size = n := headOf_size (by omega)
  simp only [Region.lexB, Bool.and_eq_true] at hL
  refine wp_region_tail n hm hB ho ?_
  refine wpAny_of_quiet (C := fun w' => ∃ p : OnW W, w' = p.w) (Q := fun a' => ∀ w', (∃ p : OnW W, w' = p.w) → wpList P ops Q [o] a' w') (fun _ w' hw' h => h w' hw') _ _ _ _ ⟨⟨W.drew, (On.refl W).drew⟩, rfl⟩ ?_
  have := wpAnyQ_lex (C := fun w' => ∃ p : OnW W, w' = p.w) (md := .any) hL.1 (headOf ops n).toList 0 (Array.replicate (headOf ops n).size false) a (by simp) (by simpa using hL.2) h
  rw [hn] at this
  simpa [hn] using this
/-- .. S holds in its head: no operation but the last one may change what S says. -/
theorem wp_region_held_tail (n : Nat) {id : Nat} {o : Oper} {a : Act} {w : World} {S : World → Prop} (hm : P.follows .mixedOrders = true) (hB : tailB ops n = true) (ho : ops[n]? = some o) (hS : S w.drew)
    (h : S w.drew → wpAnyH P .any (headOf ops n) (TailPost P ops o Q) S n (Array.replicate n false) a w.drew) : (Code.region id ops true).wp P Q a w :=
  wp_region_tail n hm hB ho (wpAny_of_held _ _ _ _ (h hS))
end
end Go.Proofs.YtechccoongilcaaDoor
/- Which nodes are a document's; how much they are. Nothing of the program stands here. -/
namespace Go.Proofs.YtechccoongilcaaDoor
open Go
set_option linter.unusedVariables false
set_option linter.unusedSimpArgs false
def fromB (n lo hi : Int) : Bool := decide (lo ≤ n) && decide (n ≤ hi)
theorem fromB_iff (n lo hi : Int) : fromB n lo hi = true ↔ okN n lo hi := by unfold fromB okN; simp
def styOkB (s : Sty) : Bool := fromB s.top 0 maxN && fromB s.bottom 0 maxN && fromB s.padTop 0 maxN && fromB s.padBottom 0 maxN && fromB s.inset 0 maxN && fromB s.orphans 1 maxN && fromB s.widows 1 maxN && fromB s.head 0 maxN && fromB s.before 0 4 && fromB s.after 0 4 && fromB s.inside 0 1 && fromB s.clear 0 3
theorem styOkB_iff (s : Sty) : styOkB s = true ↔ s.fits := by
  unfold styOkB Sty.fits
  simp only [Bool.and_eq_true, fromB_iff]
  constructor
  · rintro ⟨⟨⟨⟨⟨⟨⟨⟨⟨⟨⟨h1, h2⟩, h3⟩, h4⟩, h5⟩, h6⟩, h7⟩, h8⟩, h9⟩, h10⟩, h11⟩, h12⟩
    exact ⟨⟨h1, h2, h3, h4, h5, h6⟩, h7, h8, h9, h10, h11, h12⟩
  · rintro ⟨⟨h1, h2, h3, h4, h5, h6⟩, h7, h8, h9, h10, h11, h12⟩
    exact ⟨⟨⟨⟨⟨⟨⟨⟨⟨⟨⟨h1, h2⟩, h3⟩, h4⟩, h5⟩, h6⟩, h7⟩, h8⟩, h9⟩, h10⟩, h11⟩, h12⟩
/-- one node's numbers, as the document tells them. -/
def oneB (x : Nd) : Bool :=
  if x.kind = 1 then styOkB x.sty && decide (x.line = 0) && decide (x.space = 0) && decide (x.words = []) && decide (x.side = 0) && decide (x.w = 0) && decide (x.h = 0)
  else if x.sty ≠ .none then false
  else if x.kind = 2 then (x.words.all fun n => fromB n 1 maxN) && decide (x.words ≠ []) && fromB x.line 1 maxN && fromB x.space 0 maxN && decide (x.side = 0) && decide (x.w = 0) && decide (x.h = 0)
  else if x.line ≠ 0 ∨ x.space ≠ 0 ∨ x.words ≠ [] ∨ fromB x.w 1 maxN = false ∨ fromB x.h 1 maxN = false then false
  else (decide (x.kind = 3) && decide (x.side = 0)) || (decide (x.kind = 4) && fromB x.side 1 2)
theorem oneB_iff (x : Nd) : oneB x = true ↔ x.fits := by
  obtain ⟨k, size, s, line, space, ws, side, w, h⟩ := x
  unfold oneB Nd.fits
  simp only
  by_cases h1 : k = 1
  · subst h1
    simp only [if_true, Bool.and_eq_true, decide_eq_true_eq, styOkB_iff]
    constructor
    · rintro ⟨⟨⟨⟨⟨⟨a1, a2⟩, a3⟩, a4⟩, a5⟩, a6⟩, a7⟩
      exact .inl ⟨trivial, a1, a2, a3, a4, a6, a7, a5⟩
    · rintro (⟨_, a1, a2, a3, a4, a6, a7, a5⟩ | ⟨e, _⟩ | ⟨e, _⟩ | ⟨e, _⟩)
      · exact ⟨⟨⟨⟨⟨⟨a1, a2⟩, a3⟩, a4⟩, a5⟩, a6⟩, a7⟩
      · exact absurd e (by decide)
      · exact absurd e (by decide)
      · exact absurd e (by decide)
  rw [if_neg h1]
  by_cases h2 : s = .none
  rotate_left
  · rw [if_pos h2]
    constructor
    · intro e; cases e
    · rintro (⟨e, _⟩ | ⟨_, e, _⟩ | ⟨_, e, _⟩ | ⟨_, e, _⟩)
      · exact absurd e h1
      · exact absurd e h2
      · exact absurd e h2
      · exact absurd e h2
  rw [if_neg (by simpa using h2)]
  by_cases h3 : k = 2
  · subst h3
    simp only [if_true, Bool.and_eq_true, decide_eq_true_eq, List.all_eq_true, fromB_iff]
    constructor
    · rintro ⟨⟨⟨⟨⟨⟨a1, a2⟩, a3⟩, a4⟩, a5⟩, a6⟩, a7⟩
      exact .inr (.inl ⟨trivial, h2, a3, a4, a2, a1, a6, a7, a5⟩)
    · rintro (⟨e, _⟩ | ⟨_, _, a3, a4, a2, a1, a6, a7, a5⟩ | ⟨e, _⟩ | ⟨e, _⟩)
      · exact absurd e (by decide)
      · exact ⟨⟨⟨⟨⟨⟨a1, a2⟩, a3⟩, a4⟩, a5⟩, a6⟩, a7⟩
      · exact absurd e (by decide)
      · exact absurd e (by decide)
  rw [if_neg h3]
  by_cases h4 : line ≠ 0 ∨ space ≠ 0 ∨ ws ≠ [] ∨ fromB w 1 maxN = false ∨ fromB h 1 maxN = false
  · rw [if_pos h4]
    constructor
    · intro e; cases e
    · have no : ¬ (line = 0 ∧ space = 0 ∧ ws = [] ∧ okN w 1 maxN ∧ okN h 1 maxN) := by
        rintro ⟨a1, a2, a3, a4, a5⟩
        rw [← fromB_iff] at a4 a5
        rcases h4 with e | e | e | e | e
        · exact e a1
        · exact e a2
        · exact e a3
        · rw [a4] at e; cases e
        · rw [a5] at e; cases e
      rintro (⟨e, _⟩ | ⟨e, _⟩ | ⟨_, _, a1, a2, a3, a4, a5, _⟩ | ⟨_, _, a1, a2, a3, a4, a5, _⟩)
      · exact absurd e h1
      · exact absurd e h3
      · exact absurd ⟨a1, a2, a3, a4, a5⟩ no
      · exact absurd ⟨a1, a2, a3, a4, a5⟩ no
  rw [if_neg h4]
  rw [not_or, not_or, not_or, not_or, Decidable.not_not, Decidable.not_not, Decidable.not_not, Bool.not_eq_false, Bool.not_eq_false, fromB_iff, fromB_iff] at h4
  obtain ⟨a1, a2, a3, a4, a5⟩ := h4
  simp only [Bool.or_eq_true, Bool.and_eq_true, decide_eq_true_eq, fromB_iff]
  constructor
  · rintro (⟨b1, b2⟩ | ⟨b1, b2⟩)
    · exact .inr (.inr (.inl ⟨b1, h2, a1, a2, a3, a4, a5, b2⟩))
    · exact .inr (.inr (.inr ⟨b1, h2, a1, a2, a3, a4, a5, b2⟩))
  · rintro (⟨e, _⟩ | ⟨e, _⟩ | ⟨b1, _, _, _, _, _, _, b2⟩ | ⟨b1, _, _, _, _, _, _, b2⟩)
    · exact absurd e h1
    · exact absurd e h3
    · exact .inl ⟨b1, b2⟩
    · exact .inr ⟨b1, b2⟩
/-- rows within rows, told: node by node. -/
def forestF : Nat → List Nd → Bool
  | 0, l => decide (l = [])
  | _ + 1, [] => true
  | f + 1, x :: l => decide (1 ≤ x.size) && decide (x.size ≤ (l.length : Int) + 1) && (decide (x.kind = 1) || decide (x.size ≤ 1)) && forestF f (l.take (x.size.toNat - 1)) && forestF f (l.drop (x.size.toNat - 1))
def forestB (l : List Nd) : Bool := forestF l.length l
theorem forestF_ok : ∀ (f : Nat) (l : List Nd), forestF f l = true → Forest l
  | 0, l, h => by simp [forestF] at h; subst h; exact .nil
  | f + 1, [], _ => .nil
  | f + 1, x :: l, h => by
    simp only [forestF, Bool.and_eq_true, Bool.or_eq_true, decide_eq_true_eq] at h
    obtain ⟨⟨⟨⟨h1, h2⟩, h3⟩, h4⟩, h5⟩ := h
    have e : l = l.take (x.size.toNat - 1) ++ l.drop (x.size.toNat - 1) := (List.take_append_drop _ _).symm
    rw [e]
    refine .cons ?_ (fun hk => ?_) (forestF_ok f _ h4) (forestF_ok f _ h5)
    · rw [List.length_take]; omega
    · rcases h3 with h3 | h3
      · exact absurd h3 hk
      · have : x.size.toNat - 1 = 0 := by omega
        rw [this]; rfl
theorem forestF_of {l : List Nd} (h : Forest l) : ∀ f, l.length ≤ f → forestF f l = true := by
  induction h with
  | nil => intro f _; cases f <;> simp [forestF]
  | @cons x inner rest h1 h2 h3 h4 ih1 ih2 =>
    intro f hf
    cases f with
    | zero => simp at hf
    | succ f =>
      simp only [List.length_cons, List.length_append] at hf
      have e : x.size.toNat - 1 = inner.length := by omega
      simp only [forestF, Bool.and_eq_true, Bool.or_eq_true, decide_eq_true_eq, e, List.take_left', List.drop_left', List.length_append]
      refine ⟨⟨⟨⟨by omega, by omega⟩, ?_⟩, ih1 f (by omega)⟩, ih2 f (by omega)⟩
      by_cases hk : x.kind = 1
      · exact .inl hk
      · have := h2 hk; subst this; exact .inr (by simp at h1; omega)
theorem forestB_iff (l : List Nd) : forestB l = true ↔ Forest l := ⟨forestF_ok _ _, fun h => forestF_of h _ (Nat.le_refl _)⟩
theorem forestF_eq {l : List Nd} {f : Nat} (h : l.length ≤ f) : forestF f l = forestB l := by
  rcases hb : forestB l with _ | _
  · rcases hf : forestF f l with _ | _
    · rfl
    · have := (forestB_iff l).2 (forestF_ok _ _ hf)
      rw [hb] at this; cases this
  · exact forestF_of ((forestB_iff l).1 hb) _ h
theorem forestB_nil : forestB [] = true := rfl
theorem forestB_cons (x : Nd) (l : List Nd) : forestB (x :: l) = (decide (1 ≤ x.size) && decide (x.size ≤ (l.length : Int) + 1) && (decide (x.kind = 1) || decide (x.size ≤ 1)) && forestB (l.take (x.size.toNat - 1)) && forestB (l.drop (x.size.toNat - 1))) := by
  show forestF (l.length + 1) (x :: l) = _
  rw [forestF, forestF_eq (by rw [List.length_take]; omega), forestF_eq (by rw [List.length_drop]; omega)]
/-- nodes are a document's. -/
def docB (l : List Nd) : Bool := l.all oneB && forestB l
def IsDoc (l : List Nd) : Prop := (∀ x ∈ l, x.fits) ∧ Forest l
theorem docB_iff (l : List Nd) : docB l = true ↔ IsDoc l := by
  unfold docB IsDoc
  rw [Bool.and_eq_true, List.all_eq_true, forestB_iff]
  simp only [oneB_iff]
end Go.Proofs.YtechccoongilcaaDoor
