import Derived.Test.YtkbpiekmphcdnaaSpanMath
/- What is left of a span without others: two ways to reckon it give the same row. Lengths. Nothing of the program stands here. -/
namespace Go.Proofs.Ytkbpiekmphcdnaa
set_option linter.unusedVariables false

abbrev Sp := Int × Int
def hasS (s : Sp) (n : Int) : Prop := s.1 ≤ n ∧ n < s.2
instance (s : Sp) (n : Int) : Decidable (hasS s n) := inferInstanceAs (Decidable (_ ∧ _))
theorem hasS_meet {a b : Sp} {n : Int} : hasS (meetS a b) n ↔ hasS a n ∧ hasS b n := by
  unfold meetS tidyS hasS
  split <;> rename_i h <;> simp only at h ⊢ <;> omega
theorem meetS_none {a b : Sp} : (meetS a b).2 ≤ (meetS a b).1 ↔ meetS a b = (0, 0) := by
  unfold meetS tidyS
  split
  · simp
  · rename_i h
    constructor
    · intro h2; exact absurd h2 h
    · intro h2; rw [h2] at h; exact absurd (Int.le_refl 0) h
theorem apart_iff {a b : Sp} : meetS a b = (0, 0) ↔ ∀ n, ¬ (hasS a n ∧ hasS b n) := by
  constructor
  · intro h n hn
    rw [← hasS_meet, h] at hn
    unfold hasS at hn; simp only at hn; omega
  · intro h
    rw [← meetS_none]
    apply Int.not_lt.1
    intro hlt
    exact h (meetS a b).1 (hasS_meet.1 ⟨Int.le_refl _, hlt⟩)

/-- spans that have something, rising, never side by side. -/
def Can (l : List Sp) : Prop := (∀ x ∈ l, x.1 < x.2) ∧ l.Pairwise fun x y => x.2 < y.1
def inL (l : List Sp) (n : Int) : Prop := ∃ x ∈ l, hasS x n
theorem Can.tail {x : Sp} {l : List Sp} (h : Can (x :: l)) : Can l := ⟨fun y hy => h.1 y (List.mem_cons_of_mem _ hy), (List.pairwise_cons.1 h.2).2⟩
theorem Can.head {x : Sp} {l : List Sp} (h : Can (x :: l)) : x.1 < x.2 ∧ ∀ y ∈ l, x.2 < y.1 := ⟨h.1 x (List.mem_cons_self ..), (List.pairwise_cons.1 h.2).1⟩
theorem inL_cons {x : Sp} {l : List Sp} {n : Int} : inL (x :: l) n ↔ hasS x n ∨ inL l n := by
  unfold inL; simp
theorem Can.gt {x : Sp} {l : List Sp} (h : Can (x :: l)) {n : Int} (hn : inL l n) : x.2 < n := by
  obtain ⟨y, hy, h1, _⟩ := hn
  have := h.head.2 y hy; omega
/-- a row of that kind is told by its numbers. -/
theorem can_unique : ∀ {l r : List Sp}, Can l → Can r → (∀ n, inL l n ↔ inL r n) → l = r
  | [], [], _, _, _ => rfl
  | [], y :: r, _, hr, h => by
    have := (h y.1).2 ⟨y, List.mem_cons_self .., Int.le_refl _, hr.head.1⟩
    obtain ⟨z, hz, _⟩ := this; cases hz
  | x :: l, [], hl, _, h => by
    have := (h x.1).1 ⟨x, List.mem_cons_self .., Int.le_refl _, hl.head.1⟩
    obtain ⟨z, hz, _⟩ := this; cases hz
  | x :: l, y :: r, hl, hr, h => by
    have hx := hl.head.1
    have hy := hr.head.1
    have a1 : y.1 ≤ x.1 := by
      rcases inL_cons.1 ((h x.1).1 (inL_cons.2 (.inl ⟨Int.le_refl _, hx⟩))) with h1 | h1
      · exact h1.1
      · have := hr.gt h1; omega
    have a2 : x.1 ≤ y.1 := by
      rcases inL_cons.1 ((h y.1).2 (inL_cons.2 (.inl ⟨Int.le_refl _, hy⟩))) with h1 | h1
      · exact h1.1
      · have := hl.gt h1; omega
    have b1 : y.2 ≤ x.2 := by
      apply Int.not_lt.1; intro hlt
      rcases inL_cons.1 ((h x.2).2 (inL_cons.2 (.inl ⟨by omega, hlt⟩))) with h1 | h1
      · have := h1.2; omega
      · have := hl.gt h1; omega
    have b2 : x.2 ≤ y.2 := by
      apply Int.not_lt.1; intro hlt
      rcases inL_cons.1 ((h y.2).1 (inL_cons.2 (.inl ⟨by omega, hlt⟩))) with h1 | h1
      · have := h1.2; omega
      · have := hr.gt h1; omega
    have e : x = y := Prod.ext (by omega) (by omega)
    subst e
    congr 1
    refine can_unique hl.tail hr.tail fun n => ?_
    constructor
    · intro hn
      rcases inL_cons.1 ((h n).1 (inL_cons.2 (.inr hn))) with h1 | h1
      · have := hl.gt hn; have := h1.2; omega
      · exact h1
    · intro hn
      rcases inL_cons.1 ((h n).2 (inL_cons.2 (.inr hn))) with h1 | h1
      · have := hr.gt hn; have := h1.2; omega
      · exact h1

/-! ### the code's way: what meets, ordered, one behind the other -/
def nonE (s : Sp) : Bool := decide (s.1 < s.2)
def metL (s : Sp) (l : List Sp) : List Sp := (l.map (meetS s)).filter nonE
def goStep (st : List Sp × Int) (off : Sp) : List Sp × Int := (if st.2 < off.1 then st.1 ++ [(st.2, off.1)] else st.1, max st.2 off.2)
def goEnd (s : Sp) (st : List Sp × Int) : List Sp := if st.2 < s.2 then st.1 ++ [(st.2, s.2)] else st.1
def goL (s : Sp) (ms : List Sp) : List Sp := goEnd s (ms.foldl goStep ([], s.1))
structure GoInv (s : Sp) (P : List Sp) (st : List Sp × Int) : Prop where
  can : Can st.1
  lt : ∀ x ∈ st.1, x.2 < st.2
  lo : s.1 ≤ st.2
  top : ∀ m ∈ P, m.2 ≤ st.2
  at_ : st.2 = s.1 ∨ ∃ m ∈ P, m.2 = st.2
  mem : ∀ n, n < st.2 → (inL st.1 n ↔ s.1 ≤ n ∧ ∀ m ∈ P, ¬ hasS m n)
theorem inL_append {l r : List Sp} {n : Int} : inL (l ++ r) n ↔ inL l n ∨ inL r n := by
  unfold inL; simp only [List.mem_append]
  constructor
  · rintro ⟨x, h | h, k⟩
    · exact .inl ⟨x, h, k⟩
    · exact .inr ⟨x, h, k⟩
  · rintro (⟨x, h, k⟩ | ⟨x, h, k⟩)
    · exact ⟨x, .inl h, k⟩
    · exact ⟨x, .inr h, k⟩
theorem inL_one {x : Sp} {n : Int} : inL [x] n ↔ hasS x n := by unfold inL; simp
theorem Can.snoc {l : List Sp} {x : Sp} (h : Can l) (hx : x.1 < x.2) (hl : ∀ y ∈ l, y.2 < x.1) : Can (l ++ [x]) := by
  refine ⟨fun y hy => ?_, ?_⟩
  · rcases List.mem_append.1 hy with h1 | h1
    · exact h.1 y h1
    · obtain rfl := List.mem_singleton.1 h1; exact hx
  · rw [List.pairwise_append]
    exact ⟨h.2, List.pairwise_singleton _ _, fun y hy z hz => by obtain rfl := List.mem_singleton.1 hz; exact hl y hy⟩
theorem GoInv.start (s : Sp) : GoInv s [] ([], s.1) where
  can := ⟨fun _ h => (by cases h), List.Pairwise.nil⟩
  lt := fun _ h => (by cases h)
  lo := Int.le_refl _
  top := fun _ h => (by cases h)
  at_ := .inl rfl
  mem := fun n hn => by
    constructor
    · rintro ⟨x, hx, _⟩; cases hx
    · rintro ⟨h1, _⟩; exact absurd hn (by show ¬ n < s.1; omega)
theorem GoInv.step {s : Sp} {P : List Sp} {st : List Sp × Int} (h : GoInv s P st) {off : Sp} (ho : off.1 < off.2) (hs : ∀ m ∈ P, m.1 ≤ off.1) : GoInv s (P ++ [off]) (goStep st off) := by
  obtain ⟨left, f⟩ := st
  obtain ⟨a, b⟩ := off
  obtain ⟨h1, h2, h3, h4, h5, h6⟩ := h
  simp only at h1 h2 h3 h4 h5 h6 ho hs
  have hat : max f b = s.1 ∨ ∃ m ∈ P ++ [(a, b)], m.2 = max f b := by
    rcases Int.le_total f b with hb | hb
    · exact .inr ⟨(a, b), by simp, by simp only; omega⟩
    · rcases h5 with e | ⟨m, hm, e⟩
      · exact .inl (by omega)
      · exact .inr ⟨m, by simp [hm], by omega⟩
  have htop : ∀ m ∈ P ++ [(a, b)], m.2 ≤ max f b := by
    intro m hm
    rcases List.mem_append.1 hm with h | h
    · have := h4 m h; omega
    · obtain rfl := List.mem_singleton.1 h; simp only; omega
  have hall : ∀ n, (∀ m ∈ P ++ [(a, b)], ¬ hasS m n) ↔ (∀ m ∈ P, ¬ hasS m n) ∧ ¬ (a ≤ n ∧ n < b) := by
    intro n
    constructor
    · intro h; exact ⟨fun m hm => h m (by simp [hm]), h (a, b) (by simp)⟩
    · rintro ⟨x, y⟩ m hm
      rcases List.mem_append.1 hm with h | h
      · exact x m h
      · obtain rfl := List.mem_singleton.1 h; exact y
  have hno : ∀ n, f ≤ n → ¬ inL left n := by
    rintro n hn ⟨x, hx, _, k⟩
    have := h2 x hx; omega
  have hnoP : ∀ n, f ≤ n → ∀ m ∈ P, ¬ hasS m n := fun n hn m hm k => by have := h4 m hm; have := k.2; omega
  by_cases hf : f < a
  · have e : goStep (left, f) (a, b) = (left ++ [(f, a)], max f b) := by unfold goStep; simp [hf]
    rw [e]
    refine ⟨h1.snoc hf h2, ?_, by show s.1 ≤ max f b; omega, htop, hat, ?_⟩
    · intro x hx
      show x.2 < max f b
      rcases List.mem_append.1 hx with h | h
      · have := h2 x h; omega
      · obtain rfl := List.mem_singleton.1 h; simp only; omega
    · intro n hn
      have hn' : n < max f b := hn
      simp only [inL_append, inL_one, hall]
      show (inL left n ∨ f ≤ n ∧ n < a) ↔ _
      by_cases c1 : n < f
      · rw [h6 n c1]
        constructor
        · rintro (⟨x, y⟩ | x)
          · exact ⟨x, y, by omega⟩
          · omega
        · rintro ⟨x, y, z⟩; exact .inl ⟨x, y⟩
      · have := hno n (by omega)
        have := hnoP n (by omega)
        constructor
        · rintro (x | x)
          · contradiction
          · exact ⟨by omega, this, by omega⟩
        · rintro ⟨x, y, z⟩; exact .inr (by omega)
  · have e : goStep (left, f) (a, b) = (left, max f b) := by unfold goStep; simp [hf]
    rw [e]
    refine ⟨h1, fun x hx => by have := h2 x hx; show x.2 < max f b; omega, by show s.1 ≤ max f b; omega, htop, hat, ?_⟩
    intro n hn
    have hn' : n < max f b := hn
    simp only [hall]
    by_cases c1 : n < f
    · rw [h6 n c1]
      constructor
      · rintro ⟨x, y⟩
        refine ⟨x, y, fun z => ?_⟩
        rcases h5 with e1 | ⟨m, hm, e1⟩
        · omega
        · exact y m hm ⟨by have := hs m hm; omega, by omega⟩
      · rintro ⟨x, y, z⟩; exact ⟨x, y⟩
    · have := hno n (by omega)
      constructor
      · intro x; contradiction
      · rintro ⟨x, y, z⟩; omega
def RisingL (ms : List Sp) : Prop := ms.Pairwise fun x y => x.1 ≤ y.1
theorem go_inv {s : Sp} : ∀ (ms P : List Sp) (st : List Sp × Int), GoInv s P st → (∀ m ∈ ms, m.1 < m.2) → RisingL (P ++ ms) → GoInv s (P ++ ms) (ms.foldl goStep st)
  | [], P, st, h, _, _ => by simpa using h
  | m :: ms, P, st, h, hne, hr => by
    have hr' : RisingL ((P ++ [m]) ++ ms) := by simpa using hr
    have hP : ∀ x ∈ P, x.1 ≤ m.1 := fun x hx => (List.pairwise_append.1 hr).2.2 x hx m (List.mem_cons_self ..)
    have := go_inv ms (P ++ [m]) (goStep st m) (h.step (hne m (List.mem_cons_self ..)) hP) (fun x hx => hne x (List.mem_cons_of_mem _ hx)) hr'
    simpa using this
theorem goL_spec {s : Sp} {ms : List Sp} (hne : ∀ m ∈ ms, m.1 < m.2) (hr : RisingL ms) (hin : ∀ m ∈ ms, m.2 ≤ s.2) (hs : s.1 < s.2 ∨ ms = []) : Can (goL s ms) ∧ ∀ n, inL (goL s ms) n ↔ hasS s n ∧ ∀ m ∈ ms, ¬ hasS m n := by
  have h := go_inv ms [] ([], s.1) (GoInv.start s) hne (by simpa using hr)
  simp only [List.nil_append] at h
  unfold goL goEnd
  generalize ms.foldl goStep ([], s.1) = st at h
  obtain ⟨left, f⟩ := st
  obtain ⟨h1, h2, h3, h4, h5, h6⟩ := h
  simp only at *
  have hf : f ≤ s.2 ∨ (f = s.1 ∧ ms = []) := by
    rcases h5 with e | ⟨m, hm, e⟩
    · rcases hs with h | h
      · exact .inl (by omega)
      · exact .inr ⟨e, h⟩
    · have := hin m hm; exact .inl (by omega)
  have hno : ∀ n, f ≤ n → ¬ inL left n := by
    rintro n hn ⟨x, hx, _, k⟩
    have := h2 x hx; omega
  have hnoP : ∀ n, f ≤ n → ∀ m ∈ ms, ¬ hasS m n := fun n hn m hm k => by have := h4 m hm; have := k.2; omega
  by_cases c : f < s.2
  · rw [if_pos c]
    refine ⟨h1.snoc c h2, fun n => ?_⟩
    simp only [inL_append, inL_one]
    show (inL left n ∨ f ≤ n ∧ n < s.2) ↔ (s.1 ≤ n ∧ n < s.2) ∧ _
    by_cases c1 : n < f
    · rw [h6 n c1]
      constructor
      · rintro (⟨x, y⟩ | x)
        · exact ⟨⟨x, by omega⟩, y⟩
        · omega
      · rintro ⟨⟨x, _⟩, y⟩; exact .inl ⟨x, y⟩
    · have := hno n (by omega)
      have := hnoP n (by omega)
      constructor
      · rintro (x | x)
        · contradiction
        · exact ⟨⟨by omega, by omega⟩, this⟩
      · rintro ⟨⟨x, x'⟩, y⟩; exact .inr (by omega)
  · rw [if_neg c]
    refine ⟨h1, fun n => ?_⟩
    show inL left n ↔ (s.1 ≤ n ∧ n < s.2) ∧ _
    by_cases c1 : n < f
    · rw [h6 n c1]
      rcases hf with hf | ⟨hf, e⟩
      · constructor
        · rintro ⟨x, y⟩; exact ⟨⟨x, by omega⟩, y⟩
        · rintro ⟨⟨x, _⟩, y⟩; exact ⟨x, y⟩
      · constructor
        · rintro ⟨x, y⟩; omega
        · rintro ⟨⟨x, _⟩, y⟩; exact ⟨x, y⟩
    · have := hno n (by omega)
      constructor
      · intro x; contradiction
      · rintro ⟨⟨x, x'⟩, y⟩; omega
end Go.Proofs.Ytkbpiekmphcdnaa
