import Derived.Test.YtkbpiekmphcdnaaSpanMath2
/- The document's way to reckon what is left, hulls, lengths. Nothing of the program stands here. -/
namespace Go.Proofs.Ytkbpiekmphcdnaa
set_option linter.unusedVariables false

theorem mem_metL {s : Sp} {l : List Sp} {m : Sp} : m ∈ metL s l ↔ (∃ x ∈ l, meetS s x = m) ∧ m.1 < m.2 := by
  unfold metL nonE; simp
theorem metL_in {s : Sp} {l : List Sp} {m : Sp} (h : m ∈ metL s l) : m.1 < m.2 ∧ s.1 ≤ m.1 ∧ m.2 ≤ s.2 := by
  obtain ⟨⟨x, hx, rfl⟩, h2⟩ := mem_metL.1 h
  have e : meetS s x = (max s.1 x.1, min s.2 x.2) := by
    unfold meetS tidyS at h2 ⊢
    split
    · rename_i h; rw [if_pos h] at h2; simp at h2
    · rfl
  rw [e] at h2 ⊢; simp only at h2 ⊢; omega
theorem metL_none {s : Sp} (h : ¬ s.1 < s.2) (l : List Sp) : metL s l = [] := by
  rw [List.eq_nil_iff_forall_not_mem]
  intro m hm
  have := metL_in hm; omega
theorem metL_has {s : Sp} {l : List Sp} {n : Int} (hs : hasS s n) : (∀ m ∈ metL s l, ¬ hasS m n) ↔ ∀ x ∈ l, ¬ hasS x n := by
  constructor
  · intro h x hx k
    have h1 : hasS (meetS s x) n := hasS_meet.2 ⟨hs, k⟩
    exact h (meetS s x) (mem_metL.2 ⟨⟨x, hx, rfl⟩, by have := h1.1; have := h1.2; omega⟩) h1
  · intro h m hm k
    obtain ⟨⟨x, hx, rfl⟩, _⟩ := mem_metL.1 hm
    exact h x hx (hasS_meet.1 k).2

/-! ### the document's way: one after another is taken out -/
def pieces (x o : Sp) : List Sp := [(o.1, min o.2 x.1), (max o.1 x.2, o.2)]
def outStep (out : List Sp) (x : Sp) : List Sp := if x.2 ≤ x.1 then out else (out.flatMap (pieces x)).filter nonE
def outL (s : Sp) (l : List Sp) : List Sp := l.foldl outStep [s]
def lessR (s : Sp) (l : List Sp) : List Sp := match outL s l with | [o] => if o.2 ≤ o.1 then [] else [o] | out => out
theorem mem_outStep {out : List Sp} {x : Sp} (hx : x.1 < x.2) {p : Sp} : p ∈ outStep out x ↔ p.1 < p.2 ∧ ∃ o ∈ out, p = (o.1, min o.2 x.1) ∨ p = (max o.1 x.2, o.2) := by
  unfold outStep pieces nonE
  rw [if_neg (by omega)]
  simp only [List.mem_filter, List.mem_flatMap, List.mem_cons, List.not_mem_nil, or_false, decide_eq_true_eq]
  exact ⟨fun ⟨a, b⟩ => ⟨b, a⟩, fun ⟨a, b⟩ => ⟨b, a⟩⟩
theorem outStep_inL {out : List Sp} {x : Sp} {n : Int} (ho : ∀ o ∈ out, o.1 < o.2) : inL (outStep out x) n ↔ inL out n ∧ ¬ hasS x n := by
  by_cases hx : x.1 < x.2
  · constructor
    · rintro ⟨p, hp, k1, k2⟩
      obtain ⟨h0, o, ho, rfl | rfl⟩ := (mem_outStep hx).1 hp
      · simp only at k1 k2
        exact ⟨⟨o, ho, k1, by omega⟩, fun h => by have := h.1; omega⟩
      · simp only at k1 k2
        exact ⟨⟨o, ho, by omega, k2⟩, fun h => by have := h.2; omega⟩
    · rintro ⟨⟨o, hm, k1, k2⟩, h⟩
      have h' : ¬ (x.1 ≤ n ∧ n < x.2) := h
      by_cases c : n < x.1
      · exact ⟨(o.1, min o.2 x.1), (mem_outStep hx).2 ⟨by simp only; omega, o, hm, .inl rfl⟩, k1, by simp only; omega⟩
      · exact ⟨(max o.1 x.2, o.2), (mem_outStep hx).2 ⟨by simp only; omega, o, hm, .inr rfl⟩, by simp only; omega, k2⟩
  · have e : outStep out x = out := by unfold outStep; rw [if_pos (by omega)]
    rw [e]
    exact ⟨fun h => ⟨h, fun k => by have := k.1; have := k.2; omega⟩, fun h => h.1⟩
theorem outStep_can {out : List Sp} {x : Sp} (ho : Can out) : Can (outStep out x) := by
  by_cases hx : x.1 < x.2
  · refine ⟨fun p hp => ((mem_outStep hx).1 hp).1, ?_⟩
    unfold outStep
    rw [if_neg (by omega)]
    refine List.Pairwise.filter _ ?_
    rw [List.pairwise_flatMap]
    refine ⟨fun o hm => ?_, ho.2.imp fun {o o'} hlt => ?_⟩
    · unfold pieces; simp only [List.pairwise_cons, List.mem_cons, List.not_mem_nil, or_false, forall_eq, List.Pairwise.nil, and_true, false_implies, implies_true]
      omega
    · unfold pieces
      intro p hp q hq
      simp only [List.mem_cons, List.not_mem_nil, or_false] at hp hq
      rcases hp with rfl | rfl <;> rcases hq with rfl | rfl <;> simp only <;> omega
  · have e : outStep out x = out := by unfold outStep; rw [if_pos (by omega)]
    rw [e]; exact ho
theorem out_foldl_can : ∀ (l : List Sp) (out : List Sp), Can out → Can (l.foldl outStep out) ∧ ∀ n, inL (l.foldl outStep out) n ↔ inL out n ∧ ∀ x ∈ l, ¬ hasS x n
  | [], out, h => ⟨h, fun n => by simp⟩
  | x :: l, out, h => by
    obtain ⟨h1, h2⟩ := out_foldl_can l (outStep out x) (outStep_can h)
    refine ⟨h1, fun n => ?_⟩
    rw [List.foldl_cons, h2 n, outStep_inL h.1]
    simp only [List.mem_cons, forall_eq_or_imp]
    exact ⟨fun ⟨⟨a, b⟩, c⟩ => ⟨a, b, c⟩, fun ⟨a, b, c⟩ => ⟨⟨a, b⟩, c⟩⟩
theorem out_foldl_none : ∀ (l : List Sp) (s : Sp) (out : List Sp), ¬ s.1 < s.2 → (out = [s] ∨ out = []) → (l.foldl outStep out = [s] ∨ l.foldl outStep out = [])
  | [], _, _, _, h => h
  | x :: l, s, out, hs, h => by
    rw [List.foldl_cons]
    refine out_foldl_none l s _ hs ?_
    by_cases hx : x.1 < x.2
    · right
      rw [List.eq_nil_iff_forall_not_mem]
      intro p hp
      obtain ⟨h0, o, ho, k⟩ := (mem_outStep hx).1 hp
      rcases h with rfl | rfl
      · obtain rfl := List.mem_singleton.1 ho
        rcases k with rfl | rfl <;> simp only at h0 <;> omega
      · cases ho
    · have e : outStep out x = out := by unfold outStep; rw [if_pos (by omega)]
      rw [e]; exact h
theorem lessR_spec (s : Sp) (l : List Sp) : Can (lessR s l) ∧ ∀ n, inL (lessR s l) n ↔ hasS s n ∧ ∀ x ∈ l, ¬ hasS x n := by
  by_cases hs : s.1 < s.2
  · obtain ⟨h1, h2⟩ := out_foldl_can l [s] ⟨fun x hx => by obtain rfl := List.mem_singleton.1 hx; exact hs, List.pairwise_singleton _ _⟩
    have e : lessR s l = outL s l := by
      unfold lessR
      split
      · rename_i o e
        have : o.1 < o.2 := by
          refine h1.1 o ?_
          show o ∈ outL s l
          rw [e]; exact List.mem_singleton.2 rfl
        rw [if_neg (by omega), e]
      · rfl
    rw [e]
    refine ⟨h1, fun n => ?_⟩
    rw [show outL s l = l.foldl outStep [s] from rfl, h2 n, inL_one]
  · have h := out_foldl_none l s [s] hs (.inl rfl)
    have e : lessR s l = [] := by
      unfold lessR
      rcases h with h | h
      · rw [show outL s l = [s] from h]; simp only; rw [if_pos (by omega)]
      · rw [show outL s l = [] from h]
    rw [e]
    refine ⟨⟨fun _ h => (by cases h), List.Pairwise.nil⟩, fun n => ?_⟩
    constructor
    · rintro ⟨x, hx, _⟩; cases hx
    · rintro ⟨⟨a, b⟩, _⟩; omega
/-- whatever order those that begin at one place stand in. -/
theorem goL_eq {s : Sp} {l ms : List Sp} (hp : ms.Perm (metL s l)) (hr : RisingL ms) : goL s ms = lessR s l := by
  have hin : ∀ m ∈ ms, m.1 < m.2 ∧ s.1 ≤ m.1 ∧ m.2 ≤ s.2 := fun m hm => metL_in (hp.mem_iff.1 hm)
  have hs : s.1 < s.2 ∨ ms = [] := by
    by_cases h : s.1 < s.2
    · exact .inl h
    · rw [metL_none h] at hp; exact .inr hp.eq_nil
  obtain ⟨h1, h2⟩ := goL_spec (fun m hm => (hin m hm).1) hr (fun m hm => (hin m hm).2.2) hs
  obtain ⟨h3, h4⟩ := lessR_spec s l
  refine can_unique h1 h3 fun n => ?_
  rw [h2 n, h4 n]
  constructor
  · rintro ⟨a, b⟩
    exact ⟨a, (metL_has a).1 fun m hm => b m (hp.mem_iff.2 hm)⟩
  · rintro ⟨a, b⟩
    exact ⟨a, fun m hm => (metL_has a).2 b m (hp.mem_iff.1 hm)⟩
/-! ### how many they can be -/
theorem pieces_len {x : Sp} (hx : x.1 < x.2) : ∀ {out : List Sp}, Can out → ((out.flatMap (pieces x)).filter nonE).length ≤ out.length + 1 ∧ ((∀ o ∈ out, x.1 < o.1) → ((out.flatMap (pieces x)).filter nonE).length ≤ out.length)
  | [], _ => ⟨by simp, by simp⟩
  | o :: r, h => by
    obtain ⟨h1, h2⟩ := pieces_len hx h.tail
    have ho := h.head
    have e : ((o :: r).flatMap (pieces x)).filter nonE = (pieces x o).filter nonE ++ (r.flatMap (pieces x)).filter nonE := by
      rw [List.flatMap_cons, List.filter_append]
    have two : ((pieces x o).filter nonE).length ≤ 2 := by
      have := List.length_filter_le nonE (pieces x o); simpa [pieces] using this
    have one : ¬ (o.1 < x.1 ∧ x.2 < o.2) → ((pieces x o).filter nonE).length ≤ 1 := by
      intro hn
      unfold pieces nonE
      simp only [List.filter_cons, List.filter_nil]
      by_cases c1 : o.1 < min o.2 x.1 <;> by_cases c2 : max o.1 x.2 < o.2 <;> simp [c1, c2]
      omega
    rw [e, List.length_append, List.length_cons]
    refine ⟨?_, fun hall => ?_⟩
    · by_cases c : o.1 < x.1 ∧ x.2 < o.2
      · have := h2 fun y hy => by have := ho.2 y hy; omega
        omega
      · have := one c; omega
    · have := one (by have := hall o (List.mem_cons_self ..); omega)
      have := h2 fun y hy => hall y (List.mem_cons_of_mem _ hy)
      omega
theorem outStep_len {out : List Sp} {x : Sp} (h : Can out) : (outStep out x).length ≤ out.length + 1 := by
  unfold outStep
  split
  · omega
  · exact (pieces_len (by omega) h).1
theorem outL_len : ∀ (l : List Sp) (out : List Sp), Can out → (l.foldl outStep out).length ≤ out.length + l.length
  | [], out, _ => by simp
  | x :: l, out, h => by
    have h1 := outL_len l (outStep out x) (outStep_can h)
    have h2 := outStep_len (x := x) h
    rw [List.foldl_cons, List.length_cons]; omega
theorem outL_bound (s : Sp) (l : List Sp) : (outL s l).length ≤ l.length + 1 := by
  by_cases hs : s.1 < s.2
  · have := outL_len l [s] ⟨fun x hx => by obtain rfl := List.mem_singleton.1 hx; exact hs, List.pairwise_singleton _ _⟩
    rw [List.length_singleton] at this
    unfold outL; omega
  · rcases out_foldl_none l s [s] hs (.inl rfl) with h | h
    · unfold outL; rw [h]; simp
    · unfold outL; rw [h]; simp
/-! ### lengths -/
def sumS (l : List Sp) : Int := (l.map lenS).sum
theorem lenS_nonneg (s : Sp) : 0 ≤ lenS s := by unfold lenS; split <;> omega
theorem sumS_nil : sumS [] = 0 := rfl
theorem sumS_cons (x : Sp) (l : List Sp) : sumS (x :: l) = lenS x + sumS l := by unfold sumS; simp
theorem sumS_append (l r : List Sp) : sumS (l ++ r) = sumS l + sumS r := by
  induction l with
  | nil => simp [sumS_nil]
  | cons x l ih => rw [List.cons_append, sumS_cons, sumS_cons, ih]; omega
theorem sumS_nonneg (l : List Sp) : 0 ≤ sumS l := by
  induction l with
  | nil => exact Int.le_refl _
  | cons x l ih => rw [sumS_cons]; have := lenS_nonneg x; omega
theorem sumS_perm {l r : List Sp} (h : l.Perm r) : sumS l = sumS r := by
  induction h with
  | nil => rfl
  | cons x _ ih => rw [sumS_cons, sumS_cons, ih]
  | swap x y l => rw [sumS_cons, sumS_cons, sumS_cons, sumS_cons]; omega
  | trans _ _ h1 h2 => rw [h1, h2]
theorem sumS_filter (l : List Sp) : sumS (l.filter nonE) = sumS l := by
  induction l with
  | nil => rfl
  | cons x l ih =>
    rw [List.filter_cons]
    split
    · rw [sumS_cons, sumS_cons, ih]
    · rename_i h
      have : lenS x = 0 := by unfold lenS; unfold nonE at h; simp at h; rw [if_pos (by omega)]
      rw [sumS_cons, ih, this]; omega
theorem sumS_mem {x : Sp} {l : List Sp} (h : x ∈ l) : lenS x ≤ sumS l := by
  induction l with
  | nil => cases h
  | cons y l ih =>
    rw [sumS_cons]
    rcases List.mem_cons.1 h with rfl | h
    · have := sumS_nonneg l; omega
    · have := ih h; have := lenS_nonneg y; omega
/-- rising, and apart from each other. -/
theorem go_sum : ∀ (ms : List Sp) (st : List Sp × Int), (∀ m ∈ ms, m.1 < m.2 ∧ st.2 ≤ m.1) → (ms.Pairwise fun x y => x.2 ≤ y.1) → sumS (ms.foldl goStep st).1 + sumS ms = sumS st.1 + (ms.foldl goStep st).2 - st.2
  | [], st, _, _ => by simp only [List.foldl_nil, sumS_nil]; omega
  | m :: ms, st, h, hp => by
    obtain ⟨left, f⟩ := st
    obtain ⟨a, b⟩ := m
    have h0 := h (a, b) (List.mem_cons_self ..)
    simp only at h0
    obtain ⟨hp1, hp2⟩ := List.pairwise_cons.1 hp
    have e : (goStep (left, f) (a, b)).2 = b := by show max f b = b; omega
    have ih := go_sum ms (goStep (left, f) (a, b)) (fun x hx => ⟨(h x (List.mem_cons_of_mem _ hx)).1, by rw [e]; exact hp1 x hx⟩) hp2
    rw [List.foldl_cons, sumS_cons]
    rw [e] at ih
    have e2 : sumS (goStep (left, f) (a, b)).1 = sumS left + a - f := by
      unfold goStep
      simp only
      split
      · rw [sumS_append, sumS_cons, sumS_nil]; unfold lenS; simp only; split <;> omega
      · omega
    have e3 : lenS (a, b) = b - a := by unfold lenS; simp only; rw [if_neg (by omega)]
    simp only at ih ⊢
    omega
theorem goL_sum {s : Sp} {ms : List Sp} (hs : s.1 < s.2 ∨ ms = []) (hin : ∀ m ∈ ms, m.1 < m.2 ∧ s.1 ≤ m.1 ∧ m.2 ≤ s.2) (hr : RisingL ms) (hap : ms.Pairwise fun x y => ∀ n, ¬ (hasS x n ∧ hasS y n)) : sumS (goL s ms) + sumS ms = lenS s := by
  have hp : ms.Pairwise fun x y => x.2 ≤ y.1 := by
    have : ms.Pairwise fun x y => (x.1 < x.2 ∧ y.1 < y.2) ∧ x.1 ≤ y.1 ∧ ∀ n, ¬ (hasS x n ∧ hasS y n) := by
      have hne : ms.Pairwise fun x y => x.1 < x.2 ∧ y.1 < y.2 := by
        rw [List.pairwise_iff_forall_sublist]
        intro a b hab
        exact ⟨(hin a (hab.subset (by simp))).1, (hin b (hab.subset (by simp))).1⟩
      exact (hne.and (hr.and hap))
    refine this.imp fun {x y} ⟨⟨h1, h2⟩, h3, h4⟩ => ?_
    apply Int.not_lt.1
    intro hlt
    exact h4 y.1 ⟨⟨h3, hlt⟩, ⟨Int.le_refl _, h2⟩⟩
  have h := go_sum ms ([], s.1) (fun m hm => ⟨(hin m hm).1, (hin m hm).2.1⟩) hp
  have hi := go_inv ms [] ([], s.1) (GoInv.start s) (fun m hm => (hin m hm).1) (by simpa using hr)
  simp only [List.nil_append] at hi
  have hat := hi.at_
  have hlo := hi.lo
  have htop : (ms.foldl goStep ([], s.1)).2 ≤ s.2 ∨ ((ms.foldl goStep ([], s.1)).2 = s.1 ∧ s.2 ≤ s.1) := by
    rcases hat with e | ⟨m, hm, e⟩
    · rcases (show s.1 < s.2 ∨ s.2 ≤ s.1 by omega) with k | k
      · left; omega
      · right; exact ⟨e, k⟩
    · have := hin m hm; left; omega
  unfold goL goEnd
  rw [sumS_nil] at h
  simp only at h
  have el : lenS s = if s.2 ≤ s.1 then 0 else s.2 - s.1 := rfl
  split
  · rename_i c
    rw [sumS_append, sumS_cons, sumS_nil]
    have e3 : lenS ((ms.foldl goStep ([], s.1)).2, s.2) = s.2 - (ms.foldl goStep ([], s.1)).2 := by unfold lenS; simp only; rw [if_neg (by omega)]
    rw [el, if_neg (by omega)]
    omega
  · rename_i c
    rcases htop with k | ⟨k1, k2⟩
    · by_cases c2 : s.2 ≤ s.1
      · rw [el, if_pos c2]; omega
      · rw [el, if_neg c2]; omega
    · rw [el, if_pos k2]; omega
theorem exists_rising (l : List Sp) : ∃ ms, ms.Perm l ∧ RisingL ms := by
  refine ⟨l.mergeSort fun x y => decide (x.1 ≤ y.1), List.mergeSort_perm _ _, ?_⟩
  have := List.pairwise_mergeSort (le := fun x y : Sp => decide (x.1 ≤ y.1)) (fun a b c h1 h2 => by simp at *; omega) (fun a b => by simp; omega) l
  exact this.imp fun h => by simpa using h
/-- what is left, and what meets others that are apart, make the length. -/
theorem less_sum (s : Sp) (l : List Sp) (hap : l.Pairwise fun x y => meetS x y = (0, 0)) : sumS (lessR s l) + sumS (l.map (meetS s)) = lenS s := by
  obtain ⟨ms, hp, hr⟩ := exists_rising (metL s l)
  have hin : ∀ m ∈ ms, m.1 < m.2 ∧ s.1 ≤ m.1 ∧ m.2 ≤ s.2 := fun m hm => metL_in (hp.mem_iff.1 hm)
  have hs : s.1 < s.2 ∨ ms = [] := by
    by_cases h : s.1 < s.2
    · exact .inl h
    · rw [metL_none h] at hp; exact .inr hp.eq_nil
  have hap' : (metL s l).Pairwise fun x y => ∀ n, ¬ (hasS x n ∧ hasS y n) := by
    unfold metL
    refine List.Pairwise.filter _ ?_
    rw [List.pairwise_map]
    refine hap.imp fun {x y} h n hn => ?_
    exact (apart_iff.1 h n) ⟨(hasS_meet.1 hn.1).2, (hasS_meet.1 hn.2).2⟩
  have hap2 : ms.Pairwise fun x y => ∀ n, ¬ (hasS x n ∧ hasS y n) :=
    (hp.pairwise_iff (fun {x y} h n hn => h n ⟨hn.2, hn.1⟩)).2 hap'
  have h := goL_sum hs hin hr hap2
  rw [goL_eq hp hr, sumS_perm hp] at h
  have e : sumS (metL s l) = sumS (l.map (meetS s)) := sumS_filter _
  omega
/-! ### hulls -/
def hullStep (h x : Sp) : Sp := if x.2 ≤ x.1 then h else if h.2 ≤ h.1 then x else (min h.1 x.1, max h.2 x.2)
def hullL (l : List Sp) : Sp := l.foldl hullStep (0, 0)
def HullOk (h : Sp) : Prop := h = (0, 0) ∨ h.1 < h.2
theorem hullStep_ok {h x : Sp} (hk : HullOk h) : HullOk (hullStep h x) := by
  unfold hullStep
  split
  · exact hk
  · split
    · exact .inr (by omega)
    · exact .inr (by simp only; omega)
theorem hull_ok : ∀ (l : List Sp) (h : Sp), HullOk h → HullOk (l.foldl hullStep h)
  | [], _, hk => hk
  | x :: l, h, hk => hull_ok l _ (hullStep_ok hk)
theorem hullL_ok (l : List Sp) : HullOk (hullL l) := hull_ok l _ (.inl rfl)
theorem hullStep_has {h x : Sp} {n : Int} : (hasS h n → hasS (hullStep h x) n) ∧ (hasS x n → hasS (hullStep h x) n) := by
  unfold hullStep hasS
  split
  · exact ⟨id, fun k => by omega⟩
  · split
    · exact ⟨fun k => by omega, id⟩
    · exact ⟨fun k => by simp only; omega, fun k => by simp only; omega⟩
theorem hull_has : ∀ (l : List Sp) (h : Sp) (n : Int), (hasS h n ∨ inL l n) → hasS (l.foldl hullStep h) n
  | [], h, n, k => by
    rcases k with k | ⟨x, hx, _⟩
    · exact k
    · cases hx
  | x :: l, h, n, k => by
    rw [List.foldl_cons]
    refine hull_has l _ n ?_
    rcases k with k | k
    · exact .inl (hullStep_has.1 k)
    · rcases inL_cons.1 k with k | k
      · exact .inl (hullStep_has.2 k)
      · exact .inr k
theorem hullL_has {l : List Sp} {n : Int} (h : inL l n) : hasS (hullL l) n := hull_has l _ n (.inr h)
/-- one is within the other just if what meets is it, tidied. -/
theorem within_of {a b : Sp} (h : ∀ n, hasS a n → hasS b n) : meetS a b = tidyS a := by
  by_cases ha : a.1 < a.2
  · have h1 := h a.1 ⟨Int.le_refl _, ha⟩
    have h2 := h (a.2 - 1) ⟨by omega, by omega⟩
    unfold hasS at h1 h2
    unfold meetS
    rw [tidyS_some ha, show (max a.1 b.1, min a.2 b.2) = a from Prod.ext (by simp only; omega) (by simp only; omega), tidyS_some ha]
  · unfold meetS
    rw [tidyS_none (s := a) (by omega), tidyS_none (by simp only; omega)]
theorem within_hull {a b : Sp} : meetS a (hullL [a, b]) = tidyS a ∧ meetS b (hullL [a, b]) = tidyS b :=
  ⟨within_of fun n h => hullL_has ⟨a, by simp, h⟩, within_of fun n h => hullL_has ⟨b, by simp, h⟩⟩
theorem meetS_in (s x : Sp) : lenS (meetS s x) ≤ lenS s := by
  unfold meetS tidyS lenS
  split
  · rename_i h; simp only [Int.le_refl, if_true]; split <;> omega
  · rename_i h; simp only at h ⊢; split <;> omega
end Go.Proofs.Ytkbpiekmphcdnaa
