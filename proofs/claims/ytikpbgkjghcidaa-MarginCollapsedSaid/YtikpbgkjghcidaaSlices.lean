import Derived.Test.YtikpbgkjghcidaaCells
import Derived.Test.YtikpbgkjghcidaaBoxes
import Derived.Deep.Slices
/- Slices whose elements lie in k cells each: read, come in, and of the call's own. Nothing of the program stands here. -/
namespace Go.Proofs.Ytikpbgkjghcidaa
open Go.ChangeShapes Go.WideShapes Go.ChangeAt Go.RowKit
set_option linter.unusedVariables false
set_option linter.unusedSimpArgs false

/-- the slice value '.slice A n c' holds zs: element i lies in the k cells 'enc zs[i]'. -/
def Rows {α : Type} (k : Nat) (enc : α → List Value) (w : World) (A : Option Addr) (n : Nat) (zs : List α) : Prop :=
  zs.length = n ∧ n ≤ 9223372036854775807 ∧ (0 < n → ∃ b off, A = some ⟨b, off, none⟩ ∧ b < w.heap.size ∧ ∀ i x, zs[i]? = some x → ∀ j v, (enc x)[j]? = some v → w.cell? ⟨b, off + i * k + j, none⟩ = some v)
section
variable {α : Type} {k : Nat} {enc : α → List Value} {w w' : World} {A : Option Addr} {n : Nat} {zs : List α}
theorem Rows.nil (w : World) (A : Option Addr) : Rows k enc w A 0 [] := ⟨rfl, by decide, fun h => absurd h (by decide)⟩
theorem Rows.len (h : Rows k enc w A n zs) : zs.length = n := h.1
theorem Rows.below (h : Rows k enc w A n zs) (hb : Below w.heap.size w w') : Rows k enc w' A n zs :=
  ⟨h.1, h.2.1, fun hn => by
    obtain ⟨b, off, e, hl, hc⟩ := h.2.2 hn
    have := hb.size
    exact ⟨b, off, e, by omega, fun i x hx j v hv => (below_cell hb hl).trans (hc i x hx j v hv)⟩⟩
theorem Rows.drew (h : Rows k enc w A n zs) : Rows k enc w.drew A n zs := h.below ((Below.refl _ _).drew)
theorem Rows.on (h : Rows k enc w A n zs) (ho : On w w') : Rows k enc w' A n zs := h.below ho
/-- element i: where it lies, and what it is. -/
theorem Rows.at_ (h : Rows k enc w A n zs) {i : Nat} (hi : i < n) : ∃ b off x, A = some ⟨b, off, none⟩ ∧ b < w.heap.size ∧ zs[i]? = some x ∧ ∀ j v, (enc x)[j]? = some v → w.cell? ⟨b, off + i * k + j, none⟩ = some v := by
  obtain ⟨b, off, e, hl, hc⟩ := h.2.2 (by omega)
  have hx : zs[i]? = some (zs[i]'(by rw [h.1]; exact hi)) := List.getElem?_eq_getElem _
  exact ⟨b, off, _, e, hl, hx, hc i _ hx⟩
theorem flat_get (hk : ∀ x : α, (enc x).length = k) : ∀ (zs : List α) (i : Nat) (x : α) (j : Nat) (v : Value), zs[i]? = some x → (enc x)[j]? = some v → (zs.flatMap enc)[i * k + j]? = some v
  | [], i, x, j, v, h, _ => by simp at h
  | z :: zs, 0, x, j, v, h, hv => by
    simp only [List.getElem?_cons_zero, Option.some.injEq] at h
    subst h
    rw [Nat.zero_mul, Nat.zero_add, List.flatMap_cons, List.getElem?_append_left (List.getElem?_eq_some_iff.1 hv).1]; exact hv
  | z :: zs, i + 1, x, j, v, h, hv => by
    rw [List.flatMap_cons, List.getElem?_append_right (by rw [hk, Nat.add_mul, Nat.one_mul]; omega), hk, show (i + 1) * k + j - k = i * k + j by rw [Nat.add_mul, Nat.one_mul]; omega]
    exact flat_get hk zs i x j v (by simpa using h) hv
theorem flat_len (hk : ∀ x : α, (enc x).length = k) (zs : List α) : (zs.flatMap enc).length = zs.length * k := by
  induction zs with
  | nil => simp
  | cons z zs ih => rw [List.flatMap_cons, List.length_append, hk, ih, List.length_cons, Nat.add_mul, Nat.one_mul]; omega
theorem Rows.cells (hk : ∀ x : α, (enc x).length = k) (h0 : 0 < k) (h : Rows k enc w A n zs) : Cells w A n k (zs.flatMap enc) := by
  obtain ⟨h1, h2, h3⟩ := h
  refine ⟨by rw [flat_len hk, h1], h2, fun hn => ?_⟩
  obtain ⟨b, off, e, hb, hc⟩ := h3 hn
  refine ⟨b, off, e, hb, fun j u hu => ?_⟩
  have hj : j < zs.length * k := by rw [← flat_len hk]; exact (List.getElem?_eq_some_iff.1 hu).1
  have hi : j / k < zs.length := Nat.div_lt_of_lt_mul (by rw [Nat.mul_comm]; exact hj)
  have hx : zs[j / k]? = some (zs[j / k]) := List.getElem?_eq_getElem hi
  have hm : j % k < (enc (zs[j / k])).length := by rw [hk]; exact Nat.mod_lt _ h0
  have hv : (enc (zs[j / k]))[j % k]? = some ((enc (zs[j / k]))[j % k]) := List.getElem?_eq_getElem hm
  have e1 := flat_get hk zs (j / k) _ (j % k) _ hx hv
  have e2 : j / k * k + j % k = j := by rw [Nat.mul_comm]; exact Nat.div_add_mod j k
  rw [e2] at e1
  rw [e1] at hu
  have := hc _ _ hx _ _ hv
  rw [Nat.add_assoc, e2] at this
  rw [this, hu]
theorem Cells.rows (hk : ∀ x : α, (enc x).length = k) (h0 : 0 < k) (h : Cells w A n k (zs.flatMap enc)) : Rows k enc w A n zs := by
  obtain ⟨h1, h2, h3⟩ := h
  rw [flat_len hk] at h1
  refine ⟨Nat.eq_of_mul_eq_mul_right h0 h1, h2, fun hn => ?_⟩
  obtain ⟨b, off, e, hb, hc⟩ := h3 hn
  exact ⟨b, off, e, hb, fun i x hx j v hv => by rw [Nat.add_assoc]; exact hc _ _ (flat_get hk zs i x j v hx hv)⟩
theorem ownsRow_rows {base : Nat} {e : TypeId} {c : Nat} (hk : ∀ x : α, (enc x).length = k) (h0 : 0 < k) (h : w.ownsRow base e k (.slice A n c) n (zs.flatMap enc)) : Rows k enc w A n zs := (ownsRow_cells h).rows hk h0
end
theorem owns_below {w w' : World} {base : Nat} {e : TypeId} {size : Nat} {v : Value} {n : Nat} {xs : List Value} (h : w.ownsRow base e size v n xs) (hb : Below w.heap.size w w') : w'.ownsRow base e size v n xs := by
  refine ⟨h.1, ?_⟩
  rcases h.2 with h2 | ⟨g, cap, cur, h1, h2, h3, h4⟩
  · exact .inl h2
  · have hlt : g < w.heap.size := by
      rcases Nat.lt_or_ge g w.heap.size with h' | h'
      · exact h'
      · rw [Array.getElem?_eq_none h'] at h3; cases h3
    exact .inr ⟨g, cap, cur, h1, h2, (hb.block g hlt).trans h3, h4⟩
theorem owns_block {w : World} {base : Nat} {e : TypeId} {size : Nat} {v : Value} {n : Nat} {xs : List Value} (h : w.ownsRow base e size v n xs) : ∀ k, v.ownBlock = some k → base ≤ k := by
  intro k hk
  rcases h.2 with ⟨rfl, _⟩ | ⟨g, cap, cur, rfl, h2, _⟩
  · cases hk
  · injection hk with hk; subst hk; exact h2
theorem owns_block_lt {w : World} {base : Nat} {e : TypeId} {size : Nat} {v : Value} {n : Nat} {xs : List Value} (h : w.ownsRow base e size v n xs) : ∀ k, v.ownBlock = some k → k < w.heap.size := by
  intro k hk
  rcases h.2 with ⟨rfl, _⟩ | ⟨g, cap, cur, rfl, h2, h3, _⟩
  · cases hk
  · injection hk with hk; subst hk
    show g < w.heap.size
    rcases Nat.lt_or_ge g w.heap.size with h' | h'
    · exact h'
    · rw [Array.getElem?_eq_none h'] at h3; cases h3
theorem Box.grown {w w' : World} {n : Nat} {vs : List Value} {row : Option Nat} (h : Box w n vs) (hg : w.grownBy w' row) (hr : ∀ k, row = some k → k ≠ n) : Box w' n vs := by
  have hb : w'.heap[n]? = w.heap[n]? := hg.block n h.lt (fun e => hr n e.symm rfl)
  exact ⟨Nat.lt_of_lt_of_le h.1 hg.size, fun o => (World.frozen?_of_block (w := w) (a := ⟨n, o, none⟩) hb).trans (h.2.1 o), fun j v hv => (World.cell?_of_block (w := w) (a := ⟨n, j, none⟩) hb).trans (h.2.2 j v hv)⟩
theorem owns_nil (w : World) (base : Nat) (e : TypeId) (size : Nat) : w.ownsRow base e size (.slice none 0 0) 0 [] := ⟨by simp, .inl ⟨rfl, rfl⟩⟩
theorem list_choose {α : Type} {p : Nat → α → Prop} : ∀ {n : Nat}, (∀ i, i < n → ∃ x, p i x) → ∃ zs : List α, zs.length = n ∧ ∀ i x, zs[i]? = some x → p i x
  | 0, _ => ⟨[], rfl, fun i x h => by simp at h⟩
  | n + 1, hx => by
    obtain ⟨zs, h1, h2⟩ := list_choose (n := n) (fun i hin => hx i (by omega))
    obtain ⟨x, hx1⟩ := hx n (by omega)
    refine ⟨zs ++ [x], by simp [h1], fun i y hy => ?_⟩
    rcases Nat.lt_or_ge i zs.length with hlt | hge
    · rw [List.getElem?_append_left hlt] at hy; exact h2 i y hy
    · rw [List.getElem?_append_right hge] at hy
      have e : i = zs.length := by
        have := (List.getElem?_eq_some_iff.1 hy).1; simp at this; omega
      subst e
      simp at hy
      subst hy
      rw [h1]; exact hx1
section
variable {H : Type} {enc : TypeId × Value → H} {P : Program} {W : World}
/-- a slice that came in, of whatever elements that can be told from their cells. -/
theorem open_rows {α : Type} {k : Nat} (ea : α → List Value) (good : α → Prop) {base : Nat} {t e : TypeId} {v : Value} {d : DataW H} {p : List MemPlace} (ht : P.underlying t = some (.slice e)) (hC : P.cellsOf e = k) (h0 : 0 < k) (hk : ∀ x : α, (ea x).length = k)
    (hdec : ∀ fuel cs y, DataW.trod enc P W 0 (fun _ => true) true fuel e cs = some y → ∃ x, cs = ea x ∧ good x)
    (hv : Value.okWide P W .any base t v) (h : DataW.Trod enc P W 0 (fun _ => true) true t v d p) :
    ∃ A n c zs, v = .slice A n c ∧ n ≤ c ∧ c ≤ maxLen ∧ Rows k ea W A n zs ∧ ∀ z ∈ zs, good z := by
  obtain ⟨A, n, c, rfl⟩ := okWide_slice ht hv
  obtain ⟨fuel, hf⟩ := h
  rcases Go.Deep.open_slice ht hf with ⟨hcs, _⟩ | ⟨a, len, cap, m, fu, D, Pl, hcs, _, hl, hm, hmm, _, hi⟩
  · simp [Value.cells] at hcs
    obtain ⟨rfl, rfl, rfl⟩ := hcs
    exact ⟨_, _, _, [], rfl, Nat.le_refl _, by decide, Rows.nil _ _, by simp⟩
  · simp [Value.cells] at hcs
    obtain ⟨rfl, rfl, rfl⟩ := hcs
    simp only [if_true] at hmm
    rw [hC] at hi
    have hx : ∀ i, i < n → ∃ x, W.cells? 0 (a.add (i * k)) k = some (ea x) ∧ good x := by
      intro i hin
      obtain ⟨cs', hc', ht'⟩ := hi i (by omega)
      obtain ⟨x, rfl, hg⟩ := hdec _ _ _ ht'
      exact ⟨x, hc', hg⟩
    have hex := list_choose (p := fun i x => W.cells? 0 (a.add (i * k)) k = some (ea x) ∧ good x) hx
    obtain ⟨zs, h1, h2⟩ := hex
    obtain ⟨b, off, spot⟩ := a
    refine ⟨_, _, _, zs, rfl, hl, hm, ⟨h1, by unfold maxLen at hm; omega, fun hn => ?_⟩, fun z hz => ?_⟩
    · have hcell : ∀ i x, zs[i]? = some x → ∀ j v, (ea x)[j]? = some v → W.cell? ((⟨b, off, spot⟩ : Addr).add (i * k + j)) = some v := by
        intro i x hx j v hv
        obtain ⟨hc, _⟩ := h2 i x hx
        obtain ⟨_, hlen, hat⟩ := World.cells?_some hc
        have hj : j < k := by rw [← hk x]; exact (List.getElem?_eq_some_iff.1 hv).1
        have := hat j hj
        rw [hv, Go.Deep.add_add] at this
        exact this
      have hz0 : zs[0]? = some (zs[0]'(by omega)) := List.getElem?_eq_getElem _
      have hv0 : (ea (zs[0]'(by omega)))[0]? = some ((ea (zs[0]'(by omega)))[0]'(by rw [hk]; exact h0)) := List.getElem?_eq_getElem _
      have hc0 := hcell 0 _ hz0 0 _ hv0
      have hspot : spot = none := by simpa [Addr.add] using World.cell?_spot hc0
      subst hspot
      refine ⟨b, off, rfl, ?_, fun i x hx j v hv => ?_⟩
      · have := cell_lt hc0; simpa [Addr.add] using this
      · have := hcell i x hx j v hv
        rwa [add_plain, ← Nat.add_assoc] at this
    · obtain ⟨i, hi2⟩ := List.mem_iff_getElem?.1 hz
      exact (h2 i z hi2).2
end
end Go.Proofs.Ytikpbgkjghcidaa
