import Derived.Test.YtipmdhfinlkceaaJW01
/- FlowAnch. -/
set_option linter.unusedVariables false
set_option linter.unusedSimpArgs false
namespace Go.Proofs.Ytipmdhfinlkceaa
open Go Go.RowKit
structure FlsAt (w : World) (g : Nat) (l : List Fl) : Prop where
  lt : g < w.heap.size
  cell : ∀ (i : Nat) (x : Fl), l[i]? = some x → ∀ (j : Nat) (v : Value), (encFl x)[j]? = some v → w.cell? ⟨g, i * 7 + j, none⟩ = some v
  free : ∀ o, o < l.length * 7 → w.frozen? ⟨g, o, none⟩ = false
theorem FlsAt.of_owns {w : World} {B : Nat} {e : TypeId} {A : Option Addr} {n c : Nat} {l : List Fl} (h : w.ownsRow B e 7 (.slice A n c) n (l.flatMap encFl)) (hn : 0 < n) : ∃ g, A = some ⟨g, 0, none⟩ ∧ B ≤ g ∧ FlsAt w g l := by
  have hr := ownsRow_rows encFl_len (by decide) h
  rcases h.2 with ⟨h1, h2⟩ | ⟨g, cap, cur, h1, h2, h3, h4⟩
  · omega
  · injection h1 with h1
    subst h1
    refine ⟨g, rfl, h2, (Array.getElem?_eq_some_iff.1 h3).1, fun i x hx j v hv => ?_, fun o ho => ?_⟩
    · obtain ⟨b, off, e1, _, hc⟩ := hr.2.2 hn
      injection e1 with e1
      injection e1 with e2 e3
      subst e2 e3
      have := hc i x hx j v hv
      rw [Nat.zero_add] at this
      exact this
    · simp [World.frozen?, h3]
theorem FlsAt.below {w w' : World} {g : Nat} {l : List Fl} (h : FlsAt w g l) (hb : Below w.heap.size w w') : FlsAt w' g l :=
  ⟨Nat.lt_of_lt_of_le h.lt hb.size, fun i x hx j v hv => (below_cell hb h.lt).trans (h.cell i x hx j v hv), fun o ho => (hb.frozen (p := ⟨g, o, none⟩) h.lt).trans (h.free o ho)⟩
theorem FlsAt.other {w : World} {g k j : Nat} {l : List Fl} (h : FlsAt w g l) (hk : k ≠ g) (v : Value) : FlsAt (w.setCell ⟨k, j, none⟩ v) g l :=
  ⟨by simpa using h.lt, fun i x hx j' v' hv => by rw [World.cell?_setCell_other _ _ _ _ (fun e => hk (by injection e))]; exact h.cell i x hx j' v' hv, fun o ho => by rw [World.frozen?_setCell]; exact h.free o ho⟩
theorem FlsAt.anchor {w : World} {g k : Nat} {l : List Fl} {x : Fl} (h : FlsAt w g l) (hx : l[k]? = some x) (a : Int) : FlsAt (w.setCell ⟨g, k * 7 + 2, none⟩ (.int .i64 a)) g (l.set k { x with anchor := a }) := by
  have hk : k < l.length := (List.getElem?_eq_some_iff.1 hx).1
  refine ⟨by simpa using h.lt, fun i y hy j v hv => ?_, fun o ho => by rw [World.frozen?_setCell]; exact h.free o (by simpa using ho)⟩
  have hj : j < 7 := by have := (List.getElem?_eq_some_iff.1 hv).1; rw [encFl_len] at this; exact this
  by_cases hik : k = i
  · subst hik
    rw [List.getElem?_set_self hk] at hy
    injection hy with hy
    subst hy
    by_cases hj2 : j = 2
    · subst hj2
      simp [encFl] at hv
      subst hv
      exact World.cell?_setCell_same _ _ _ (h.cell k x hx 2 _ rfl)
    · rw [World.cell?_setCell_other _ _ _ _ (fun e => hj2 (by injection e with _ e; omega))]
      refine h.cell k x hx j v ?_
      match j, hj2 with
      | 0, _ => exact hv
      | 1, _ => exact hv
      | 3, _ => exact hv
      | 4, _ => exact hv
      | 5, _ => exact hv
      | 6, _ => exact hv
      | j + 7, _ => omega
  · rw [List.getElem?_set_ne hik] at hy
    rw [World.cell?_setCell_other _ _ _ _ (fun e => hik (by injection e with _ e; omega))]
    exact h.cell i y hy j v hv
theorem FlsAt.rows {w : World} {g n : Nat} {l : List Fl} (h : FlsAt w g l) (hn : l.length = n) (hm : n ≤ 10000) : Rows 7 encFl w (some ⟨g, 0, none⟩) n l :=
  ⟨hn, by omega, fun _ => ⟨g, 0, rfl, h.lt, fun i x hx j v hv => by rw [Nat.zero_add]; exact h.cell i x hx j v hv⟩⟩
def anchTo (a : Int) (l : List Fl) (k : Nat) : List Fl := (l.take k).map (anchF a) ++ l.drop k
theorem anchTo_zero (a : Int) (l : List Fl) : anchTo a l 0 = l := by unfold anchTo; simp
theorem anchTo_all {a : Int} {l : List Fl} {k : Nat} (h : l.length ≤ k) : anchTo a l k = l.map (anchF a) := by
  unfold anchTo
  rw [List.take_of_length_le h, List.drop_eq_nil_of_le h, List.append_nil]
theorem anchTo_len (a : Int) (l : List Fl) (k : Nat) : (anchTo a l k).length = l.length := by
  unfold anchTo
  rw [List.length_append, List.length_map, List.length_take, List.length_drop]
  omega
theorem anchTo_at {a : Int} {l : List Fl} {k : Nat} {x : Fl} (hx : l[k]? = some x) : (anchTo a l k)[k]? = some x := by
  have hk : k < l.length := (List.getElem?_eq_some_iff.1 hx).1
  unfold anchTo
  rw [List.getElem?_append_right (by rw [List.length_map, List.length_take]; omega), List.length_map, List.length_take, List.getElem?_drop]
  rw [show k + (k - min k l.length) = k by omega]
  exact hx
theorem anchTo_step {a : Int} {l : List Fl} {k : Nat} {x : Fl} (hx : l[k]? = some x) : anchTo a l (k + 1) = (anchTo a l k).set k (anchF a x) := by
  have hk : k < l.length := (List.getElem?_eq_some_iff.1 hx).1
  have e : l.drop k = x :: l.drop (k + 1) := by
    rw [List.drop_eq_getElem_cons hk]
    congr 1
    rw [List.getElem?_eq_getElem hk] at hx
    injection hx
  unfold anchTo
  rw [e, List.set_append_right _ _ (by rw [List.length_map, List.length_take]; omega), take_one hx, List.map_append, List.length_map, List.length_take]
  rw [show k - min k l.length = 0 by omega]
  simp
theorem anchTo_same {a : Int} {l : List Fl} {k : Nat} {x : Fl} (hx : l[k]? = some x) (h : anchF a x = x) : anchTo a l (k + 1) = anchTo a l k := by
  rw [anchTo_step hx, h]
  have hk := anchTo_at (a := a) hx
  have hlt : k < (anchTo a l k).length := (List.getElem?_eq_some_iff.1 hk).1
  rw [List.getElem?_eq_getElem hlt] at hk
  injection hk with hk
  conv => lhs; rw [← hk]
  exact List.set_getElem_self hlt
def highTo (s : Gs) (k : Nat) : Int := (s.fls.take k).foldl (fun h f => max h (f.y + f.h)) s.place
theorem highTo_zero (s : Gs) : highTo s 0 = s.place := by unfold highTo; simp
theorem highTo_all (s : Gs) : highTo s s.fls.length = highS s := by unfold highTo highS; rw [List.take_length]
theorem highTo_step {s : Gs} {k : Nat} {x : Fl} (hx : s.fls[k]? = some x) : highTo s (k + 1) = max (highTo s k) (x.y + x.h) := by
  unfold highTo
  rw [take_one hx, List.foldl_append]
  rfl
end Go.Proofs.Ytipmdhfinlkceaa
