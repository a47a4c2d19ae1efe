import Derived.Test.YtechccoongilcaaDoorJD708
import Derived.Test.YtechccoongilcaaDoorJD703
import Derived.Test.YtechccoongilcaaDoorJD700
/- The program's package lex: the tokens of a script. -/
namespace Go.Proofs.YtechccoongilcaaDoor
open Go.RowKit Go.Shelf
set_option linter.unusedVariables false
set_option linter.unusedSimpArgs false
attribute [local go_sem] Oper.semAt_some
theorem tokens_stops (n b n₀ n₁ : Nat) (hn : 3 ≤ n) (s : ByteArray) (hs : s.size ≤ 600000) (hw : textB s = none) (w : World) (h01 : n₀ ≤ n₁) (h1b : n₁ ≤ b) (hT : Tabs w) (ht3 : decLays_ren.g 3 < n₀) (ht4 : decLays_ren.g 4 < n₀) (hb : w.heap[b]? = some (.cells #[.string s] 9)) :
    StopsO Fence.wide n Tryd.prog 51 #[.pointer (some ⟨b, 0, none⟩)] encK n₀ n₁ (fun xs => xs = toksP s (piecesB s)) (fun pre => pre <+: toksP s (piecesB s)) (s.size + 2) w := fun l J Jx W hW hl hJ hJx hY h0 =>
  tokens1_in n l b n₀ n₁ hn s hs hw J Jx W hJ hJx hl h01 h1b (hT.below hW) ht3 ht4 hY ((hW.block b (Array.getElem?_eq_some_iff.1 hb).1).trans hb) h0
theorem owns_own {β : Type} {B base : Nat} {e : TypeId} {size : Nat} (v : β → Value) (n : β → Nat) (xs : β → List Value) : OwnFrom B (fun (s : β) W => W.ownsRow base e size (v s) (n s) (xs s)) := fun s X Y row hs hg hr => by
  refine ⟨hs.1, ?_⟩
  rcases hs.2 with h2 | ⟨g, cap, cur, h1, h2, h3, h4⟩
  · exact .inl h2
  · refine .inr ⟨g, cap, cur, h1, h2, (hg.block g (Array.getElem?_eq_some_iff.1 h3).1 (fun e' => ?_)).trans h3, h4⟩
    obtain ⟨_, o, ho, hc⟩ := hr g e'.symm
    rw [h3] at ho; cases ho; cases hc
theorem own_cells {B : Nat} {X Y : World} {row : Option Nat} {k : Nat} {vs : Array Value} {t : TypeId} (hs : X.heap[k]? = some (.cells vs t)) (hg : X.grownBy Y row) (hr : ∀ r, row = some r → B ≤ r ∧ ∃ o : Obj, X.heap[r]? = some o ∧ o.isCells = false) : Y.heap[k]? = some (.cells vs t) := by
  refine (hg.block k (Array.getElem?_eq_some_iff.1 hs).1 (fun e' => ?_)).trans hs
  obtain ⟨_, o, ho, hc⟩ := hr k e'.symm
  rw [hs] at ho; cases ho; cases hc
/-- what lies between two rounds. -/
def OfI (w : World) (D : Nat) (pre : List (Tok × Bool)) (W : World) : Prop :=
  (∃ A c, W.heap[D]? = some (.cells #[.slice A pre.length c] 34) ∧ W.ownsRow (D + 3) 70 4 (.slice A pre.length c) pre.length ((pre.map (·.1)).flatMap encT)) ∧ (∀ x ∈ pre, x.2 = true) ∧
    W.heap[D + 1]? = some (.cells #[.int .i64 0] 3) ∧ W.heap[D + 2]? = some (.cells #[.int .i64 0] 23) ∧ Below D w W
/-- what lies where a round has left. -/
def OfX (w : World) (D : Nat) (c : Code) (pre : List (Tok × Bool)) (W : World) : Prop :=
  c = .ret ∧ (∃ pre' x, pre = pre' ++ [x] ∧ (∀ y ∈ pre', y.2 = true) ∧ x.2 = false ∧ W.heap[D]? = some (.cells #[.slice none 0 0] 34) ∧ W.heap[D + 1]? = some (.cells #[.int .i64 x.1.at_] 3)) ∧ W.heap[D + 2]? = some (.cells #[.int .i64 1] 23) ∧ Below D w W
theorem ofI_own {w : World} {D B : Nat} (hw : D = w.heap.size) (hB : D ≤ B) : OwnFrom B (OfI w D) := fun pre X Y row ⟨⟨A, c, h1, h2⟩, h3, h4, h5, h6⟩ hg hr =>
  ⟨⟨A, c, own_cells h1 hg hr, owns_own (B := B) (fun _ : Unit => .slice A pre.length c) (fun _ => pre.length) (fun _ => (pre.map (·.1)).flatMap encT) () X Y row h2 hg hr⟩, h3, own_cells h4 hg hr, own_cells h5 hg hr,
    ownFrom_below (β := Unit) (w₀ := w) (by omega) hB () X Y row h6 hg hr⟩
theorem ofX_own {w : World} {D B : Nat} (hw : D = w.heap.size) (hB : D ≤ B) (c : Code) : OwnFrom B (OfX w D c) := fun pre X Y row ⟨h0, ⟨pre', x, e1, e2, e3, h1, h2⟩, h3, h4⟩ hg hr =>
  ⟨h0, ⟨pre', x, e1, e2, e3, own_cells h1 hg hr, own_cells h2 hg hr⟩, own_cells h3 hg hr, ownFrom_below (β := Unit) (w₀ := w) (by omega) hB () X Y row h4 hg hr⟩
theorem box1 {W : World} {k : Nat} {v : Value} {t : TypeId} (h : W.heap[k]? = some (.cells #[v] t)) : W.cell? ⟨k, 0, none⟩ = some v ∧ W.frozen? ⟨k, 0, none⟩ = false := by
  constructor <;> simp [World.cell?, World.frozen?, h]
theorem put_box {W : World} {k D2 : Nat} {v : Value} {t : TypeId} {o : Obj} (h : W.heap[k]? = some (.cells #[v] t)) (hne : k ≠ D2) : (W.putObj D2 o).cell? ⟨k, 0, none⟩ = some v := (box1 ((World.putObj_heap_other hne).trans h)).1
theorem of_end {w W : World} {D D2 : Nat} {v0 v1 v2 u0 u1 u2 : Value} {t0 t1 t2 : TypeId} (h0 : W.heap[D]? = some (.cells #[u0] t0)) (h1 : W.heap[D + 1]? = some (.cells #[u1] t1)) (h2 : W.heap[D + 1 + 1]? = some (.cells #[u2] t2))
    (hK : W.heap[D2]? = some (.deferred (some []))) (hne : D + 2 < D2) (hb : Below D w W) (hD : D ≤ w.heap.size) :
    ((((W.setCell ⟨D, 0, none⟩ v0).setCell ⟨D + 1, 0, none⟩ v1).setCell ⟨D + 1 + 1, 0, none⟩ v2).heap[D2]? = some (.deferred (some []))) ∧
    (((((W.setCell ⟨D, 0, none⟩ v0).setCell ⟨D + 1, 0, none⟩ v1).setCell ⟨D + 1 + 1, 0, none⟩ v2).putObj D2 (.deferred none)).cell? ⟨D, 0, none⟩ = some v0) ∧
    (((((W.setCell ⟨D, 0, none⟩ v0).setCell ⟨D + 1, 0, none⟩ v1).setCell ⟨D + 1 + 1, 0, none⟩ v2).putObj D2 (.deferred none)).cell? ⟨D + 1, 0, none⟩ = some v1) ∧
    (((((W.setCell ⟨D, 0, none⟩ v0).setCell ⟨D + 1, 0, none⟩ v1).setCell ⟨D + 1 + 1, 0, none⟩ v2).putObj D2 (.deferred none)).cell? ⟨D + 1 + 1, 0, none⟩ = some v2) ∧
    Below D w ((((W.setCell ⟨D, 0, none⟩ v0).setCell ⟨D + 1, 0, none⟩ v1).setCell ⟨D + 1 + 1, 0, none⟩ v2).putObj D2 (.deferred none)) ∧
    (∀ e n v xs, W.ownsRow (D + 3) e 4 v n xs → ((((W.setCell ⟨D, 0, none⟩ v0).setCell ⟨D + 1, 0, none⟩ v1).setCell ⟨D + 1 + 1, 0, none⟩ v2).putObj D2 (.deferred none)).ownsRow (D + 3) e 4 v n xs) := by
  obtain ⟨X, hX⟩ : ∃ X, W.setCell ⟨D, 0, none⟩ v0 = X := ⟨_, rfl⟩
  obtain ⟨Y, hY⟩ : ∃ Y, X.setCell ⟨D + 1, 0, none⟩ v1 = Y := ⟨_, rfl⟩
  obtain ⟨V, hV⟩ : ∃ V, Y.setCell ⟨D + 1 + 1, 0, none⟩ v2 = V := ⟨_, rfl⟩
  have oX : ∀ k, k ≠ D → X.heap[k]? = W.heap[k]? := fun k hk => by rw [← hX]; exact Below.heap_setCell _ _ _ k hk
  have oY : ∀ k, k ≠ D + 1 → Y.heap[k]? = X.heap[k]? := fun k hk => by rw [← hY]; exact Below.heap_setCell _ _ _ k hk
  have oV : ∀ k, k ≠ D + 1 + 1 → V.heap[k]? = Y.heap[k]? := fun k hk => by rw [← hV]; exact Below.heap_setCell _ _ _ k hk
  have x0 : X.heap[D]? = some (.cells #[v0] t0) := by rw [← hX]; exact Boxed.set v0 h0
  have y1 : Y.heap[D + 1]? = some (.cells #[v1] t1) := by rw [← hY]; exact Boxed.set v1 ((oX _ (by omega)).trans h1)
  have z2 : V.heap[D + 1 + 1]? = some (.cells #[v2] t2) := by rw [← hV]; exact Boxed.set v2 ((oY _ (by omega)).trans ((oX _ (by omega)).trans h2))
  have z1 := (oV (D + 1) (by omega)).trans y1
  have z0 := (oV D (by omega)).trans ((oY D (by omega)).trans x0)
  have zK := (oV D2 (by omega)).trans ((oY D2 (by omega)).trans ((oX D2 (by omega)).trans hK))
  have hbV : Below D w V := by rw [← hV, ← hY, ← hX]; exact ((hb.setCell (Nat.le_refl D) _).setCell (by simp) _).setCell (by simp; omega) _
  rw [hX, hY, hV]
  refine ⟨zK, put_box z0 (by omega), put_box z1 (by omega), put_box z2 (by omega), hbV.grown (grownBy_putObj' V _ _) (by have := hbV.size; omega) (fun k e => by cases e; omega), fun e n v xs hr => ?_⟩
  refine ⟨hr.1, ?_⟩
  rcases hr.2 with q | ⟨g, cap, cur, q1, q2, q3, q4⟩
  · exact .inl q
  · refine .inr ⟨g, cap, cur, q1, q2, ?_, q4⟩
    have hgK : g ≠ D2 := fun e' => by subst e'; rw [hK] at q3; cases q3
    exact (World.putObj_heap_other hgK).trans ((oV g (by omega)).trans ((oY g (by omega)).trans ((oX g (by omega)).trans q3)))
theorem of_sets {w W : World} {D : Nat} {v0 v1 v2 u0 u1 u2 : Value} {t0 t1 t2 : TypeId} (h0 : W.heap[D]? = some (.cells #[u0] t0)) (h1 : W.heap[D + 1]? = some (.cells #[u1] t1)) (h2 : W.heap[D + 1 + 1]? = some (.cells #[u2] t2)) (hb : Below D w W) :
    (((W.setCell ⟨D, 0, none⟩ v0).setCell ⟨D + 1, 0, none⟩ v1).setCell ⟨D + 1 + 1, 0, none⟩ v2).drew.heap[D]? = some (.cells #[v0] t0) ∧
    (((W.setCell ⟨D, 0, none⟩ v0).setCell ⟨D + 1, 0, none⟩ v1).setCell ⟨D + 1 + 1, 0, none⟩ v2).drew.heap[D + 1]? = some (.cells #[v1] t1) ∧
    (((W.setCell ⟨D, 0, none⟩ v0).setCell ⟨D + 1, 0, none⟩ v1).setCell ⟨D + 1 + 1, 0, none⟩ v2).drew.heap[D + 2]? = some (.cells #[v2] t2) ∧
    (∀ {B : Nat}, KeepsFrom B W (((W.setCell ⟨D, 0, none⟩ v0).setCell ⟨D + 1, 0, none⟩ v1).setCell ⟨D + 1 + 1, 0, none⟩ v2).drew) ∧
    Below D w (((W.setCell ⟨D, 0, none⟩ v0).setCell ⟨D + 1, 0, none⟩ v1).setCell ⟨D + 1 + 1, 0, none⟩ v2).drew := by
  have x0 : (W.setCell ⟨D, 0, none⟩ v0).heap[D]? = some (.cells #[v0] t0) := Boxed.set v0 h0
  have x1 : (W.setCell ⟨D, 0, none⟩ v0).heap[D + 1]? = some (.cells #[u1] t1) := (Below.heap_setCell _ _ _ _ (by simp)).trans h1
  have x2 : (W.setCell ⟨D, 0, none⟩ v0).heap[D + 1 + 1]? = some (.cells #[u2] t2) := (Below.heap_setCell _ _ _ _ (by simp; omega)).trans h2
  have y1 : ((W.setCell ⟨D, 0, none⟩ v0).setCell ⟨D + 1, 0, none⟩ v1).heap[D + 1]? = some (.cells #[v1] t1) := Boxed.set v1 x1
  have y0 := (Below.heap_setCell (W.setCell ⟨D, 0, none⟩ v0) ⟨D + 1, 0, none⟩ v1 D (by simp)).trans x0
  have y2 := (Below.heap_setCell (W.setCell ⟨D, 0, none⟩ v0) ⟨D + 1, 0, none⟩ v1 (D + 1 + 1) (by simp)).trans x2
  have z2 : (((W.setCell ⟨D, 0, none⟩ v0).setCell ⟨D + 1, 0, none⟩ v1).setCell ⟨D + 1 + 1, 0, none⟩ v2).heap[D + 1 + 1]? = some (.cells #[v2] t2) := Boxed.set v2 y2
  have z0 := (Below.heap_setCell ((W.setCell ⟨D, 0, none⟩ v0).setCell ⟨D + 1, 0, none⟩ v1) ⟨D + 1 + 1, 0, none⟩ v2 D (by simp; omega)).trans y0
  have z1 := (Below.heap_setCell ((W.setCell ⟨D, 0, none⟩ v0).setCell ⟨D + 1, 0, none⟩ v1) ⟨D + 1 + 1, 0, none⟩ v2 (D + 1) (by simp)).trans y1
  exact ⟨z0, z1, z2, fun {B} => ((((KeepsOthers.setCell _ _ _).trans (KeepsOthers.setCell _ _ _)).trans (KeepsOthers.setCell _ _ _)).trans (KeepsOthers.drew _)).from B, (((hb.setCell (Nat.le_refl D) _).setCell (by simp) _).setCell (by simp; omega) _).drew⟩
theorem of_append {w W w1 : World} {D : Nat} {A : Option Addr} {c g cap : Nat} {pre : List (Tok × Bool)} {x : Tok × Bool} {tmp : Obj}
    (hbl : W.heap[D]? = some (.cells #[.slice A pre.length c] 34)) (how : W.ownsRow (D + 3) 70 4 (.slice A pre.length c) pre.length ((pre.map (·.1)).flatMap encT)) (hall : ∀ x ∈ pre, x.2 = true)
    (hba : W.heap[D + 1]? = some (.cells #[.int .i64 0] 3)) (hbe : W.heap[D + 2]? = some (.cells #[.int .i64 0] 23)) (hbw : Below D w W) (hx : x.2 = true) (hD : D + 3 ≤ W.heap.size)
    (hown' : w1.ownsRow (D + 3) 70 4 (.slice (some ⟨g, 0, none⟩) (pre.length + 1) cap) (pre.length + 1) ((pre.map (·.1)).flatMap encT ++ encT x.1))
    (hgrow : (W.alloc tmp).grownBy w1 (Value.slice A pre.length c).ownBlock) :
    w1.cell? ⟨D, 0, none⟩ = some (.slice A pre.length c) ∧ w1.frozen? ⟨D, 0, none⟩ = false ∧ KeepS D (D + 3) W (w1.setCell ⟨D, 0, none⟩ (.slice (some ⟨g, 0, none⟩) (pre.length + 1) cap)) ∧
      OfI w D (pre ++ [x]) (w1.setCell ⟨D, 0, none⟩ (.slice (some ⟨g, 0, none⟩) (pre.length + 1) cap)) := by
  have how2 := owns_below how ((Below.refl _ W).alloc (Nat.le_refl _) tmp)
  have hrow := owns_block how2
  have hold : ∀ k, k < D + 3 → w1.heap[k]? = W.heap[k]? := fun k hk => (hgrow.block k (by simp; omega) (fun e => by have := hrow k e.symm; omega)).trans (Below.heap_alloc W tmp k (by omega))
  have b0 := (hold D (by omega)).trans hbl
  have k1 : KeepS D (D + 3) (W.alloc tmp) w1 := KeepS.grown hgrow (by simp; omega) (fun r e => by
    refine ⟨by have := hrow r e; omega, fun o ho => ?_⟩
    rcases how2.2 with ⟨q, _⟩ | ⟨g', cap', cur, q, _, q3, _, _, q4, _⟩
    · rw [q] at e; cases e
    · rw [q] at e
      injection e with e
      rw [show r = g' from e.symm, q3] at ho
      cases ho
      refine ⟨rfl, .inr ?_⟩
      simp only [oneCell, q4, beq_eq_false_iff_ne]
      omega)
  have k2 : KeepS D (D + 3) w1 (w1.setCell ⟨D, 0, none⟩ (.slice (some ⟨g, 0, none⟩) (pre.length + 1) cap)) := KeepS.grown (grownBy_setCell' w1 D _) (by have := hgrow.size; simp at this; omega) (fun r e => by
    cases e
    exact ⟨Nat.le_refl _, fun o ho => by rw [b0] at ho; cases ho; exact ⟨rfl, .inl (by omega)⟩⟩)
  have hks := ((KeepS.alloc (n₁ := D + 3) (show D ≤ W.heap.size by omega) tmp).trans k1).trans k2
  have h3 : ∀ k, k ≠ D → (w1.setCell ⟨D, 0, none⟩ (.slice (some ⟨g, 0, none⟩) (pre.length + 1) cap)).heap[k]? = w1.heap[k]? := fun k hk => Below.heap_setCell _ _ _ k hk
  obtain ⟨c0, f0⟩ := box1 b0
  refine ⟨c0, f0, hks, ⟨some ⟨g, 0, none⟩, cap, ?_, ?_⟩, ?_, (h3 _ (by omega)).trans ((hold _ (by omega)).trans hba), (h3 _ (by omega)).trans ((hold _ (by omega)).trans hbe), hbw.trans hks.1⟩
  · rw [List.length_append]; exact Boxed.set _ b0
  · rw [List.length_append, List.map_append, List.flatMap_append]
    have he : List.flatMap encT (List.map (fun x => x.1) [x]) = encT x.1 := by simp
    rw [he]
    refine ⟨hown'.1, ?_⟩
    rcases hown'.2 with q | ⟨g', cap', cur, q, q2, q3, q4⟩
    · exact .inl q
    · exact .inr ⟨g', cap', cur, q, q2, (h3 g' (by omega)).trans q3, q4⟩
  · intro y hy
    rcases List.mem_append.1 hy with hy | hy
    · exact hall y hy
    · simp at hy; subst hy; exact hx
theorem of_start {w W1 : World} {D : Nat} (hD : w.heap.size = D) (v : Value)
    (hb : Below (((w.alloc (.cells #[.slice none 0 0] 34)).alloc (.cells #[.int .i64 0] 3)).alloc (.cells #[.int .i64 0] 23)).heap.size (((w.alloc (.cells #[.slice none 0 0] 34)).alloc (.cells #[.int .i64 0] 3)).alloc (.cells #[.int .i64 0] 23)) W1) :
    D + 3 ≤ W1.heap.size ∧ (W1.alloc (.cells #[v] 9)).heap.size = W1.heap.size + 1 ∧ (W1.alloc (.cells #[v] 9)).heap[W1.heap.size]? = some (.cells #[v] 9) ∧ OfI w D [] (W1.alloc (.cells #[v] 9)) := by
  have hs : (((w.alloc (.cells #[.slice none 0 0] 34)).alloc (.cells #[.int .i64 0] 3)).alloc (.cells #[.int .i64 0] 23)).heap.size = D + 3 := by simp; omega
  rw [hs] at hb
  have hl : D + 3 ≤ W1.heap.size := by have := hb.size; omega
  have k0 := World.alloc_heap_new w (.cells #[.slice none 0 0] 34)
  have k1 := World.alloc_heap_new (w.alloc (.cells #[.slice none 0 0] 34)) (.cells #[.int .i64 0] 3)
  have k2 := World.alloc_heap_new ((w.alloc (.cells #[.slice none 0 0] 34)).alloc (.cells #[.int .i64 0] 3)) (.cells #[.int .i64 0] 23)
  simp only [World.size_alloc, hD] at k0 k1 k2
  have l0 := (Below.heap_alloc _ (.cells #[.int .i64 0] 23) D (by simp; omega)).trans ((Below.heap_alloc _ (.cells #[.int .i64 0] 3) D (by simp; omega)).trans k0)
  have l1 := (Below.heap_alloc _ (.cells #[.int .i64 0] 23) (D + 1) (by simp; omega)).trans k1
  have m0 := (Below.heap_alloc W1 (.cells #[v] 9) D (by omega)).trans ((hb.block D (by omega)).trans l0)
  have m1 := (Below.heap_alloc W1 (.cells #[v] 9) (D + 1) (by omega)).trans ((hb.block (D + 1) (by omega)).trans l1)
  have m2 := (Below.heap_alloc W1 (.cells #[v] 9) (D + 2) (by omega)).trans ((hb.block (D + 2) (by omega)).trans k2)
  refine ⟨hl, by simp, World.alloc_heap_new W1 _, ⟨none, 0, m0, owns_nil _ _ _ _⟩, fun x hx => absurd hx (by simp), m1, m2, ?_⟩
  have b0 : Below D w (((w.alloc (.cells #[.slice none 0 0] 34)).alloc (.cells #[.int .i64 0] 3)).alloc (.cells #[.int .i64 0] 23)) := by subst hD; exact (((Below.refl _ w).alloc (Nat.le_refl _) _).alloc (by simp) _).alloc (by simp; omega) _
  exact (b0.trans (hb.mono (by omega))).alloc (by omega) _
theorem foldT_true : ∀ (l : List (Tok × Bool)) (out : List Tok), (∀ x ∈ l, x.2 = true) → foldT l out = (some (out ++ l.map (·.1)), 0)
  | [], out, _ => by simp [foldT]
  | (x, v) :: r, out, h => by
    obtain rfl : v = true := h (x, v) (by simp)
    rw [foldT, foldT_true r (out ++ [x]) (fun y hy => h y (by simp [hy]))]
    simp
theorem foldT_false : ∀ (l : List (Tok × Bool)) (x : Tok × Bool) (r : List (Tok × Bool)) (out : List Tok), (∀ y ∈ l, y.2 = true) → x.2 = false → foldT (l ++ x :: r) out = (none, x.1.at_.toNat)
  | [], (x, v), r, out, _, h => by
    obtain rfl : v = false := h
    rfl
  | (y, v) :: l, x, r, out, h, hx => by
    obtain rfl : v = true := h (y, v) (by simp)
    exact foldT_false l x r (out ++ [y]) (fun z hz => h z (by simp [hz])) hx
theorem toksP_at {s : ByteArray} {ps : List (Nat × Nat)} {x : Tok × Bool} (h : x ∈ toksP s ps) : 0 ≤ x.1.at_ := by
  unfold toksP at h
  obtain ⟨p, _, hp⟩ := List.mem_filterMap.1 h
  unfold pieceTok at hp
  split at hp
  · cases hp
  · injection hp with hp
    subst hp
    unfold tokR
    repeat' split
    all_goals exact Int.natCast_nonneg _
theorem lexF_len {s : ByteArray} : ∀ (f : Nat) (c : Bool) (k : Nat) (out o : List Tok) (q : Nat), k ≤ s.size → lexF s f c k out = (some o, q) → o.length + k ≤ out.length + s.size
  | 0, c, k, out, o, q, hk, h => by
    rw [lexF] at h; injection h with h; injection h with h; subst h; omega
  | f + 1, c, k, out, o, q, hk, h => by
    rw [lexF] at h
    by_cases hlt : k < s.size
    · rw [if_pos hlt] at h
      by_cases hz : sizeB s k = 0
      · rw [if_pos hz] at h; injection h with h; cases h
      have hin := sizeB_in (s := s) (k := k) (by omega)
      rw [if_neg hz] at h
      split at h
      · have := lexF_len f _ _ _ _ _ hin h; omega
      split at h
      · have := lexF_len f _ _ _ _ _ (by omega) h; omega
      split at h
      · have := lexF_len f _ _ _ _ _ (by omega) h; omega
      split at h
      · rename_i hd
        have h1 := numB_gt hd
        have h2 := numB_size (s := s) (k := k) hk
        split at h
        · injection h with h; cases h
        · have := lexF_len f _ _ _ _ _ h2 h; simp at this; omega
      · have := lexF_len f _ _ _ _ _ hin h; simp at this; omega
    · rw [if_neg hlt] at h; injection h with h; injection h with h; subst h; omega
theorem lexF_none {s : ByteArray} : ∀ (f : Nat) (c : Bool) (k : Nat) (out : List Tok) (q : Nat), lexF s f c k out = (none, q) → q < s.size
  | 0, c, k, out, q, h => by rw [lexF] at h; injection h with h; cases h
  | f + 1, c, k, out, q, h => by
    rw [lexF] at h
    by_cases hlt : k < s.size
    · rw [if_pos hlt] at h
      by_cases hz : sizeB s k = 0
      · rw [if_pos hz] at h; injection h with _ h; omega
      rw [if_neg hz] at h
      split at h
      · exact lexF_none f _ _ _ _ h
      split at h
      · exact lexF_none f _ _ _ _ h
      split at h
      · exact lexF_none f _ _ _ _ h
      split at h
      · split at h
        · injection h with _ h; omega
        · exact lexF_none f _ _ _ _ h
      · exact lexF_none f _ _ _ _ h
    · rw [if_neg hlt] at h; injection h with h; cases h
/-- all tokens may be. -/
theorem read_all {s : ByteArray} (h : textB s = none) (ht : ∀ x ∈ toksP s (piecesB s), x.2 = true) : lexB s = (some ((toksP s (piecesB s)).map (·.1)), 0) ∧ (toksP s (piecesB s)).length ≤ s.size := by
  have h1 := (pieces_whole h).2
  rw [foldT_true _ _ ht, List.nil_append] at h1
  refine ⟨h1.symm, ?_⟩
  have := lexF_len _ _ _ _ _ _ (Nat.zero_le _) (show lexF s (s.size + 1) false 0 [] = _ from h1.symm)
  simp at this; omega
/-- one may not be. -/
theorem read_bad {s : ByteArray} (h : textB s = none) {l : List (Tok × Bool)} {x : Tok × Bool} (hp : l ++ [x] <+: toksP s (piecesB s)) (ht : ∀ y ∈ l, y.2 = true) (hx : x.2 = false) :
    ∃ k : Nat, x.1.at_ = (k : Int) ∧ k < s.size ∧ lexB s = (none, k) := by
  have h1 := (pieces_whole h).2
  obtain ⟨r, hr⟩ := hp
  have hat := toksP_at (s := s) (ps := piecesB s) (x := x) (by rw [← hr]; simp)
  rw [← hr, List.append_assoc, List.singleton_append, foldT_false l x r [] ht hx] at h1
  exact ⟨x.1.at_.toNat, by omega, lexF_none _ _ _ _ _ (show lexF s (s.size + 1) false 0 [] = _ from h1.symm), h1.symm⟩
set_option maxRecDepth 100000 in
set_option maxHeartbeats 4000000 in
theorem lexof_in (n : Nat) (hn : 6 ≤ n) (s : ByteArray) (w : World) (hs : s.size ≤ 600000) (hT : Tabs w) : CallsIn Fence.wide n Tryd.prog 14 #[.string s] w (LexPost w s) := by
  have h1 : 1 ≤ n := by omega
  obtain ⟨i0, hi0, hz0, hz1, hz2⟩ := info_parts tok_info
  obtain ⟨D, hD⟩ : ∃ D, w.heap.size = D := ⟨_, rfl⟩
  refine callsIn_of_wp_marks Tryd.func14 rfl trivial ?_ rfl
  simp only [Tryd.ntmps14, List.size_toArray, List.length_cons, List.length_nil, Nat.reduceAdd, Nat.reduceSub, Array.replicate_succ, Array.replicate_zero, List.push_toArray, List.append_toArray, List.nil_append, List.cons_append]
  have htx := lextext_any s (((w.alloc (.cells #[.slice none 0 0] 34)).alloc (.cells #[.int .i64 0] 3)).alloc (.cells #[.int .i64 0] 23)) hs
  rcases htb : textB s with _ | p
  · rw [htb] at htx
    dsimp only [textV] at htx
    gi_wp2_with (first
      | (refine ⟨trivial, ?_⟩; gi_at_call 29; refine (callsIn_wide.2 htx).mono ?_; rintro e W1 ⟨rfl, hb⟩)
      | (refine ⟨trivial, ?_⟩; gi_at_call 30; refine (callsIn_wide.2 (tokens_in _ _)).mono ?_; rintro e w' ⟨rfl, rfl⟩))
    obtain ⟨hl3, hsz, hbox, hI0⟩ := of_start hD (.string s) hb
    obtain ⟨b, hbq⟩ : ∃ b, W1.heap.size = b := ⟨_, rfl⟩
    obtain ⟨W0, hW0⟩ : ∃ W0, W1.alloc (.cells #[.string s] 9) = W0 := ⟨_, rfl⟩
    rw [hW0] at hsz hbox hI0 ⊢
    rw [hbq] at hl3 hsz hbox ⊢
    clear hW0 hbq hb htx W1
    obtain ⟨ht3, ht4⟩ := hT.lt
    have hT0 : Tabs W0 := hT.behind hI0.2.2.2.2 (by omega)
    refine wpIn_range_over (F := Fence.wide) rfl h1 (gf := 51) (lb := #[.pointer (some ⟨b, 0, none⟩)]) ?hg trivial (enters_of Tryd.func51 (by kernel_rfl) rfl)
      (tokens_stops (n - 1) b D (D + 3) (by omega) s hs htb W0 (by omega) hl3 hT0 (by omega) (by omega) hbox) (Below.refl _ _) (by omega) ?hps (OfI w D) (OfX w D) (ofI_own hD.symm (by omega)) (fun c => ofX_own hD.symm (by omega) c) hI0
      (fun x a' W' => ∃ B, W'.heap[B]? = some (.cells #[.int .i64 x.1.kind, .int .i32 x.1.sign, .int .i64 x.1.n, .int .i64 x.1.at_] 70) ∧ a' = { tmps := #[.string s, undef, .pointer (some ⟨D, 0, none⟩), .pointer (some ⟨D + 1, 0, none⟩), .pointer (some ⟨D + 1 + 1, 0, none⟩), .int .i64 (s.size : Int), .bool true, .pointer (some ⟨B, 0, none⟩), .bool x.2, .tuple #[.int .i64 0, .bool true], .string s, .tuple #[.int .i64 0, .bool true], .int .i64 0, .bool true, .bool true, .string s, .int .i64 (s.size : Int), .string s, .int .i64 (s.size : Int), .string s, .func (.func 51) #[] #[.pointer (some ⟨b, 0, none⟩)], .agg #[.int .i64 x.1.kind, .int .i32 x.1.sign, .int .i64 x.1.n, .int .i64 x.1.at_], .bool x.2, undef, undef, undef, undef, undef, undef, undef, undef, undef, undef, undef, undef], defers := [] }) ?hAx ?assign ?body ?done ?stop
    case hg => rfl
    case hps => exact fun _ => rfl
    case hAx => exact fun x a' _ X Y row ⟨B, h1, h2⟩ hg hr => ⟨B, own_cells h1 hg hr, h2⟩
    case assign =>
      intro l pre x W K hi hle hK
      simp only [encK]
      gi_wp2
      exact hK _ _ (KeepS.alloc (by omega) _) (own_below (ofI_own hD.symm (Nat.le_refl D)) hi ((Below.refl _ W).alloc (Nat.le_refl _) _)) ⟨W.heap.size, World.alloc_heap_new W _, rfl⟩
    case body =>
      rintro l pre x a' W ⟨⟨A, c, hbl, how⟩, hall, hba, hbe, hbw⟩ hle ⟨B, hB, rfl⟩ hlen
      have hd : 1 ≤ n - 1 - 1 := by omega
      have hmx : Tryd.prog.follows .mixedOrders = true := by kernel_rfl
      obtain ⟨c0, f0⟩ := box1 hbl
      obtain ⟨c1, f1⟩ := box1 hba
      obtain ⟨c2, f2⟩ := box1 hbe
      have n0 : B ≠ D := fun e => by subst e; have := hB.symm.trans hbl; simp at this
      have n1 : B ≠ D + 1 := fun e => by subst e; have := hB.symm.trans hba; simp at this
      have n2 : B ≠ D + 2 := fun e => by subst e; have := hB.symm.trans hbe; simp at this
      obtain ⟨⟨ka, kb, kc, kd⟩, kv⟩ := x
      dsimp only at hB ⊢
      have b0 : W.cell? ⟨B, 0, none⟩ = some (.int .i64 ka) := by simp [World.cell?, hB]
      have b1 : W.cell? ⟨B, 1, none⟩ = some (.int .i32 kb) := by simp [World.cell?, hB]
      have b2 : W.cell? ⟨B, 2, none⟩ = some (.int .i64 kc) := by simp [World.cell?, hB]
      have b3 : W.cell? ⟨B, 3, none⟩ = some (.int .i64 kd) := by simp [World.cell?, hB]
      cases kv
      · have hst := of_sets (v0 := .slice none 0 0) (v1 := .int .i64 kd) (v2 := .int .i64 1) hbl hba hbe hbw
        gi_wp2
        gi_region_with_o (fail)
        all_goals gi_wp2
        all_goals exact ⟨hst.2.2.2.1, rfl, ⟨pre, _, rfl, hall, rfl, hst.1, hst.2.1⟩, hst.2.2.1, hst.2.2.2.2⟩
      · have HI := Lib.hid hI0
        have HW := Lib.hid how
        have hWs : D + 3 ≤ W.heap.size := by omega
        have hpl : pre.length ≤ 600002 := by omega
        have how2 := owns_below how ((Below.refl _ W).alloc (Nat.le_refl _) (.cells #[.int .i64 ka, .int .i32 kb, .int .i64 kc, .int .i64 kd] 70))
        have hcell := tok_cells W ka kb kc kd 70 W.heap.size rfl
        obtain ⟨_, _, hnew⟩ := hcell
        obtain ⟨bb, off, hbo, _, hnew⟩ := hnew (by decide)
        cases hbo
        clear how hI0
        gi_wp2_with (gi_at_builtin; refine wpListIn_append_own _ rfl (.tmp 27) (.tmp 29) 34 rfl (D + 3) 70 i0 (.agg #[.int .i64 0, .int .i32 0, .int .i64 0, .int .i64 0]) 4 32 Tryd.underlying34 hi0 hz0 hz1 hz2 rfl (by decide) _ pre.length _ rfl how2 ⟨W.heap.size, 0, none⟩ 1 1 [.int .i64 ka, .int .i32 kb, .int .i64 kc, .int .i64 kd] rfl rfl (fun j u hu => by rw [Go.WideShapes.add_plain]; exact hnew j u hu) (tok_cell4 _ _ _ _) (by simp only [maxLen]; omega) (by omega) (by simp; omega) ?_; intro v' w1 hown' hgrow _; obtain ⟨g', cap', rfl⟩ := ownsRow_succ hown'; obtain ⟨ca, fa, hks, hoi⟩ := of_append (x := (⟨ka, kb, kc, kd⟩, true)) hbl HW.out hall hba hbe hbw rfl hWs hown' hgrow)
        exact ⟨hks, hoi⟩
    case done =>
      rintro D2 xs W hD2 rfl ⟨⟨A, c, hbl, how⟩, hall, hba, hbe, hbw⟩ hK
      obtain ⟨hr1, hr2⟩ := read_all htb hall
      obtain ⟨c0, f0⟩ := box1 hbl
      obtain ⟨c1, f1⟩ := box1 hba
      obtain ⟨c2, f2⟩ := box1 hbe
      gi_wp2
      obtain ⟨e0, e1, e2, e3, e4, e5⟩ := of_end (v0 := .slice A (toksP s (piecesB s)).length c) (v1 := .int .i64 0) (v2 := .int .i64 0) hbl hba hbe hK (by omega) hbw (by omega)
      refine ⟨by simp, .inl ⟨_, _, rfl, run_takeDeferred e0, ?_⟩⟩
      refine ⟨.tuple #[.slice A (toksP s (piecesB s)).length c, .int .i64 0, .int .i64 0], by simp [results, Tryd.results14, go_sem, e1, e2, e3], ?_⟩
      exact .inl ⟨_, A, _, c, hr1, rfl, ownsRow_rows encT_len (by decide) (e5 _ _ _ _ how), ⟨hr2, owns_cap (e5 _ _ _ _ how), owns_at (e5 _ _ _ _ how)⟩, hD ▸ e4⟩
    case stop =>
      rintro D2 c pre W hD2 hS ⟨rfl, ⟨pre', x, rfl, hall, hx, hbl, hba⟩, hbe, hbw⟩ hK
      obtain ⟨k, hk1, hk2, hk3⟩ := read_bad htb hS hall hx
      gi_wp2
      have e1 := put_box (o := .deferred none) hbl (show D ≠ D2 by omega)
      have e2 := put_box (o := .deferred none) hba (show D + 1 ≠ D2 by omega)
      have e3 : (W.putObj D2 (.deferred none)).cell? ⟨D + 1 + 1, 0, none⟩ = _ := put_box (o := .deferred none) hbe (show D + 2 ≠ D2 by omega)
      have e4 : Below D w (W.putObj D2 (.deferred none)) := hbw.grown (grownBy_putObj' W _ _) (by have := hbw.size; omega) (fun k e => by cases e; omega)
      rw [hk1] at e2
      refine ⟨by simp, .inl ⟨_, _, rfl, run_takeDeferred hK, ?_⟩⟩
      refine ⟨.tuple #[.slice none 0 0, .int .i64 (k : Int), .int .i64 1], by simp [results, Tryd.results14, go_sem, e1, e2, e3], ?_⟩
      exact .inr ⟨k, hk3, rfl, hk2, hD ▸ e4⟩
  · rw [htb] at htx
    dsimp only [textV] at htx
    obtain ⟨hp1, hp2, hp3⟩ := lex_part htb
    have hp4 : (p : Int) ≤ (s.size : Int) := by omega
    have hp5 : (s.extract 0 p).size ≤ 600000 := by rw [ByteArray.size_extract]; omega
    gi_wp2_with (first
      | (refine ⟨trivial, ?_⟩; gi_at_call 29; refine (callsIn_wide.2 htx).mono ?_; rintro e W1 ⟨rfl, hb⟩)
      | (refine ⟨trivial, ?_⟩; gi_at_call 30; refine (callsIn_wide.2 (tokens_in _ _)).mono ?_; rintro e w' ⟨rfl, rfl⟩))
    obtain ⟨hl3, hsz, hbox, hI0⟩ := of_start hD (.string (s.extract 0 p)) hb
    obtain ⟨b, hbq⟩ : ∃ b, W1.heap.size = b := ⟨_, rfl⟩
    obtain ⟨W0, hW0⟩ : ∃ W0, W1.alloc (.cells #[.string (s.extract 0 p)] 9) = W0 := ⟨_, rfl⟩
    rw [hW0] at hsz hbox hI0 ⊢
    rw [hbq] at hl3 hsz hbox ⊢
    clear hW0 hbq hb htx W1
    obtain ⟨ht3, ht4⟩ := hT.lt
    have hT0 : Tabs W0 := hT.behind hI0.2.2.2.2 (by omega)
    refine wpIn_range_over (F := Fence.wide) rfl h1 (gf := 51) (lb := #[.pointer (some ⟨b, 0, none⟩)]) ?hg trivial (enters_of Tryd.func51 (by kernel_rfl) rfl)
      (tokens_stops (n - 1) b D (D + 3) (by omega) (s.extract 0 p) hp5 hp2 W0 (by omega) hl3 hT0 (by omega) (by omega) hbox) (Below.refl _ _) (by omega) ?hps (OfI w D) (OfX w D) (ofI_own hD.symm (by omega)) (fun c => ofX_own hD.symm (by omega) c) hI0
      (fun x a' W' => ∃ B, W'.heap[B]? = some (.cells #[.int .i64 x.1.kind, .int .i32 x.1.sign, .int .i64 x.1.n, .int .i64 x.1.at_] 70) ∧ a' = { tmps := #[.string s, undef, .pointer (some ⟨D, 0, none⟩), .pointer (some ⟨D + 1, 0, none⟩), .pointer (some ⟨D + 1 + 1, 0, none⟩), .int .i64 (p : Int), .bool false, .pointer (some ⟨B, 0, none⟩), .bool x.2, .tuple #[.int .i64 (p : Int), .bool false], .string s, .tuple #[.int .i64 (p : Int), .bool false], .int .i64 (p : Int), .bool false, .bool false, undef, undef, .string s, .int .i64 (p : Int), .string (s.extract 0 p), .func (.func 51) #[] #[.pointer (some ⟨b, 0, none⟩)], .agg #[.int .i64 x.1.kind, .int .i32 x.1.sign, .int .i64 x.1.n, .int .i64 x.1.at_], .bool x.2, undef, undef, undef, undef, undef, undef, undef, undef, undef, undef, undef, undef], defers := [] }) ?hAx ?assign ?body ?done ?stop
    case hg => rfl
    case hps => exact fun _ => rfl
    case hAx => exact fun x a' _ X Y row ⟨B, h1, h2⟩ hg hr => ⟨B, own_cells h1 hg hr, h2⟩
    case assign =>
      intro l pre x W K hi hle hK
      simp only [encK]
      gi_wp2
      exact hK _ _ (KeepS.alloc (by omega) _) (own_below (ofI_own hD.symm (Nat.le_refl D)) hi ((Below.refl _ W).alloc (Nat.le_refl _) _)) ⟨W.heap.size, World.alloc_heap_new W _, rfl⟩
    case body =>
      rintro l pre x a' W ⟨⟨A, c, hbl, how⟩, hall, hba, hbe, hbw⟩ hle ⟨B, hB, rfl⟩ hlen
      have hd : 1 ≤ n - 1 - 1 := by omega
      have hmx : Tryd.prog.follows .mixedOrders = true := by kernel_rfl
      obtain ⟨c0, f0⟩ := box1 hbl
      obtain ⟨c1, f1⟩ := box1 hba
      obtain ⟨c2, f2⟩ := box1 hbe
      have n0 : B ≠ D := fun e => by subst e; have := hB.symm.trans hbl; simp at this
      have n1 : B ≠ D + 1 := fun e => by subst e; have := hB.symm.trans hba; simp at this
      have n2 : B ≠ D + 2 := fun e => by subst e; have := hB.symm.trans hbe; simp at this
      obtain ⟨⟨ka, kb, kc, kd⟩, kv⟩ := x
      dsimp only at hB ⊢
      have b0 : W.cell? ⟨B, 0, none⟩ = some (.int .i64 ka) := by simp [World.cell?, hB]
      have b1 : W.cell? ⟨B, 1, none⟩ = some (.int .i32 kb) := by simp [World.cell?, hB]
      have b2 : W.cell? ⟨B, 2, none⟩ = some (.int .i64 kc) := by simp [World.cell?, hB]
      have b3 : W.cell? ⟨B, 3, none⟩ = some (.int .i64 kd) := by simp [World.cell?, hB]
      cases kv
      · have hst := of_sets (v0 := .slice none 0 0) (v1 := .int .i64 kd) (v2 := .int .i64 1) hbl hba hbe hbw
        gi_wp2
        gi_region_with_o (fail)
        all_goals gi_wp2
        all_goals exact ⟨hst.2.2.2.1, rfl, ⟨pre, _, rfl, hall, rfl, hst.1, hst.2.1⟩, hst.2.2.1, hst.2.2.2.2⟩
      · have HI := Lib.hid hI0
        have HW := Lib.hid how
        have hWs : D + 3 ≤ W.heap.size := by omega
        have hpl : pre.length ≤ 600002 := by omega
        have how2 := owns_below how ((Below.refl _ W).alloc (Nat.le_refl _) (.cells #[.int .i64 ka, .int .i32 kb, .int .i64 kc, .int .i64 kd] 70))
        have hcell := tok_cells W ka kb kc kd 70 W.heap.size rfl
        obtain ⟨_, _, hnew⟩ := hcell
        obtain ⟨bb, off, hbo, _, hnew⟩ := hnew (by decide)
        cases hbo
        clear how hI0
        gi_wp2_with (gi_at_builtin; refine wpListIn_append_own _ rfl (.tmp 27) (.tmp 29) 34 rfl (D + 3) 70 i0 (.agg #[.int .i64 0, .int .i32 0, .int .i64 0, .int .i64 0]) 4 32 Tryd.underlying34 hi0 hz0 hz1 hz2 rfl (by decide) _ pre.length _ rfl how2 ⟨W.heap.size, 0, none⟩ 1 1 [.int .i64 ka, .int .i32 kb, .int .i64 kc, .int .i64 kd] rfl rfl (fun j u hu => by rw [Go.WideShapes.add_plain]; exact hnew j u hu) (tok_cell4 _ _ _ _) (by simp only [maxLen]; omega) (by omega) (by simp; omega) ?_; intro v' w1 hown' hgrow _; obtain ⟨g', cap', rfl⟩ := ownsRow_succ hown'; obtain ⟨ca, fa, hks, hoi⟩ := of_append (x := (⟨ka, kb, kc, kd⟩, true)) hbl HW.out hall hba hbe hbw rfl hWs hown' hgrow)
        exact ⟨hks, hoi⟩
    case done =>
      rintro D2 xs W hD2 rfl ⟨⟨A, c, hbl, how⟩, hall, hba, hbe, hbw⟩ hK
      obtain ⟨hr1, hr2⟩ := read_all hp2 hall
      obtain ⟨c0, f0⟩ := box1 hbl
      obtain ⟨c1, f1⟩ := box1 hba
      obtain ⟨c2, f2⟩ := box1 hbe
      gi_wp2
      obtain ⟨e0, e1, e2, e3, e4, e5⟩ := of_end (v0 := .slice none 0 0) (v1 := .int .i64 (p : Int)) (v2 := .int .i64 1) hbl hba hbe hK (by omega) hbw (by omega)
      refine ⟨by simp, .inl ⟨_, _, rfl, run_takeDeferred e0, ?_⟩⟩
      refine ⟨.tuple #[.slice none 0 0, .int .i64 (p : Int), .int .i64 1], by simp [results, Tryd.results14, go_sem, e1, e2, e3], ?_⟩
      exact .inr ⟨p, by rw [hp3, hr1]; rfl, rfl, hp1, hD ▸ e4⟩
    case stop =>
      rintro D2 c pre W hD2 hS ⟨rfl, ⟨pre', x, rfl, hall, hx, hbl, hba⟩, hbe, hbw⟩ hK
      obtain ⟨k, hk1, hk2, hk3⟩ := read_bad hp2 hS hall hx
      gi_wp2
      have e1 := put_box (o := .deferred none) hbl (show D ≠ D2 by omega)
      have e2 := put_box (o := .deferred none) hba (show D + 1 ≠ D2 by omega)
      have e3 : (W.putObj D2 (.deferred none)).cell? ⟨D + 1 + 1, 0, none⟩ = _ := put_box (o := .deferred none) hbe (show D + 2 ≠ D2 by omega)
      have e4 : Below D w (W.putObj D2 (.deferred none)) := hbw.grown (grownBy_putObj' W _ _) (by have := hbw.size; omega) (fun k e => by cases e; omega)
      rw [hk1] at e2
      refine ⟨by simp, .inl ⟨_, _, rfl, run_takeDeferred hK, ?_⟩⟩
      refine ⟨.tuple #[.slice none 0 0, .int .i64 (k : Int), .int .i64 1], by simp [results, Tryd.results14, go_sem, e1, e2, e3], ?_⟩
      exact .inr ⟨k, by rw [hp3, hk3]; rfl, rfl, by rw [ByteArray.size_extract] at hk2; omega, hD ▸ e4⟩
theorem lexof_any (s : ByteArray) (w : World) (hT : Tabs w) (hs : s.size ≤ 600000) : Calls Tryd.prog 14 #[.string s] w (LexPost w s) := (callsIn_wide (n := 6)).1 (lexof_in 6 (by omega) s w hs hT)
end Go.Proofs.YtechccoongilcaaDoor
