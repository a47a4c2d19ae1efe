import Derived.RangeFuncNested
import Derived.RangeFuncBound
/- A range over an iterator that ranges over another iterator itself: what the rounds owe it, and what the loop gives. Nothing of the program stands here. -/
namespace Go.Proofs.YtnipifccalalhaaDoor
open Go.RowKit
set_option linter.unusedVariables false
set_option linter.unusedSimpArgs false
/-- a block of one cell. -/
def oneCell : Obj → Bool
  | .cells vs _ _ => vs.size == 1
  | _ => false
/-- what a round that goes on keeps: all that lay below n₀; whatever is no cells; the blocks of one cell from n₁ on. -/
def KeepS (n₀ n₁ : Nat) (W W' : World) : Prop := Below n₀ W W' ∧ ∀ (k : Nat) (o : Obj), W.heap[k]? = some o → (o.isCells = false ∨ (n₁ ≤ k ∧ oneCell o = true)) → W'.heap[k]? = some o
theorem KeepS.refl (n₀ n₁ : Nat) (W : World) : KeepS n₀ n₁ W W := ⟨Below.refl _ _, fun _ _ h _ => h⟩
theorem KeepS.trans {n₀ n₁ : Nat} {A B C : World} (h : KeepS n₀ n₁ A B) (k : KeepS n₀ n₁ B C) : KeepS n₀ n₁ A C := ⟨h.1.trans k.1, fun i o hi ho => k.2 i o (h.2 i o hi ho) ho⟩
theorem KeepS.from {n₀ n₁ B : Nat} {W W' : World} (h : KeepS n₀ n₁ W W') : KeepsFrom B W W' := ⟨h.1.size, fun k o _ hk ho => h.2 k o hk (.inl ho)⟩
theorem KeepS.alloc {n₀ n₁ : Nat} {W : World} (hn : n₀ ≤ W.heap.size) (o : Obj) : KeepS n₀ n₁ W (W.alloc o) :=
  ⟨(Below.refl n₀ W).alloc hn o, fun k o' hk _ => (Below.heap_alloc W o k (Array.getElem?_eq_some_iff.1 hk).1).trans hk⟩
theorem KeepS.drew {n₀ n₁ : Nat} (W : World) : KeepS n₀ n₁ W W.drew := ⟨(Below.refl n₀ W).drew, fun _ _ h _ => h⟩
theorem KeepS.below {n₀ n₁ : Nat} {W W' : World} (hn : n₀ ≤ W.heap.size) (h : Below W.heap.size W W') : KeepS n₀ n₁ W W' :=
  ⟨h.mono hn, fun k o hk _ => (h.block k (Array.getElem?_eq_some_iff.1 hk).1).trans hk⟩
/-- a step that turns one block: cells that lie from n₀ on, and are many or lie below n₁. -/
theorem KeepS.grown {n₀ n₁ : Nat} {W W' : World} {row : Option Nat} (hg : W.grownBy W' row) (hn : n₀ ≤ W.heap.size)
    (hr : ∀ r, row = some r → n₀ ≤ r ∧ ∀ o, W.heap[r]? = some o → o.isCells = true ∧ (r < n₁ ∨ oneCell o = false)) : KeepS n₀ n₁ W W' :=
  ⟨(Below.refl n₀ W).grown hg hn (fun k e => (hr k e).1), fun k o hk ho => by
    refine (hg.block k (Array.getElem?_eq_some_iff.1 hk).1 (fun e => ?_)).trans hk
    obtain ⟨_, h2⟩ := hr k e.symm
    obtain ⟨c1, c2⟩ := h2 o hk
    rcases ho with ho | ⟨h3, h4⟩
    · rw [c1] at ho; exact absurd ho (by simp)
    · rcases c2 with c2 | c2
      · omega
      · rw [c2] at h4; exact absurd h4 (by simp)⟩
/-- the contract of such an iterator. -/
def StopsO {α : Type} (F : Fence) (n : Nat) (P : Program) (g : Nat) (lb : Array Value) (encs : α → Array Value) (n₀ n₁ : Nat) (S Sp : List α → Prop) (N : Nat) (w : World) : Prop :=
  ∀ (l : Nat) (J Jx : List α → World → Prop) (W : World), Below w.heap.size w W → l < W.heap.size → OwnFrom W.heap.size J → OwnFrom W.heap.size Jx →
    (∀ pre x W1, J pre W1 → pre.length < N → YieldAt F (n - 1) P l (encs x) W1 fun e W' =>
      (e = .returned (.bool true) ∧ J (pre ++ [x]) W' ∧ KeepS n₀ n₁ W1 W') ∨ (e = .returned (.bool false) ∧ Jx (pre ++ [x]) W' ∧ KeepsFrom (l + 1) W1 W')) →
    J [] W →
    CallsIn F n P g (#[.func (.yield l) #[] #[]] ++ lb) W fun e W' => (∃ v, e = .returned v) ∧ ((∃ xs, S xs ∧ J xs W') ∨ (∃ pre, Sp pre ∧ Jx pre W'))
/-- how the body of a round may be left. -/
def overPost {α : Type} (B n₀ n₁ : Nat) (I : List α → World → Prop) (Ix : Code → List α → World → Prop) (xs : List α) (W : World) : Exit → Act → World → Prop
  | .normal, _, W' => KeepS n₀ n₁ W W' ∧ I xs W'
  | .ret, _, W' => KeepsFrom B W W' ∧ Ix .ret xs W'
  | .exit id, _, W' => KeepsFrom B W W' ∧ Ix (.exit id) xs W'
  | .goto t, _, W' => KeepsFrom B W W' ∧ Ix (.goto t) xs W'
  | .panic _, _, _ => False
  | .outgrown, _, _ => False
theorem OwnFrom.up {β : Type} {B B' : Nat} {I : β → World → Prop} (h : OwnFrom B I) (hB : B ≤ B') : OwnFrom B' I :=
  fun s W W' row hs hg hr => h s W W' row hs hg (fun r e => ⟨Nat.le_trans hB (hr r e).1, (hr r e).2⟩)
/-- a block that lies below B lies on. -/
theorem ownFrom_block {β : Type} {B k : Nat} (hk : k < B) (o : Obj) : OwnFrom B (fun (_ : β) W => W.heap[k]? = some o) := fun _ X Y row hs hg hr =>
  (hg.block k (Array.getElem?_eq_some_iff.1 hs).1 (fun e => by have := (hr k e.symm).1; omega)).trans hs
variable {F : Fence} {n : Nat} {P : Program}
theorem wpIn_range_over {α : Type} {g : Operand} {ps : Array Tmp} {assign body : Code} {Q : Exit → Act → World → Prop} {a : Act} {w : World}
    (hro : F.round = none) (h1 : 1 ≤ n) {gf : Nat} {lb : Array Value} (hg : a.eval g = .func (.func gf) #[] lb) (hFg : F.fn gf) (eg : ∀ args w, (callFunc gf args).run P w = .ok (.enter gf args) w)
    {encs : α → Array Value} {n₀ n₁ : Nat} {S Sp : List α → Prop} {N : Nat} {w0 : World} (hseq : StopsO F (n - 1) P gf lb encs n₀ n₁ S Sp N w0) (hb0 : Below w0.heap.size w0 w) (hn : n₀ ≤ w.heap.size) (hps : ∀ x, (encs x).size = ps.size)
    (I : List α → World → Prop) (Ix : Code → List α → World → Prop) (hI : OwnFrom w.heap.size I) (hIx : ∀ c, OwnFrom w.heap.size (Ix c)) (h0 : I [] w) (Ax : α → Act → World → Prop) (hAx : ∀ x a', OwnFrom w.heap.size (fun (_ : Unit) W => Ax x a' W))
    (hassign : ∀ (l : Nat) (pre : List α) (x : α) (W : World) (K : Act → World → Prop), I pre W → w.heap.size ≤ W.heap.size → (∀ a' W', KeepS n₀ n₁ W W' → I pre W' → Ax x a' W' → K a' W') →
      assign.wpIn (F.inRound l) (n - 1 - 1) P (Exit.then K (fun _ _ _ => False)) { tmps := (ps.zip (encs x)).foldl (fun t (p, v) => t.setIfInBounds p v) a.tmps, defers := [] } W)
    (hbody : ∀ (l : Nat) (pre : List α) (x : α) (a' : Act) (W : World), I pre W → w.heap.size ≤ W.heap.size → Ax x a' W → pre.length < N → body.wpIn (F.inRound l) (n - 1 - 1) P (overPost w.heap.size n₀ n₁ I Ix (pre ++ [x]) W) a' W)
    (hdone : ∀ (D : Nat) (xs : List α) (W : World), w.heap.size ≤ D → S xs → I xs W → W.heap[D]? = some (.deferred (some [])) → Q .normal { a with defers := { target := .collected D, args := #[] } :: a.defers } W)
    (hstop : ∀ (D : Nat) (c : Code) (pre : List α) (W : World), w.heap.size ≤ D → Sp pre → Ix c pre W → W.heap[D]? = some (.deferred (some [])) → c.wpIn F n P Q { a with defers := { target := .collected D, args := #[] } :: a.defers } W) :
    (Code.rangeFunc g ps assign body).wpIn F n P Q a w := by
  refine wpIn_rangeFunc ?_
  intro fn hfn
  rw [hro]
  obtain ⟨D, hD⟩ : ∃ D, w.heap.size = D := ⟨_, rfl⟩
  obtain ⟨rec, hrec⟩ : ∃ rec : LoopState → Option Code → Loop, rec = fun st pe => { state := st, pending := pe, fn, tmps := a.tmps, params := ps, assign, body, defers := w.heap.size } := ⟨_, rfl⟩
  obtain ⟨W1, hW1⟩ : ∃ W1, (w.alloc (.deferred (some []))).alloc (.loop (rec .ready none)) = W1 := ⟨_, rfl⟩
  have hs1 : W1.heap.size = D + 2 := by rw [← hW1]; simp; omega
  have hrdy : W1.heap[D + 1]? = some (.loop (rec .ready none)) := by
    rw [← hW1, ← hD]; have := World.alloc_heap_new (w.alloc (.deferred (some []))) (.loop (rec .ready none)); rwa [World.size_alloc] at this
  have hdef : W1.heap[D]? = some (.deferred (some [])) := by
    rw [← hW1, ← hD]; exact (Below.heap_alloc _ _ _ (by simp)).trans (World.alloc_heap_new w _)
  have hI1 : I [] W1 := by rw [← hW1]; exact hI.alloc _ (hI.alloc _ h0)
  have hb1 : Below w0.heap.size w0 W1 := by
    rw [← hW1]; exact hb0.trans ((((Below.refl _ w).alloc (Nat.le_refl _) _).alloc (by simp) _).mono hb0.size)
  refine ⟨D + 1, [{ target := .collected D, args := #[] }], W1, { target := .fn (.func gf) lb, args := #[.func (.yield (D + 1)) #[] #[]] }, W1, gf,
    #[.func (.yield (D + 1)) #[] #[]] ++ lb, W1, ?_, ?_, ?_, ?_, fun _ => h1, ?_⟩
  · rw [← hW1, hrec, ← hD]; exact run_enterLoop_outer _ _ _ _ _
  · simp only [resolve, hg]
    simp [go_sem]
  · intro f' hf'; simp [Target.leads] at hf'; subst hf'; exact hFg
  · simp [invoke, go_sem, eg]
  · rw [hD] at hI hIx hAx hn hassign hbody hdone hstop
    refine (hseq (D + 1)
      (fun pre W => I pre W ∧ (W.heap[D + 1]? = some (.loop (rec .ready none)) ∧ W.heap[D]? = some (.deferred (some []))))
      (fun pre W => ∃ c, Ix c pre W ∧ (W.heap[D + 1]? = some (.loop (rec .done (some c))) ∧ W.heap[D]? = some (.deferred (some []))))
      W1 hb1 (by omega)
      ((OwnFrom.up hI (by omega)).and ((ownFrom_block (by omega) _).and (ownFrom_block (by omega) _)))
      (fun s A B row hs hg' hr => by
        obtain ⟨c, hc, hl⟩ := hs
        exact ⟨c, (OwnFrom.up (hIx c) (by omega)) s A B row hc hg' hr, ((ownFrom_block (B := W1.heap.size) (by omega) _).and (ownFrom_block (by omega) _)) () A B row hl hg' hr⟩)
      ?_ ⟨hI1, hrdy, hdef⟩).mono ?_
    · rintro pre x W ⟨hi, hl, hk⟩ hlen
      have hy := run_yield (P := P) (args := encs x) hl (by rw [hrec]; exact hps x)
      rw [hrec] at hy
      have hlt : D + 1 < W.heap.size := (Array.getElem?_eq_some_iff.1 hl).1
      refine ⟨fn, _, assign, body, hy, roundIn_of_wpIn hfn (hassign _ pre x W _ hi (by omega) ?_)⟩
      intro a' Wa hka hia hax
      have hla := hka.2 _ _ hl (.inl rfl)
      have hda := hka.2 _ _ hk (.inl rfl)
      have hlta : D + 1 < Wa.heap.size := (Array.getElem?_eq_some_iff.1 hla).1
      refine ⟨_, run_beginRound hla (by rw [hrec]), ?_⟩
      obtain ⟨Wb, hWb⟩ : ∃ Wb, Wa.putObj (D + 1) (.loop { rec .ready none with state := .busy }) = Wb := ⟨_, rfl⟩
      have hlb : Wb.heap[D + 1]? = some (.loop { rec .ready none with state := .busy }) := by rw [← hWb]; exact World.putObj_heap_same hlta
      have hdb : Wb.heap[D]? = some (.deferred (some [])) := by rw [← hWb]; exact (World.putObj_heap_other (by omega)).trans hda
      have hib : I pre Wb := by rw [← hWb]; exact hI.putObj _ hia (by omega) hla rfl
      have hab : Ax x a' Wb := by rw [← hWb]; exact (hAx x a').putObj (s := ()) _ hax (by omega) hla rfl
      have hob : ∀ k, k ≠ D + 1 → Wb.heap[k]? = Wa.heap[k]? := fun k hne => by rw [← hWb]; exact World.putObj_heap_other hne
      have hbb : Below n₀ Wa Wb := by rw [← hWb]; exact (Below.refl n₀ Wa).grown (grownBy_putObj' Wa _ _) (by omega) (fun k e => by cases e; omega)
      have hsb : D ≤ Wb.heap.size := by have := hbb.size; omega
      rw [hWb]
      refine wpIn_mono (hbody _ pre x a' Wb hib hsb hab hlen) ?_
      have fin : ∀ (jump : Option Code) (W3 : World), KeepsFrom D Wb W3 →
          (Instr.endRound (D + 1) jump).run P W3 = .ok (.bool jump.isNone) (W3.putObj (D + 1) (.loop (rec (if jump.isNone then .ready else .done) jump))) ∧
          W3.heap[D + 1]? = some (.loop { rec .ready none with state := .busy }) ∧
          (W3.putObj (D + 1) (.loop (rec (if jump.isNone then .ready else .done) jump))).heap[D + 1]? = some (.loop (rec (if jump.isNone then .ready else .done) jump)) ∧
          (W3.putObj (D + 1) (.loop (rec (if jump.isNone then .ready else .done) jump))).heap[D]? = some (.deferred (some [])) := fun jump W3 hk3 => by
        have hl3 := hk3.same _ _ (by omega) hlb rfl
        have := run_endRound (P := P) jump hl3
        rw [hrec] at this ⊢
        exact ⟨this, by rw [hrec] at hl3; exact hl3, World.putObj_heap_same (Array.getElem?_eq_some_iff.1 hl3).1, (World.putObj_heap_other (by omega)).trans (hk3.same _ _ (by omega) hdb rfl)⟩
      have leave : ∀ (c : Code) (W3 : World), KeepsFrom D Wb W3 → Ix c (pre ++ [x]) W3 →
          ∃ bk W4, (Instr.endRound (D + 1) (some c)).run P W3 = .ok bk W4 ∧ ((Ending.returned bk = .returned (.bool true) ∧ (I (pre ++ [x]) W4 ∧ (W4.heap[D + 1]? = some (.loop (rec .ready none)) ∧ W4.heap[D]? = some (.deferred (some [])))) ∧ KeepS n₀ n₁ W W4) ∨
            (Ending.returned bk = .returned (.bool false) ∧ (∃ c, Ix c (pre ++ [x]) W4 ∧ (W4.heap[D + 1]? = some (.loop (rec .done (some c))) ∧ W4.heap[D]? = some (.deferred (some [])))) ∧ KeepsFrom (D + 1 + 1) W W4)) := fun c W3 hk3 hx3 => by
        obtain ⟨hr, hl3, hl4, hk4⟩ := fin (some c) W3 hk3
        refine ⟨_, _, hr, .inr ⟨rfl, ⟨c, (hIx c).putObj _ hx3 (by omega) hl3 rfl, hl4, hk4⟩, ?_⟩⟩
        refine ⟨by have := hka.1.size; have := hbb.size; have := hk3.size; simp; omega, fun k o hB hk ho => ?_⟩
        have q1 := hka.2 k o hk (.inl ho)
        have q2 := (hob k (by omega)).trans q1
        exact (World.putObj_heap_other (by omega)).trans (hk3.same k o (by omega) q2 ho)
      rintro e a3 W3 hp
      cases e with
      | normal =>
        obtain ⟨hk3, hi3⟩ := hp
        obtain ⟨hr, hl3, hl4, hk4⟩ := fin none W3 hk3.from
        refine ⟨_, _, hr, .inl ⟨rfl, ⟨hI.putObj _ hi3 (by omega) hl3 rfl, hl4, hk4⟩, ?_⟩⟩
        have hb4 : Below n₀ W3 (W3.putObj (D + 1) (.loop (rec .ready none))) := (Below.refl n₀ W3).grown (grownBy_putObj' W3 _ _) (by have := hk3.1.size; omega) (fun k e => by cases e; omega)
        refine ⟨((hka.1.trans hbb).trans hk3.1).trans hb4, fun k o hk ho => ?_⟩
        by_cases hne : k = D + 1
        · subst hne
          rw [hl] at hk
          cases hk
          exact hl4
        · have q1 := hka.2 k o hk ho
          have q2 := (hob k hne).trans q1
          exact (World.putObj_heap_other hne).trans (hk3.2 k o q2 ho)
      | ret => exact leave .ret W3 hp.1 hp.2
      | exit id => exact leave (.exit id) W3 hp.1 hp.2
      | goto t => exact leave (.goto t) W3 hp.1 hp.2
      | panic ch => exact hp.elim
      | outgrown => exact hp.elim
    · rintro e W2 ⟨⟨v, rfl⟩, (⟨xs, hS, hi, hl, hk⟩ | ⟨pre, hSp, c, hi, hl, hk⟩)⟩
      · exact ⟨none, _, by have := run_endLoop (P := P) hl (by rw [hrec]; simp); rw [hrec] at this; exact this, hdone _ xs _ (Nat.le_refl _) hS (hI.putObj _ hi (by omega) hl rfl) ((World.putObj_heap_other (by omega)).trans hk)⟩
      · exact ⟨some c, _, by have := run_endLoop (P := P) hl (by rw [hrec]; simp); rw [hrec] at this; exact this, hstop _ c pre _ (Nat.le_refl _) hSp ((hIx c).putObj _ hi (by omega) hl rfl) ((World.putObj_heap_other (by omega)).trans hk)⟩
end Go.Proofs.YtnipifccalalhaaDoor
