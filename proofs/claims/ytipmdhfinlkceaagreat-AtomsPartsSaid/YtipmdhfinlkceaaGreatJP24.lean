import Derived.Test.YtipmdhfinlkceaaGreatJP02
import Derived.Test.YtipmdhfinlkceaaGreatJP19
import Derived.Test.YtipmdhfinlkceaaGreatJP10
import Derived.Test.YtipmdhfinlkceaaGreatJP03
import Derived.Test.YtipmdhfinlkceaaGreatJP01
import Derived.Maps.Range
import Derived.Deep.RegionHeld3
import Derived.Maps.AppendAt
import Derived.BigRegion
import Derived.Test.YtipmdhfinlkceaaGreatJP22
import Derived.Test.YtipmdhfinlkceaaGreatJP23
import Derived.Test.YtipmdhfinlkceaaGreatJP17
import Derived.Lib.SliceRun
import Derived.Test.YtipmdhfinlkceaaGreatJP00
/- FlowSt, FlowWk, LinesFns, LinesLine, LinesTop, PlacePlaced, ValidRefChk, ValidStep, FlowGal, FlowPut, FlowRefM, LinesText, PlaceClone, PlacePutP, FlowCases, FlowEx. -/
set_option linter.unusedVariables false
set_option linter.unusedSimpArgs false
namespace Go.Proofs.YtipmdhfinlkceaaGreat
open Go.RowKit
def gsV (s : Gs) (A : Option Addr) (n c : Nat) (A2 : Option Addr) (m c2 : Nat) : List Value := [.slice A n c, .slice A2 m c2, .int .i64 0, .int .i64 s.pen.1, .int .i64 s.pen.2]
structure GsIn (B : Nat) (W : World) (s : Gs) (A : Option Addr) (n c : Nat) (A2 : Option Addr) (m c2 : Nat) : Prop where
  ams : W.ownsRow B 32 8 (.slice A n c) n (s.ams.flatMap encAm)
  fls : W.ownsRow B 67 7 (.slice A2 m c2) m (s.fls.flatMap encFl)
  apart : Apart A n c A2 m c2
  na : s.ams.length = n
  nf : s.fls.length = m
theorem GsIn.on {B : Nat} {W W' : World} {s : Gs} {A A2 : Option Addr} {n c m c2 : Nat} (h : GsIn B W s A n c A2 m c2) (ho : Below W.heap.size W W') : GsIn B W' s A n c A2 m c2 := ⟨owns_below h.ams ho, owns_below h.fls ho, h.apart, h.na, h.nf⟩
def NewRow (K : Nat) (v v' : Value) : Prop := v'.ownBlock = v.ownBlock ∨ ∀ r, v'.ownBlock = some r → K ≤ r
theorem NewRow.refl (K : Nat) (v : Value) : NewRow K v v := .inl rfl
def GsOut (B : Nat) (w : World) (s : Gs) (A : Option Addr) (n c : Nat) (A2 : Option Addr) (m c2 : Nat) (e : Ending) (w' : World) : Prop :=
  ∃ A' n' c' A2' m' c2', e = .returned (.agg #[.slice A' n' c', .slice A2' m' c2', .int .i64 0, .int .i64 s.pen.1, .int .i64 s.pen.2]) ∧ GsIn B w' s A' n' c' A2' m' c2' ∧ w.grownBy w' (Value.slice A n c).ownBlock ∧ NewRow w.heap.size (.slice A n c) (.slice A' n' c') ∧ NewRow w.heap.size (.slice A2 m c2) (.slice A2' m' c2')
theorem gs_of {w : World} {k : Nat} {s : Gs} {A A2 : Option Addr} {n c m c2 : Nat} (hX : Box w k (gsV s A n c A2 m c2)) : (w.cell? ⟨k, 0, none⟩ = some (.slice A n c) ∧ w.cell? ⟨k, 1, none⟩ = some (.slice A2 m c2) ∧ w.cell? ⟨k, 2, none⟩ = some (.int .i64 0) ∧ w.cell? ⟨k, 3, none⟩ = some (.int .i64 s.pen.1) ∧ w.cell? ⟨k, 4, none⟩ = some (.int .i64 s.pen.2)) ∧
    (w.frozen? ⟨k, 0, none⟩ = false ∧ w.frozen? ⟨k, 1, none⟩ = false ∧ w.frozen? ⟨k, 2, none⟩ = false ∧ w.frozen? ⟨k, 3, none⟩ = false ∧ w.frozen? ⟨k, 4, none⟩ = false) ∧ k < w.heap.size :=
  ⟨⟨hX.2.2 0 _ rfl, hX.2.2 1 _ rfl, hX.2.2 2 _ rfl, hX.2.2 3 _ rfl, hX.2.2 4 _ rfl⟩, ⟨hX.2.1 _, hX.2.1 _, hX.2.1 _, hX.2.1 _, hX.2.1 _⟩, hX.1⟩
theorem nd_of {w : World} {k : Nat} {m : NdM} (hX : Box w k (encM m)) : (w.cell? ⟨k, 0, none⟩ = some (.int .i64 m.kind) ∧ w.cell? ⟨k, 1, none⟩ = some (.int .i64 m.size) ∧ w.cell? ⟨k, 2, none⟩ = some (.int .i64 m.sty.top) ∧ w.cell? ⟨k, 3, none⟩ = some (.int .i64 m.sty.bottom) ∧ w.cell? ⟨k, 4, none⟩ = some (.int .i64 m.sty.padTop) ∧ w.cell? ⟨k, 5, none⟩ = some (.int .i64 m.sty.padBottom) ∧ w.cell? ⟨k, 13, none⟩ = some (.int .i64 m.sty.clear)) ∧
    (w.cell? ⟨k, 14, none⟩ = some (.int .i64 m.line) ∧ w.cell? ⟨k, 15, none⟩ = some (.int .i64 m.space) ∧ w.cell? ⟨k, 16, none⟩ = some (.slice m.A m.n m.c) ∧ w.cell? ⟨k, 17, none⟩ = some (.int .i64 m.side) ∧ w.cell? ⟨k, 18, none⟩ = some (.int .i64 m.w) ∧ w.cell? ⟨k, 19, none⟩ = some (.int .i64 m.h)) ∧ k < w.heap.size :=
  ⟨⟨hX.2.2 0 _ rfl, hX.2.2 1 _ rfl, hX.2.2 2 _ rfl, hX.2.2 3 _ rfl, hX.2.2 4 _ rfl, hX.2.2 5 _ rfl, hX.2.2 13 _ rfl⟩, ⟨hX.2.2 14 _ rfl, hX.2.2 15 _ rfl, hX.2.2 16 _ rfl, hX.2.2 17 _ rfl, hX.2.2 18 _ rfl, hX.2.2 19 _ rfl⟩, hX.1⟩
theorem nd_see {w W : World} {k : Nat} {m : NdM} {x : Nd} (hs : Shows w m x) (hX : Box W k (encM m)) : (W.cell? ⟨k, 0, none⟩ = some (.int .i64 x.kind) ∧ W.cell? ⟨k, 1, none⟩ = some (.int .i64 x.size) ∧ W.cell? ⟨k, 2, none⟩ = some (.int .i64 x.sty.top) ∧ W.cell? ⟨k, 3, none⟩ = some (.int .i64 x.sty.bottom) ∧ W.cell? ⟨k, 4, none⟩ = some (.int .i64 x.sty.padTop) ∧ W.cell? ⟨k, 5, none⟩ = some (.int .i64 x.sty.padBottom) ∧ W.cell? ⟨k, 13, none⟩ = some (.int .i64 x.sty.clear)) ∧
    (W.cell? ⟨k, 14, none⟩ = some (.int .i64 x.line) ∧ W.cell? ⟨k, 15, none⟩ = some (.int .i64 x.space) ∧ W.cell? ⟨k, 16, none⟩ = some (.slice m.A m.n m.c) ∧ W.cell? ⟨k, 17, none⟩ = some (.int .i64 x.side) ∧ W.cell? ⟨k, 18, none⟩ = some (.int .i64 x.w) ∧ W.cell? ⟨k, 19, none⟩ = some (.int .i64 x.h)) ∧ k < W.heap.size := by
  obtain ⟨⟨h1, h2, h3, h4, h5, h6, h7, h8⟩, _⟩ := hs
  have := nd_of hX
  rw [← h1, ← h2, ← h3, ← h4, ← h5, ← h6, ← h7, ← h8] at this
  exact this
theorem encM_alls (m : NdM) : (encM m).toArray.all (·.oneCell') = true := by
  rw [Array.all_eq_true_iff_forall_mem]
  intro u hu
  exact encM_one m u (by simpa using hu)
def zero14 : List Value := [.slice none 0 0, .slice none 0 0, .int .i64 0, .int .i64 0, .int .i64 0]
def Away (K Z : Nat) (v : Value) : Prop := ∀ r, v.ownBlock = some r → r < K ∨ Z ≤ r
theorem Away.ne {K Z k : Nat} {v : Value} (h : Away K Z v) (h1 : K ≤ k) (h2 : k < Z) : ∀ r, v.ownBlock = some r → r ≠ k := fun r e => by have := h r e; omega
theorem owns_far {w w' : World} {base : Nat} {e : TypeId} {size : Nat} {v : Value} {n : Nat} {xs : List Value} {row : Option Nat} (h : w.ownsRow base e size v n xs) (hg : w.grownBy w' row) (hr : ∀ r, v.ownBlock = some r → row ≠ some r) : w'.ownsRow base e size v n xs := by
  refine ⟨h.1, ?_⟩
  rcases h.2 with h2 | ⟨g, cap, cur, h1, h2, h3, h4⟩
  · exact .inl h2
  · exact .inr ⟨g, cap, cur, h1, h2, (hg.block g (Array.getElem?_eq_some_iff.1 h3).1 (fun e => by have := hr g (by rw [h1]; rfl); rw [← e] at this; exact this rfl)).trans h3, h4⟩
structure St14 (B : Nat) (w : World) (Z Q : Nat) (m0 : NdM) (a b : Int) (r0 r2 : Option Nat) (W : World) (s : Gs) (A : Option Addr) (n c : Nat) (A2 : Option Addr) (m c2 : Nat) : Prop where
  box : Box W w.heap.size (gsV s A n c A2 m c2)
  res : Box W (w.heap.size + 1) zero14
  nd : Box W (w.heap.size + 1 + 1) (encM m0)
  sp : Box W Q [.int .i64 a, .int .i64 b]
  gs : GsIn B W s A n c A2 m c2
  fa : Away w.heap.size Z (.slice A n c)
  ff : Away w.heap.size Z (.slice A2 m c2)
  gr : w.grownBy W r0
  nw : (Value.slice A n c).ownBlock = r0 ∨ ∀ r, (Value.slice A n c).ownBlock = some r → Z ≤ r
  nf : (Value.slice A2 m c2).ownBlock = r2 ∨ ∀ r, (Value.slice A2 m c2).ownBlock = some r → Z ≤ r
  zs : Z ≤ W.heap.size
  q0 : w.heap.size + 1 + 1 < Q
  qz : Q < Z
section
variable {B : Nat} {w : World} {Z Q : Nat} {m0 : NdM} {a b : Int} {r0 r2 : Option Nat} {W W' : World} {s : Gs} {A A2 : Option Addr} {n c m c2 : Nat}
theorem St14.on (h : St14 B w Z Q m0 a b r0 r2 W s A n c A2 m c2) (ho : Below W.heap.size W W') : St14 B w Z Q m0 a b r0 r2 W' s A n c A2 m c2 :=
  ⟨h.box.below ho, h.res.below ho, h.nd.below ho, h.sp.below ho, h.gs.on ho, h.fa, h.ff, h.gr.trans ⟨ho.os, ho.tape, ho.output, ho.size, fun k hk _ => ho.block k hk⟩, h.nw, h.nf, Nat.le_trans h.zs ho.size, h.q0, h.qz⟩
theorem St14.lt (h : St14 B w Z Q m0 a b r0 r2 W s A n c A2 m c2) : w.heap.size + 1 + 1 < Z := Nat.lt_trans h.q0 h.qz
theorem St14.grow_set (h : w.grownBy W r0) {k : Nat} (hk : w.heap.size ≤ k) (j : Nat) (v : Value) : w.grownBy (W.setCell ⟨k, j, none⟩ v) r0 := h.andThen (grownBy_setCellN W k j v) (fun i e => by injection e with e; omega)
theorem GsIn.set (h : GsIn B W s A n c A2 m c2) {k : Nat} (h1 : ∀ r, (Value.slice A n c).ownBlock = some r → r ≠ k) (h2 : ∀ r, (Value.slice A2 m c2).ownBlock = some r → r ≠ k) (j : Nat) (v : Value) : GsIn B (W.setCell ⟨k, j, none⟩ v) s A n c A2 m c2 :=
  ⟨owns_far h.ams (grownBy_setCellN W k j v) (fun r e hr => h1 r e (by injection hr with hr; exact hr.symm)), owns_far h.fls (grownBy_setCellN W k j v) (fun r e hr => h2 r e (by injection hr with hr; exact hr.symm)), h.apart, h.na, h.nf⟩
theorem St14.pen (h : St14 B w Z Q m0 a b r0 r2 W s A n c A2 m c2) (y k : Int) : St14 B w Z Q m0 a b r0 r2 ((W.setCell ⟨w.heap.size, 3, none⟩ (.int .i64 y)).setCell ⟨w.heap.size, 4, none⟩ (.int .i64 k)) { s with pen := (y, k) } A n c A2 m c2 := by
  have hl := h.lt
  have h1 := h.fa.ne (k := w.heap.size) (Nat.le_refl _) (by omega)
  have h2 := h.ff.ne (k := w.heap.size) (Nat.le_refl _) (by omega)
  have hg := (h.gs.set h1 h2 3 (.int .i64 y)).set h1 h2 4 (.int .i64 k)
  exact ⟨(h.box.set 3 (.int .i64 y) (by simp [gsV])).set 4 (.int .i64 k) (by simp [gsV]), (h.res.set_other (by omega) _ _).set_other (by omega) _ _, (h.nd.set_other (by omega) _ _).set_other (by omega) _ _, (h.sp.set_other (by have := h.q0; omega) _ _).set_other (by have := h.q0; omega) _ _,
    ⟨hg.ams, hg.fls, hg.apart, hg.na, hg.nf⟩, h.fa, h.ff, St14.grow_set (St14.grow_set h.gr (Nat.le_refl _) _ _) (Nat.le_refl _) _ _, h.nw, h.nf, by simpa using h.zs, h.q0, h.qz⟩
theorem St14.am (h : St14 B w Z Q m0 a b r0 r2 W s A n c A2 m c2) {x : Am} {t : TypeId} {cs : Array Value} {w7 : World} {A7 : Option Addr} {c7 : Nat} (hown : w7.ownsRow B 32 8 (.slice A7 (n + 1) c7) (n + 1) (s.ams.flatMap encAm ++ encAm x))
    (hg : (W.alloc (.cells cs t)).grownBy w7 (Value.slice A n c).ownBlock) (ha : (Value.slice A7 (n + 1) c7).ownBlock = (Value.slice A n c).ownBlock ∨ (Value.slice A7 (n + 1) c7).ownBlock = some (W.alloc (.cells cs t)).heap.size) :
    St14 B w Z Q m0 a b r0 r2 (w7.setCell ⟨w.heap.size, 0, none⟩ (.slice A7 (n + 1) c7)) { s with ams := s.ams ++ [x] } A7 (n + 1) c7 A2 m c2 := by
  have hl := h.lt
  have hal : Below W.heap.size W (W.alloc (.cells cs t)) := (Below.refl _ _).alloc (Nat.le_refl _) _
  have h' := h.on hal
  have hs : W.heap.size ≤ (W.alloc (.cells cs t)).heap.size := hal.size
  have hfa : Away w.heap.size Z (.slice A7 (n + 1) c7) := fun r e => by
    rcases ha with ha | ha
    · exact h.fa r (by rw [← ha]; exact e)
    · rw [ha] at e
      injection e with e
      have := h.zs
      omega
  have h1 := hfa.ne (k := w.heap.size) (Nat.le_refl _) (by omega)
  have h2 := h.ff.ne (k := w.heap.size) (Nat.le_refl _) (by omega)
  have hg7 : GsIn B w7 { s with ams := s.ams ++ [x] } A7 (n + 1) c7 A2 m c2 := by
    refine ⟨?_, owns_other h'.gs.apart h'.gs.fls hg, Apart.left h'.gs.apart h'.gs.fls ha, by simp [h.gs.na], h.gs.nf⟩
    have e : (s.ams ++ [x]).flatMap encAm = s.ams.flatMap encAm ++ encAm x := by simp
    show w7.ownsRow B _ 8 _ (n + 1) ((s.ams ++ [x]).flatMap encAm)
    rw [e]
    exact hown
  have hg8 := hg7.set h1 h2 0 (.slice A7 (n + 1) c7)
  refine ⟨(h'.box.grown hg (h.fa.ne (Nat.le_refl _) (by omega))).set 0 (.slice A7 (n + 1) c7) (by simp [gsV]), (h'.res.grown hg (h.fa.ne (by omega) (by omega))).set_other (by omega) _ _, (h'.nd.grown hg (h.fa.ne (by omega) (by omega))).set_other (by omega) _ _,
    (h'.sp.grown hg (h.fa.ne (by have := h.q0; omega) h.qz)).set_other (by have := h.q0; omega) _ _, hg8, hfa, h.ff, ?_, ?_, h.nf, by have := h'.zs; have := hg.size; simp at *; omega, h.q0, h.qz⟩
  · refine St14.grow_set (h'.gr.andThen hg (fun j e => ?_)) (Nat.le_refl _) _ _
    rcases h.nw with hn | hn
    · right; rw [← hn]; exact e
    · left; have := hn j e; omega
  · rcases ha with ha | ha
    · rw [ha]; exact h.nw
    · right
      intro r e
      rw [ha] at e
      injection e with e
      have := h.zs
      omega
theorem St14.fl (h : St14 B w Z Q m0 a b r0 r2 W s A n c A2 m c2) (hB : B ≤ w.heap.size) {l : List Fl} {w7 : World} {A7 : Option Addr} {n7 c7 : Nat} (hn : n7 = l.length) (hown : w7.ownsRow W.heap.size 67 7 (.slice A7 n7 c7) n7 (l.flatMap encFl)) (hb : Below W.heap.size W w7) :
    St14 B w Z Q m0 a b r0 r2 (w7.setCell ⟨w.heap.size, 1, none⟩ (.slice A7 n7 c7)) { s with fls := l } A n c A7 n7 c7 := by
  have hl := h.lt
  have h' := h.on hb
  have hbl := owns_block hown
  have hff : Away w.heap.size Z (.slice A7 n7 c7) := fun r e => by have := hbl r e; have := h.zs; omega
  have h1 := h.fa.ne (k := w.heap.size) (Nat.le_refl _) (by omega)
  have h2 := hff.ne (k := w.heap.size) (Nat.le_refl _) (by omega)
  have hg7 : GsIn B w7 { s with fls := l } A n c A7 n7 c7 :=
    ⟨h'.gs.ams, owns_mono14 hown (by have := h.zs; omega), fun r e1 e2 => by have := hbl r e2; have := owns_block_lt h.gs.ams r e1; omega, h.gs.na, hn.symm⟩
  exact ⟨h'.box.set 1 (.slice A7 n7 c7) (by simp [gsV]), h'.res.set_other (by omega) _ _, h'.nd.set_other (by omega) _ _, h'.sp.set_other (by have := h.q0; omega) _ _, hg7.set h1 h2 1 _, h.fa, hff, St14.grow_set h'.gr (Nat.le_refl _) _ _, h.nw, .inr (fun r e => by have := hbl r e; have := h.zs; omega), by simpa using h'.zs, h.q0, h.qz⟩
theorem St14.inner (h : St14 B w Z Q m0 a b r0 r2 W s A n c A2 m c2) {s' : Gs} {w7 : World} {A' A2' : Option Addr} {n' c' m' c2' : Nat} (hi : GsIn B w7 s' A' n' c' A2' m' c2') (hg : W.grownBy w7 (Value.slice A n c).ownBlock)
    (hn : NewRow W.heap.size (.slice A n c) (.slice A' n' c')) (hf2 : NewRow W.heap.size (.slice A2 m c2) (.slice A2' m' c2')) :
    St14 B w Z Q m0 a b r0 r2 (((((w7.setCell ⟨w.heap.size, 0, none⟩ (.slice A' n' c')).setCell ⟨w.heap.size, 1, none⟩ (.slice A2' m' c2')).setCell ⟨w.heap.size, 2, none⟩ (.int .i64 0)).setCell ⟨w.heap.size, 3, none⟩ (.int .i64 s'.pen.1)).setCell ⟨w.heap.size, 4, none⟩ (.int .i64 s'.pen.2)) s' A' n' c' A2' m' c2' := by
  have hl := h.lt
  have hz := h.zs
  have hfa : Away w.heap.size Z (.slice A' n' c') := fun r e => by
    rcases hn with hn | hn
    · exact h.fa r (by rw [← hn]; exact e)
    · have := hn r e; omega
  have hf : Away w.heap.size Z (.slice A2' m' c2') := fun r e => by
    rcases hf2 with hn | hn
    · exact h.ff r (by rw [← hn]; exact e)
    · have := hn r e; omega
  have h1 := hfa.ne (k := w.heap.size) (Nat.le_refl _) (by omega)
  have h2 := hf.ne (k := w.heap.size) (Nat.le_refl _) (by omega)
  have hgr : w.grownBy w7 r0 := h.gr.andThen hg (fun j e => by
    rcases h.nw with hn | hn
    · right; rw [← hn]; exact e
    · left; have := hn j e; omega)
  refine ⟨((((((h.box.grown hg (h.fa.ne (Nat.le_refl _) (by omega))).set 0 (.slice A' n' c') (by simp [gsV])).set 1 (.slice A2' m' c2') (by simp [gsV])).set 2 (.int .i64 0) (by simp [gsV])).set 3 (.int .i64 s'.pen.1) (by simp [gsV])).set 4 (.int .i64 s'.pen.2) (by simp [gsV])),
    (((((h.res.grown hg (h.fa.ne (by omega) (by omega))).set_other (by omega) _ _).set_other (by omega) _ _).set_other (by omega) _ _).set_other (by omega) _ _).set_other (by omega) _ _,
    (((((h.nd.grown hg (h.fa.ne (by omega) (by omega))).set_other (by omega) _ _).set_other (by omega) _ _).set_other (by omega) _ _).set_other (by omega) _ _).set_other (by omega) _ _,
    (((((h.sp.grown hg (h.fa.ne (by have := h.q0; omega) h.qz)).set_other (by have := h.q0; omega) _ _).set_other (by have := h.q0; omega) _ _).set_other (by have := h.q0; omega) _ _).set_other (by have := h.q0; omega) _ _).set_other (by have := h.q0; omega) _ _,
    ((((hi.set h1 h2 _ _).set h1 h2 _ _).set h1 h2 _ _).set h1 h2 _ _).set h1 h2 _ _, hfa, hf, ?_, ?_, ?_, by have := hg.size; simp; omega, h.q0, h.qz⟩
  · exact St14.grow_set (St14.grow_set (St14.grow_set (St14.grow_set (St14.grow_set hgr (Nat.le_refl _) _ _) (Nat.le_refl _) _ _) (Nat.le_refl _) _ _) (Nat.le_refl _) _ _) (Nat.le_refl _) _ _
  · rcases hn with hn | hn
    · rw [hn]; exact h.nw
    · right; intro r e; have := hn r e; omega
  · rcases hf2 with hn | hn
    · rw [hn]; exact h.nf
    · right; intro r e; have := hn r e; omega
theorem St14.out (h : St14 B w Z Q m0 a b r0 r2 W s A n c A2 m c2) {A0 A20 : Option Addr} {n0 c0 m0' c20 : Nat} (hr : r0 = (Value.slice A0 n0 c0).ownBlock) (hr2 : r2 = (Value.slice A20 m0' c20).ownBlock) (x0 x1 x2 x3 x4 : Value) :
    GsOut B w s A0 n0 c0 A20 m0' c20 (.returned (.agg #[.slice A n c, .slice A2 m c2, .int .i64 0, .int .i64 s.pen.1, .int .i64 s.pen.2])) (((((W.setCell ⟨w.heap.size + 1, 0, none⟩ x0).setCell ⟨w.heap.size + 1, 1, none⟩ x1).setCell ⟨w.heap.size + 1, 2, none⟩ x2).setCell ⟨w.heap.size + 1, 3, none⟩ x3).setCell ⟨w.heap.size + 1, 4, none⟩ x4) := by
  have hl := h.lt
  have h1 := h.fa.ne (k := w.heap.size + 1) (by omega) (by omega)
  have h2 := h.ff.ne (k := w.heap.size + 1) (by omega) (by omega)
  refine ⟨A, n, c, A2, m, c2, rfl, ((((h.gs.set h1 h2 _ _).set h1 h2 _ _).set h1 h2 _ _).set h1 h2 _ _).set h1 h2 _ _, ?_, ?_, ?_⟩
  · rw [← hr]
    exact St14.grow_set (St14.grow_set (St14.grow_set (St14.grow_set (St14.grow_set h.gr (by omega) _ _) (by omega) _ _) (by omega) _ _) (by omega) _ _) (by omega) _ _
  · rcases h.nw with hn | hn
    · left; rw [hn, hr]
    · right; intro r e; have := hn r e; omega
  · rcases h.nf with hn | hn
    · left; rw [hn, hr2]
    · right; intro r e; have := hn r e; omega
end
end Go.Proofs.YtipmdhfinlkceaaGreat
namespace Go.Proofs.YtipmdhfinlkceaaGreat
open Go.RowKit
structure FrW (k : Nat) (r : Option Nat) (w w' : World) : Prop where
  os : w'.os = w.os
  tape : w'.tape = w.tape
  output : w'.output = w.output
  size : w.heap.size ≤ w'.heap.size
  block : ∀ j, j < w.heap.size → j ≠ k → some j ≠ r → w'.heap[j]? = w.heap[j]?
theorem FrW.refl (k : Nat) (r : Option Nat) (w : World) : FrW k r w w := ⟨rfl, rfl, rfl, Nat.le_refl _, fun _ _ _ _ => rfl⟩
theorem FrW.of_below {k : Nat} {r : Option Nat} {w w' : World} (h : Below w.heap.size w w') : FrW k r w w' := ⟨h.os, h.tape, h.output, h.size, fun j h1 _ _ => h.block j h1⟩
theorem FrW.of_grown {k : Nat} {r row : Option Nat} {w w' : World} (h : w.grownBy w' row) (hr : ∀ j, row = some j → j = k ∨ r = some j ∨ w.heap.size ≤ j) : FrW k r w w' :=
  ⟨h.os, h.tape, h.output, h.size, fun j h1 h2 h3 => h.block j h1 (fun e => by
    rcases hr j e.symm with h4 | h4 | h4
    · exact h2 h4
    · exact h3 h4.symm
    · omega)⟩
theorem FrW.trans {k : Nat} {r r' : Option Nat} {a b c : World} (h : FrW k r a b) (g : FrW k r' b c) (hr : ∀ j, r' = some j → r = some j ∨ a.heap.size ≤ j) : FrW k r a c :=
  ⟨g.os.trans h.os, g.tape.trans h.tape, g.output.trans h.output, Nat.le_trans h.size g.size, fun j h1 h2 h3 => (g.block j (Nat.lt_of_lt_of_le h1 h.size) h2 (fun e => by
    rcases hr j e.symm with h4 | h4
    · exact h3 h4.symm
    · omega)).trans (h.block j h1 h2 h3)⟩
theorem FrW.same {k : Nat} {r : Option Nat} {a b c : World} (h : FrW k r a b) (g : FrW k r b c) : FrW k r a c := h.trans g (fun _ e => .inl e)
theorem FrW.set (k : Nat) (r : Option Nat) (w : World) (j : Nat) (v : Value) : FrW k r w (w.setCell ⟨k, j, none⟩ v) := FrW.of_grown (grownBy_setCellN w k j v) (fun i e => .inl (by injection e with e; exact e.symm))
theorem FrW.box {k n : Nat} {r : Option Nat} {w w' : World} {vs : List Value} (h : FrW k r w w') (hX : Box w n vs) (h1 : n ≠ k) (h2 : some n ≠ r) : Box w' n vs := by
  have hb : w'.heap[n]? = w.heap[n]? := h.block n hX.1 h1 h2
  exact ⟨Nat.lt_of_lt_of_le hX.1 h.size, fun o => (World.frozen?_of_block (w := w) (a := ⟨n, o, none⟩) hb).trans (hX.2.1 o), fun j v hv => (World.cell?_of_block (w := w) (a := ⟨n, j, none⟩) hb).trans (hX.2.2 j v hv)⟩
theorem FrW.low {k B0 : Nat} {r : Option Nat} {w0 w w' : World} (h : FrW k r w w') (hb : Below B0 w0 w) (h0 : B0 ≤ w.heap.size) (h1 : B0 ≤ k) (h2 : ∀ j, r = some j → B0 ≤ j) : Below B0 w0 w' :=
  ⟨h.os.trans hb.os, h.tape.trans hb.tape, h.output.trans hb.output, Nat.le_trans hb.size h.size, fun j hj => (h.block j (by omega) (by omega) (fun e => by have := h2 j e.symm; omega)).trans (hb.block j hj)⟩
def wkV (s : Gs) (A : Option Addr) (n c : Nat) (A2 : Option Addr) (m c2 : Nat) (An : Option Addr) (nn cn : Nat) (Ar : Option Addr) (nr cr : Nat) : List Value :=
  [.slice A n c, .slice A2 m c2, .int .i64 0, .slice An nn cn, .slice Ar nr cr, .int .i64 s.pen.1, .int .i64 s.pen.2]
structure Wk (w1 : World) (An : Option Addr) (nn cn : Nat) (Ar : Option Addr) (nr cr : Nat) (W : World) (s : Gs) (A : Option Addr) (n c : Nat) (A2 : Option Addr) (m c2 : Nat) : Prop where
  on : On w1 W
  box : Box W w1.heap.size (wkV s A n c A2 m c2 An nn cn Ar nr cr)
  gs : GsIn (w1.heap.size + 1) W s A n c A2 m c2
def WkOut (w1 : World) (An : Option Addr) (nn cn : Nat) (Ar : Option Addr) (nr cr : Nat) (w : World) (A : Option Addr) (n c : Nat) (s : Gs) (w' : World) : Prop :=
  ∃ A' n' c' A2' m' c2', Wk w1 An nn cn Ar nr cr w' s A' n' c' A2' m' c2' ∧ FrW w1.heap.size (Value.slice A n c).ownBlock w w' ∧ NewRow w.heap.size (.slice A n c) (.slice A' n' c')
section
variable {w1 : World} {An Ar : Option Addr} {nn cn nr cr : Nat} {W W' w w' : World} {s s' : Gs} {A A2 : Option Addr} {n c m c2 : Nat}
theorem Wk.ra (h : Wk w1 An nn cn Ar nr cr W s A n c A2 m c2) : ∀ r, (Value.slice A n c).ownBlock = some r → w1.heap.size < r := owns_block h.gs.ams
theorem Wk.rf (h : Wk w1 An nn cn Ar nr cr W s A n c A2 m c2) : ∀ r, (Value.slice A2 m c2).ownBlock = some r → w1.heap.size < r := owns_block h.gs.fls
theorem Wk.below (h : Wk w1 An nn cn Ar nr cr W s A n c A2 m c2) (hb : Below W.heap.size W W') : Wk w1 An nn cn Ar nr cr W' s A n c A2 m c2 := ⟨On.step h.on hb, h.box.below hb, h.gs.on hb⟩
theorem Wk.cells (h : Wk w1 An nn cn Ar nr cr W s A n c A2 m c2) : (W.cell? ⟨w1.heap.size, 0, none⟩ = some (.slice A n c) ∧ W.cell? ⟨w1.heap.size, 1, none⟩ = some (.slice A2 m c2) ∧ W.cell? ⟨w1.heap.size, 2, none⟩ = some (.int .i64 0) ∧ W.cell? ⟨w1.heap.size, 3, none⟩ = some (.slice An nn cn) ∧ W.cell? ⟨w1.heap.size, 4, none⟩ = some (.slice Ar nr cr) ∧ W.cell? ⟨w1.heap.size, 5, none⟩ = some (.int .i64 s.pen.1) ∧ W.cell? ⟨w1.heap.size, 6, none⟩ = some (.int .i64 s.pen.2)) ∧
    (W.frozen? ⟨w1.heap.size, 0, none⟩ = false ∧ W.frozen? ⟨w1.heap.size, 1, none⟩ = false ∧ W.frozen? ⟨w1.heap.size, 2, none⟩ = false ∧ W.frozen? ⟨w1.heap.size, 5, none⟩ = false ∧ W.frozen? ⟨w1.heap.size, 6, none⟩ = false) ∧ w1.heap.size < W.heap.size :=
  ⟨⟨h.box.2.2 0 _ rfl, h.box.2.2 1 _ rfl, h.box.2.2 2 _ rfl, h.box.2.2 3 _ rfl, h.box.2.2 4 _ rfl, h.box.2.2 5 _ rfl, h.box.2.2 6 _ rfl⟩, ⟨h.box.2.1 _, h.box.2.1 _, h.box.2.1 _, h.box.2.1 _, h.box.2.1 _⟩, h.box.1⟩
theorem Wk.gset (h : Wk w1 An nn cn Ar nr cr W s A n c A2 m c2) (j : Nat) (v : Value) : GsIn (w1.heap.size + 1) (W.setCell ⟨w1.heap.size, j, none⟩ v) s A n c A2 m c2 :=
  h.gs.set (fun r e => by have := h.ra r e; omega) (fun r e => by have := h.rf r e; omega) j v
theorem Wk.pen (h : Wk w1 An nn cn Ar nr cr W s A n c A2 m c2) (y p : Int) : Wk w1 An nn cn Ar nr cr ((W.setCell ⟨w1.heap.size, 5, none⟩ (.int .i64 y)).setCell ⟨w1.heap.size, 6, none⟩ (.int .i64 p)) { s with pen := (y, p) } A n c A2 m c2 := by
  have hg := (h.gset 5 (.int .i64 y)).set (k := w1.heap.size) (fun r e => by have := h.ra r e; omega) (fun r e => by have := h.rf r e; omega) 6 (.int .i64 p)
  exact ⟨On.set (On.set h.on (Nat.le_refl _) _) (Nat.le_refl _) _, (h.box.set 5 (.int .i64 y) (by simp [wkV])).set 6 (.int .i64 p) (by simp [wkV]), ⟨hg.ams, hg.fls, hg.apart, hg.na, hg.nf⟩⟩
theorem frw_pen (k : Nat) (r : Option Nat) (W : World) (y p : Value) : FrW k r W ((W.setCell ⟨k, 5, none⟩ y).setCell ⟨k, 6, none⟩ p) := (FrW.set k r W 5 y).same (FrW.set k r _ 6 p)
theorem Wk.am (h : Wk w1 An nn cn Ar nr cr W s A n c A2 m c2) {x : Am} {w7 : World} {A7 : Option Addr} {c7 : Nat} (hown : w7.ownsRow (w1.heap.size + 1) 32 8 (.slice A7 (n + 1) c7) (n + 1) (s.ams.flatMap encAm ++ encAm x))
    (hg : W.grownBy w7 (Value.slice A n c).ownBlock) (ha : (Value.slice A7 (n + 1) c7).ownBlock = (Value.slice A n c).ownBlock ∨ (Value.slice A7 (n + 1) c7).ownBlock = some W.heap.size) :
    Wk w1 An nn cn Ar nr cr (w7.setCell ⟨w1.heap.size, 0, none⟩ (.slice A7 (n + 1) c7)) { s with ams := s.ams ++ [x] } A7 (n + 1) c7 A2 m c2 := by
  have hk := h.box.1
  have h1 : ∀ r, (Value.slice A7 (n + 1) c7).ownBlock = some r → r ≠ w1.heap.size := fun r e => by
    rcases ha with ha | ha
    · have := h.ra r (by rw [← ha]; exact e); omega
    · rw [ha] at e; injection e with e; omega
  have h2 : ∀ r, (Value.slice A2 m c2).ownBlock = some r → r ≠ w1.heap.size := fun r e => by have := h.rf r e; omega
  have hg7 : GsIn (w1.heap.size + 1) w7 { s with ams := s.ams ++ [x] } A7 (n + 1) c7 A2 m c2 := by
    refine ⟨?_, owns_other h.gs.apart h.gs.fls hg, Apart.left h.gs.apart h.gs.fls ha, by simp [h.gs.na], h.gs.nf⟩
    have e : (s.ams ++ [x]).flatMap encAm = s.ams.flatMap encAm ++ encAm x := by simp
    show w7.ownsRow _ _ 8 _ (n + 1) ((s.ams ++ [x]).flatMap encAm)
    rw [e]
    exact hown
  exact ⟨On.set (Below.grown h.on hg h.on.size (fun r e => by have := h.ra r e; omega)) (Nat.le_refl _) _, (h.box.grown hg (fun r e => by have := h.ra r e; omega)).set 0 (.slice A7 (n + 1) c7) (by simp [wkV]), hg7.set h1 h2 0 _⟩
theorem Wk.am_new {A7 : Option Addr} {n7 c7 : Nat} (ha : (Value.slice A7 n7 c7).ownBlock = (Value.slice A n c).ownBlock ∨ (Value.slice A7 n7 c7).ownBlock = some W.heap.size) : NewRow W.heap.size (.slice A n c) (.slice A7 n7 c7) := by
  rcases ha with ha | ha
  · exact .inl ha
  · exact .inr (fun r e => by rw [ha] at e; injection e with e; omega)
theorem Wk.fl (h : Wk w1 An nn cn Ar nr cr W s A n c A2 m c2) {l : List Fl} {w7 : World} {A7 : Option Addr} {n7 c7 : Nat} (hn : n7 = l.length) (hown : w7.ownsRow W.heap.size 67 7 (.slice A7 n7 c7) n7 (l.flatMap encFl)) (hb : Below W.heap.size W w7) :
    Wk w1 An nn cn Ar nr cr (w7.setCell ⟨w1.heap.size, 1, none⟩ (.slice A7 n7 c7)) { s with fls := l } A n c A7 n7 c7 := by
  have hk := h.box.1
  have h' := h.below hb
  have hbl := owns_block hown
  have h1 : ∀ r, (Value.slice A n c).ownBlock = some r → r ≠ w1.heap.size := fun r e => by have := h.ra r e; omega
  have h2 : ∀ r, (Value.slice A7 n7 c7).ownBlock = some r → r ≠ w1.heap.size := fun r e => by have := hbl r e; omega
  have hg7 : GsIn (w1.heap.size + 1) w7 { s with fls := l } A n c A7 n7 c7 :=
    ⟨h'.gs.ams, owns_mono14 hown (by omega), fun r e1 e2 => by have := hbl r e2; have := owns_block_lt h.gs.ams r e1; omega, h.gs.na, hn.symm⟩
  exact ⟨On.set h'.on (Nat.le_refl _) _, h'.box.set 1 (.slice A7 n7 c7) (by simp [wkV]), hg7.set h1 h2 1 _⟩
theorem NewRow.then {K K2 : Nat} {u v x : Value} (h : NewRow K u v) (g : NewRow K2 v x) (hk : K ≤ K2) : NewRow K u x := by
  rcases g with g | g
  · rcases h with h | h
    · exact .inl (g.trans h)
    · exact .inr (fun r e => h r (by rw [← g]; exact e))
  · exact .inr (fun r e => Nat.le_trans hk (g r e))
theorem WkOut.refl (h : Wk w1 An nn cn Ar nr cr W s A n c A2 m c2) : WkOut w1 An nn cn Ar nr cr W A n c s W := ⟨A, n, c, A2, m, c2, h, FrW.refl _ _ _, NewRow.refl _ _⟩
theorem WkOut.go (hw : FrW w1.heap.size (Value.slice A n c).ownBlock w W) {A1 : Option Addr} {n1 c1 : Nat} (hn : NewRow w.heap.size (.slice A n c) (.slice A1 n1 c1)) (h : WkOut w1 An nn cn Ar nr cr W A1 n1 c1 s W') : WkOut w1 An nn cn Ar nr cr w A n c s W' := by
  obtain ⟨A', n', c', A2', m', c2', h1, h2, h3⟩ := h
  refine ⟨A', n', c', A2', m', c2', h1, hw.trans h2 (fun j e => ?_), hn.then h3 hw.size⟩
  rcases hn with hn | hn
  · exact .inl (by rw [← hn]; exact e)
  · exact .inr (hn j e)
end
end Go.Proofs.YtipmdhfinlkceaaGreat
namespace Go.Proofs.YtipmdhfinlkceaaGreat
open Go.RowKit
def strp (a b : Int) (A : Option Addr) (n c : Nat) (y h : Int) : List Value := [.int .i64 a, .int .i64 b, .slice A n c, .int .i64 y, .int .i64 h]
theorem strp_of {w : World} {k : Nat} {a b : Int} {A : Option Addr} {n c : Nat} {y h : Int} (hX : Box w k (strp a b A n c y h)) :
    (w.cell? ⟨k, 0, none⟩ = some (.int .i64 a) ∧ w.cell? ⟨k, 1, none⟩ = some (.int .i64 b) ∧ w.cell? ⟨k, 2, none⟩ = some (.slice A n c) ∧ w.cell? ⟨k, 3, none⟩ = some (.int .i64 y) ∧ w.cell? ⟨k, 4, none⟩ = some (.int .i64 h)) ∧ (∀ o, w.frozen? ⟨k, o, none⟩ = false) ∧ k < w.heap.size :=
  ⟨⟨hX.2.2 0 _ rfl, hX.2.2 1 _ rfl, hX.2.2 2 _ rfl, hX.2.2 3 _ rfl, hX.2.2 4 _ rfl⟩, hX.2.1, hX.1⟩
theorem grown_below12 {w w' : World} {row : Option Nat} (h : Below w.heap.size w w') : w.grownBy w' row := ⟨h.os, h.tape, h.output, h.size, fun k hk _ => h.block k hk⟩
set_option maxHeartbeats 2000000 in
theorem sband_to {l : List Fl} {a b y h p q : Int} (hv : bandL l y h (a, b) = (p, q)) (hn : ∀ f ∈ l, f.near) (hy : NearY y) (hh : NearI h) {A : Option Addr} {n c : Nat} {w : World} (hA : Rows 7 encFl w A n l) :
    Calls Tryz.prog 114 #[.agg #[.int .i64 a, .int .i64 b, .slice A n c, .int .i64 y, .int .i64 h]] w fun e w' => e = .returned (.agg #[.int .i64 p, .int .i64 q]) ∧ Below w.heap.size w w' := by
  have HC := Lib.hid (show ∀ W', On w W' → Calls Tryz.prog 141 #[.slice A n c, .int .i64 y, .int .i64 h, .agg #[.int .i64 a, .int .i64 b]] W' fun e w' => e = .returned (.agg #[.int .i64 p, .int .i64 q]) ∧ Below W'.heap.size W' w' from fun W' ho => bof_to hv hn hy hh (hA.on ho))
  clear hv hn hy hh hA
  go_enter Tryz.func114, Tryz.ntmps114
  go_wp2_with fail
  generalize hW : World.alloc (World.alloc w _) _ = W
  have HR := Lib.hid (show Box W (w.heap.size + 1) [.int .i64 0, .int .i64 0] by rw [← hW]; exact Box.new2' _ _ _ _ _ (by simp))
  have HB := Lib.hid (show Below w.heap.size w W by rw [← hW]; go_grown)
  clear hW
  refine (HC.out W HB.out).mono ?_
  rintro e w1 ⟨rfl, hb⟩
  have HR1 := Lib.hid (HR.out.below hb)
  have HB1 := Lib.hid (below_then HB.out hb)
  clear hb HR HB
  obtain ⟨r0, r1, f0, f1, r4⟩ := HR1.out.of2
  go_wp2_with fail
  have hY := (HR1.out.set 0 (.int .i64 p) (by simp)).set 1 (.int .i64 q) (by simp)
  have s0 := hY.2.2 0 _ rfl
  have s1 := hY.2.2 1 _ rfl
  exact bodyPost_ret (v := .agg #[.int .i64 p, .int .i64 q]) (by simp [results, Tryz.results114, go_sem, s0, s1]) rfl ⟨rfl, (HB1.out.setCell (by simp) _).setCell (by simp) _⟩
set_option maxHeartbeats 4000000 in
theorem sroom_to {l : List Fl} {a b y h u : Int} {v : Bool} (hv : roomB l h u a b y = v) (hn : ∀ f ∈ l, f.near) (hy : NearY y) (hh : NearI h) (ha : NearI a) (hb : NearI b) {A : Option Addr} {n c : Nat} {w : World} (hA : Rows 7 encFl w A n l) :
    Calls Tryz.prog 139 #[.agg #[.int .i64 a, .int .i64 b, .slice A n c, .int .i64 y, .int .i64 h], .int .i64 u] w fun e w' => e = .returned (.bool v) ∧ Below w.heap.size w w' := by
  obtain ⟨⟨p, q⟩, hp⟩ : ∃ r, bandL l y h (a, b) = r := ⟨_, rfl⟩
  obtain ⟨g, hg⟩ : ∃ g, lenW p q = g := ⟨_, rfl⟩
  have hbd := bandL_bd hn y h (a, b) ⟨ha.y, hb.y⟩
  rw [hp] at hbd
  have hv2 : (decide (u ≤ g) || (decide (p = a) && decide (q = b))) = v := by
    rw [← hv]; unfold roomB fitsF; rw [hp]; simp only; rw [hg]
  have HV := Lib.hid hv2
  have HG := Lib.hid (plen_to hg hbd.1 hbd.2)
  have HC := Lib.hid (show ∀ W', On w W' → Calls Tryz.prog 114 #[.agg #[.int .i64 a, .int .i64 b, .slice A n c, .int .i64 y, .int .i64 h]] W' fun e w' => e = .returned (.agg #[.int .i64 p, .int .i64 q]) ∧ Below W'.heap.size W' w' from fun W' ho => sband_to hp hn hy hh (hA.on ho))
  clear hv hv2 hn hy hh hA ha hb hp hg hbd
  go_enter Tryz.func139, Tryz.ntmps139
  go_wp2_with fail
  generalize hW : World.alloc w _ = W
  have HS := Lib.hid (show Box W w.heap.size (strp a b A n c y h) by rw [← hW]; exact Box.new w (strp a b A n c y h) _)
  have HB := Lib.hid (show Below w.heap.size w W by rw [← hW]; go_grown)
  clear hW
  refine (HC.out W HB.out).mono ?_
  rintro e w1 ⟨rfl, hb⟩
  have HS1 := Lib.hid (HS.out.below hb)
  have HB1 := Lib.hid (below_then HB.out hb)
  clear hb HS HB
  go_wp2_with ((with_reducible refine stop_dst 9 ?_ ?_); exact rfl)
  refine Stop.intro ?_
  generalize hW : World.alloc w1 _ = W2
  have HD := Lib.hid (show Box W2 w1.heap.size [.int .i64 p, .int .i64 q] by rw [← hW]; exact Box.new2 _ _ _ _)
  have HS2 := Lib.hid (show Box W2 w.heap.size (strp a b A n c y h) by rw [← hW]; exact HS1.out.alloc _)
  have HB2 := Lib.hid (show Below w.heap.size w W2 by rw [← hW]; exact HB1.out.alloc HB1.out.size _)
  clear hW HS1 HB1
  obtain ⟨d0, d1, _, _, d4⟩ := HD.out.of2
  obtain ⟨⟨e0, e1, e2, e3, e4⟩, _⟩ := strp_of HS2.out
  by_cases h1 : u ≤ g
  · have HT := Lib.hid (show true = v by rw [← HV.out, decide_eq_true h1]; rfl)
    clear HV
    go_wp2_with fail
    refine (HG.out _).mono ?_
    rintro e w3 ⟨rfl, hb⟩
    have HB3 := Lib.hid (below_then HB2.out hb)
    clear hb
    go_wp2_with fail
    go_ret
    exact ⟨ret_bool HT.out, HB3.out⟩
  · have h1' : g < u := by omega
    have HD2 := Lib.hid (show decide (u ≤ g) = false from decide_eq_false h1)
    clear h1
    go_wp2_with fail
    refine (HG.out _).mono ?_
    rintro e w3 ⟨rfl, hb⟩
    have HB3 := Lib.hid (below_then HB2.out hb)
    have HD3 := Lib.hid (HD.out.below hb)
    have HS3 := Lib.hid (HS2.out.below hb)
    clear hb d0 d1 d4 e0 e1 e2 e3 e4 HD HS2 HB2
    obtain ⟨d0, d1, _, _, d4⟩ := HD3.out.of2
    obtain ⟨⟨e0, e1, e2, e3, e4⟩, _⟩ := strp_of HS3.out
    by_cases h2 : p = a
    · by_cases h3 : q = b
      · have HT := Lib.hid (show true = v by rw [← HV.out, decide_eq_true h2, decide_eq_true h3]; simp)
        have k2 : (p == a) = true := by simpa using h2
        have k3 : (q == b) = true := by simpa using h3
        clear HV h2 h3
        go_wp2_with fail
        go_ret
        exact ⟨ret_bool HT.out, HB3.out⟩
      · have HT := Lib.hid (show false = v by rw [← HV.out, HD2.out, decide_eq_false h3]; simp)
        have k2 : (p == a) = true := by simpa using h2
        have k3 : (q == b) = false := by simpa using h3
        clear HV h2 h3
        go_wp2_with fail
        go_ret
        exact ⟨ret_bool (HD2.out.trans HT.out), HB3.out⟩
    · have HT := Lib.hid (show false = v by rw [← HV.out, HD2.out, decide_eq_false h2]; simp)
      have k2 : (p == a) = false := by simpa using h2
      clear HV h2
      go_wp2_with fail
      go_ret
      exact ⟨ret_bool (HD2.out.trans HT.out), HB3.out⟩
def yOf (k : Nat) (w : World) : Int := match w.cell? ⟨k, 3, none⟩ with
  | some (.int _ z) => z
  | _ => 0
theorem yOf_of {w : World} {k : Nat} {a b : Int} {A : Option Addr} {n c : Nat} {y h : Int} (hX : Box w k (strp a b A n c y h)) : yOf k w = y := by
  unfold yOf
  rw [(strp_of hX).1.2.2.2.1]
theorem Rows.grownk {w0 w w' : World} {A : Option Addr} {n k : Nat} {l : List Fl} (hA : Rows 7 encFl w0 A n l) (hB : Below w0.heap.size w0 w) (hk : w0.heap.size ≤ k) (hg : w.grownBy w' (some k)) : Rows 7 encFl w' A n l :=
  hA.below (Below.grown hB hg hB.size (fun j hj => by injection hj with hj; omega))
set_option maxHeartbeats 8000000 in
theorem sdown_to {l : List Fl} {a b y h u t : Int} (hv : seekE l h u a b y = t) (hn : ∀ f ∈ l, f.near) (hy : NearY y) (hh : NearI h) (ha : NearI a) (hb : NearI b) {A : Option Addr} {n c k : Nat} {w0 w : World} (hA : Rows 7 encFl w0 A n l) (hB : Below w0.heap.size w0 w) (hX : Box w k (strp a b A n c y h)) (hk : w0.heap.size ≤ k) :
    Calls Tryz.prog 113 #[.pointer (some ⟨k, 0, none⟩), .int .i64 u] w fun e w' => e = .returned (.tuple #[]) ∧ Box w' k (strp a b A n c t h) ∧ w.grownBy w' (some k) := by
  have HV := Lib.hid hv
  have HN := Lib.hid hn
  have HY := Lib.hid hy
  have HH := Lib.hid hh
  have HNA := Lib.hid ha
  have HNB := Lib.hid hb
  have HA := Lib.hid hA
  have HB := Lib.hid hB
  have HX := Lib.hid hX
  have HG0 := Lib.hid (World.grownBy.refl w (some k))
  clear hv hn hy hh ha hb hA hB hX
  go_enter Tryz.func113, Tryz.ntmps113
  go_wp2_with fail
  go_loopw [4, 5] (fun nx ok wr => ∃ z, Hid (NearY z) ∧ Hid (seekE l h u a b z = t) ∧ Hid (Box wr k (strp a b A n c z h)) ∧ Hid (w.grownBy wr (some k))) (fun _ _ wr => cntA l (yOf k wr))
  case atStart => exact ⟨y, HY, HV, HX, HG0⟩
  case round =>
    obtain ⟨z, HZ, HSK, HD, HG⟩ := hrel
    obtain ⟨r, hr⟩ : ∃ r, roomB l h u a b z = r := ⟨_, rfl⟩
    have HRM := Lib.hid (sroom_to (A := A) (n := n) (c := c) hr HN.out HZ.out HH.out HNA.out HNB.out (Rows.grownk HA.out HB.out hk HG.out))
    obtain ⟨⟨e0, e1, e2, e3, e4⟩, ef, el⟩ := strp_of HD.out
    go_wp2_with fail
    refine HRM.out.mono ?_
    rintro e w1 ⟨rfl, hb⟩
    have HD1 := Lib.hid (HD.out.below hb)
    have HG1 := Lib.hid (HG.out.trans (grown_below12 hb))
    clear hb e0 e1 e2 e3 e4 ef el HRM
    cases r with
    | true =>
      have HT := Lib.hid (show z = t by rw [← HSK.out, seek_room hr])
      clear hr
      go_wp2_with fail
      go_end0
      exact ⟨rfl, by rw [← HT.out]; exact HD1.out, HG1.out⟩
    | false =>
      obtain ⟨hnt, hsk⟩ := seek_down hr
      obtain ⟨⟨nx, ok⟩, hnx⟩ : ∃ r, nextL l z h a b = r := ⟨_, rfl⟩
      rw [hnx] at hnt hsk
      obtain rfl : ok = true := hnt
      have HS2 := Lib.hid (show seekE l h u a b nx = t by rw [← hsk]; exact HSK.out)
      have HCN := Lib.hid (show cntA l nx < cntA l z by
        have := cnt_next (l := l) (y := z) (h := h) (a := a) (b := b) (by rw [hnx])
        rw [hnx] at this; exact this)
      have HUY := Lib.hid (show NearY nx by have := nextL_bd HN.out z h a b; rw [hnx] at this; exact this)
      have HNX := Lib.hid hnx
      clear hr hsk hnx
      go_wp2_with fail
      have HRR := Lib.hid (Rows.grownk HA.out HB.out hk HG1.out)
      have HC3 := Lib.hid (show ∀ p' : OnW w1, Calls Tryz.prog 140 #[.slice A n c, .int .i64 z, .int .i64 h, .agg #[.int .i64 a, .int .i64 b]] p'.w fun e w' => e = .returned (.tuple #[.int .i64 nx, .bool true]) ∧ Below p'.w.heap.size p'.w w' from fun p' => bnext_to HNX.out HN.out HZ.out HH.out (HRR.out.below p'.h))
      obtain ⟨⟨p0, p1, p2, p3, p4⟩, pf, pl⟩ := strp_of HD1.out
      have k0 := OnW.cell p0
      have k1 := OnW.cell p1
      have k2 := OnW.cell p2
      have k3 := OnW.cell p3
      have k4 := OnW.cell p4
      clear p0 p1 p2 p3 p4 pf pl HRR
      refine wp_region_on (by kernel_rfl) (by kernel_rfl) ?_
      repeat (go_big_quiet_step ((first
        | (go_at_call 140; with_reducible exact Calls.on_of (HC3.out _)))))
      refine wpQuiet_nil ?_
      intro w7 hw'
      obtain ⟨⟨w8, hOn⟩, hw''⟩ := hw'
      obtain rfl : w7 = w8 := hw''
      have HG7 := Lib.hid (HG1.out.trans (grown_below12 hOn))
      have HD7 := Lib.hid (HD1.out.below hOn)
      clear hOn k0 k1 k2 k3 k4 HC3 HD1 HG1
      obtain ⟨⟨p0, p1, p2, p3, p4⟩, pf, pl⟩ := strp_of HD7.out
      have f3 := pf 3
      clear pf
      go_wp2_with fail
      have HD8 := Lib.hid (show Box (w7.setCell ⟨k, 3, none⟩ (.int .i64 nx)) k (strp a b A n c nx h) from HD7.out.set 3 (.int .i64 nx) (by simp [strp]))
      have HG8 := Lib.hid (HG7.out.trans (grownBy_setCellN w7 k 3 (.int .i64 nx)))
      go_roundw
      case rel => exact ⟨nx, HUY, HS2, HD8, HG8⟩
      case measure => rw [yOf_of HD8.out, yOf_of HD.out]; exact HCN.out
set_option maxHeartbeats 4000000 in
set_option maxRecDepth 100000 in
theorem sline_to {l : List Fl} {ws : List Int} {sp h a b y : Int} {i : Nat} {v : Ln} (hv : lineL l ws sp h a b i y = v) (hi : i < ws.length) (hn : ∀ f ∈ l, f.near) (hy : NearY y) (hh : NearI h) (ha : NearI a) (hb : NearI b) (hws : Near9 ws sp) {A A2 : Option Addr} {n c m c2 : Nat} (hm : m ≤ 10000) {w : World} (hA : Rows 7 encFl w A n l) (hW : Ints w A2 m ws) :
    Calls Tryz.prog 111 #[.agg #[.int .i64 a, .int .i64 b, .slice A n c, .int .i64 y, .int .i64 h], .slice A2 m c2, .int .i64 sp, .int .i64 (i : Int)] w fun e w' => e = .returned (.agg #[.int .i64 v.from_, .int .i64 v.to_, .int .i64 v.x, .int .i64 v.y, .int .i64 v.w]) ∧ Below w.heap.size w w' := by
  have hlm : ws.length = m := hW.1
  obtain ⟨t, ht⟩ : ∃ t, seekE l h (wordI ws i) a b y = t := ⟨_, rfl⟩
  obtain ⟨⟨p, q⟩, hp⟩ : ∃ r, bandL l t h (a, b) = r := ⟨_, rfl⟩
  obtain ⟨g, hg⟩ : ∃ g, lenW p q = g := ⟨_, rfl⟩
  obtain ⟨⟨r0, r1, r2⟩, hr⟩ : ∃ r, takeI ws sp g (i : Int) = r := ⟨_, rfl⟩
  have hbd := bandL_bd hn t h (a, b) ⟨ha.y, hb.y⟩
  rw [hp] at hbd
  have hty : NearY t := by rw [← ht]; exact seekE_bd hn h _ a b hy
  have hr0 : r0 = (i : Int) := by
    rw [takeI_nat hi] at hr
    unfold takeN at hr
    injection hr with e0 _
    exact e0.symm
  have hev : v = ⟨(i : Int), r1, p, t, r2⟩ := by
    rw [takeI_nat hi] at hr
    unfold takeN at hr
    injection hr with e0 e12
    injection e12 with e1 e2
    rw [← hv, ← e1, ← e2]
    unfold lineL
    rw [ht, hp]
    simp only
    rw [hg]
  subst hev hr0
  have HDN := Lib.hid (show ∀ (k : Nat) (W : World), w.heap.size ≤ k → Below w.heap.size w W → Box W k (strp a b A n c y h) → Calls Tryz.prog 113 #[.pointer (some ⟨k, 0, none⟩), .int .i64 (wordI ws i)] W fun e w' => e = .returned (.tuple #[]) ∧ Box w' k (strp a b A n c t h) ∧ W.grownBy w' (some k) from fun k W hk hB hX => sdown_to ht hn hy hh ha hb hA hB hX hk)
  have HBN := Lib.hid (show ∀ W', On w W' → Calls Tryz.prog 114 #[.agg #[.int .i64 a, .int .i64 b, .slice A n c, .int .i64 t, .int .i64 h]] W' fun e w' => e = .returned (.agg #[.int .i64 p, .int .i64 q]) ∧ Below W'.heap.size W' w' from fun W' ho => sband_to hp hn hty hh (hA.on ho))
  have HTK := Lib.hid (show ∀ W', On w W' → Calls Tryz.prog 136 #[.slice A2 m c2, .int .i64 sp, .int .i64 g, .int .i64 (i : Int)] W' fun e w' => e = .returned (.agg #[.int .i64 (i : Int), .int .i64 r1, .int .i64 r2]) ∧ Below W'.heap.size W' w' from fun W' ho => ptake9_to hr hws (by constructor <;> omega) (by
    have := hbd.1; have := hbd.2; rw [← hg]; unfold lenW NearY farB at *; constructor <;> split <;> omega) hm (hW.below (B := w.heap.size) ho rfl))
  have HG := Lib.hid (plen_to hg hbd.1 hbd.2)
  have him : (i : Int) < (m : Int) := by omega
  have hi0 : (0 : Int) ≤ (i : Int) := by omega
  obtain ⟨b2, o2, rfl, hcell⟩ := ints_on12 hW (show i < m by omega)
  have HCL := Lib.hid hcell
  clear hv ht hp hg hr hn hy hh ha hb hws hA hW hbd hcell hlm hi hty
  go_enter Tryz.func111, Tryz.ntmps111
  go_wp2_with ((with_reducible refine stop_dst 22 ?_ ?_); exact rfl)
  refine Stop.intro ?_
  generalize hW : World.alloc (World.alloc w _) _ = W
  have HX := Lib.hid (show Box W w.heap.size (strp a b A n c y h) by rw [← hW]; exact (Box.new w (strp a b A n c y h) _).alloc _)
  have HR := Lib.hid (show Box W (w.heap.size + 1) [.int .i64 0, .int .i64 0, .int .i64 0, .int .i64 0, .int .i64 0] by rw [← hW]; exact Box.new5l _ _ _ _ _ _ _ _ (by simp))
  have HB := Lib.hid (show Below w.heap.size w W by rw [← hW]; go_grown)
  clear hW
  have jc := HCL.out W HB.out
  go_wp2_with fail
  refine (HDN.out w.heap.size W (Nat.le_refl _) HB.out HX.out).mono ?_
  rintro e w1 ⟨rfl, hX1, hg1⟩
  have HX1 := Lib.hid hX1
  have HR1 := Lib.hid (HR.out.grown hg1 (fun r e => by injection e with e; omega))
  have HB1 := Lib.hid (Below.grown HB.out hg1 HB.out.size (fun r e => by injection e with e; omega))
  clear hX1 hg1 HX HR HB jc
  obtain ⟨⟨e0, e1, e2, e3, e4⟩, _⟩ := strp_of HX1.out
  go_wp2_with fail
  refine (HBN.out w1 HB1.out).mono ?_
  rintro e w2 ⟨rfl, hb⟩
  have HX2 := Lib.hid (HX1.out.below hb)
  have HR2 := Lib.hid (HR1.out.below hb)
  have HB2 := Lib.hid (below_then HB1.out hb)
  clear hb HX1 HR1 HB1 e0 e1 e2 e3 e4
  go_wp2_with ((with_reducible refine stop_dst 29 ?_ ?_); exact rfl)
  refine Stop.intro ?_
  generalize hZ : w2.alloc _ = Z
  have HM := Lib.hid (show Box Z w2.heap.size [.int .i64 p, .int .i64 q] by rw [← hZ]; exact Box.new2 _ _ _ _)
  have HXZ := Lib.hid (show Box Z w.heap.size (strp a b A n c t h) by rw [← hZ]; exact HX2.out.alloc _)
  have HRZ := Lib.hid (show Box Z (w.heap.size + 1) [.int .i64 0, .int .i64 0, .int .i64 0, .int .i64 0, .int .i64 0] by rw [← hZ]; exact HR2.out.alloc _)
  have HBZ := Lib.hid (show Below w.heap.size w Z by rw [← hZ]; exact HB2.out.alloc HB2.out.size _)
  clear hZ HX2 HR2 HB2
  obtain ⟨m0, m1, _, _, m4⟩ := HM.out.of2
  go_wp2_with fail
  refine (HG.out _).mono ?_
  rintro e w3 ⟨rfl, hb⟩
  have HM3 := Lib.hid (HM.out.below hb)
  have HX3 := Lib.hid (HXZ.out.below hb)
  have HR3 := Lib.hid (HRZ.out.below hb)
  have HB3 := Lib.hid (below_then HBZ.out hb)
  clear hb HM HXZ HRZ HBZ m0 m1 m4
  go_wp2_with fail
  refine (HTK.out w3 HB3.out).mono ?_
  rintro e w7 ⟨rfl, hb⟩
  have HM7 := Lib.hid (HM3.out.below hb)
  have HX7 := Lib.hid (HX3.out.below hb)
  have HR7 := Lib.hid (HR3.out.below hb)
  have HB7 := Lib.hid (below_then HB3.out hb)
  clear hb HM3 HX3 HR3 HB3
  go_wp2_with ((with_reducible refine stop_dst 33 ?_ ?_); exact rfl)
  refine Stop.intro ?_
  generalize hZ : w7.alloc _ = Z7
  have HRZ := Lib.hid (show Box Z7 (w.heap.size + 1) [.int .i64 0, .int .i64 0, .int .i64 0, .int .i64 0, .int .i64 0] by rw [← hZ]; exact HR7.out.alloc _)
  have HXZ := Lib.hid (show Box Z7 w.heap.size (strp a b A n c t h) by rw [← hZ]; exact HX7.out.alloc _)
  have HMZ := Lib.hid (show Box Z7 w2.heap.size [.int .i64 p, .int .i64 q] by rw [← hZ]; exact HM7.out.alloc _)
  have HTZ := Lib.hid (show Box Z7 w7.heap.size [.int .i64 (i : Int), .int .i64 r1, .int .i64 r2] by rw [← hZ]; exact box3 _ _ _ _ _)
  have HBZ := Lib.hid (show Below w.heap.size w Z7 by rw [← hZ]; exact HB7.out.alloc HB7.out.size _)
  clear hZ HTK HCL HR7 HM7 HB7 HX7 HDN HBN HG
  obtain ⟨m0, m1, _, _, m4⟩ := HMZ.out.of2
  obtain ⟨⟨t0, t1, t2⟩, _⟩ := HTZ.out.of3w
  obtain ⟨⟨e0, e1, e2, e3, e4⟩, _⟩ := strp_of HXZ.out
  obtain ⟨_, qf, ql⟩ := HRZ.out.of5l
  have f0 := qf 0
  have f1 := qf 1
  have f2 := qf 2
  have f3 := qf 3
  have f4 := qf 4
  have q0 := HRZ.out.of5l.1.1
  have q1 := HRZ.out.of5l.1.2.1
  have q2 := HRZ.out.of5l.1.2.2.1
  have q3 := HRZ.out.of5l.1.2.2.2.1
  have q4 := HRZ.out.of5l.1.2.2.2.2
  clear qf
  go_wp2_with fail
  have hY := ((((HRZ.out.set 0 (.int .i64 (i : Int)) (by simp)).set 1 (.int .i64 r1) (by simp)).set 2 (.int .i64 p) (by simp)).set 3 (.int .i64 t) (by simp)).set 4 (.int .i64 r2) (by simp)
  have s0 := hY.2.2 0 _ rfl
  have s1 := hY.2.2 1 _ rfl
  have s2 := hY.2.2 2 _ rfl
  have s3 := hY.2.2 3 _ rfl
  have s4 := hY.2.2 4 _ rfl
  exact bodyPost_ret (v := .agg #[.int .i64 (i : Int), .int .i64 r1, .int .i64 p, .int .i64 t, .int .i64 r2]) (by simp [results, Tryz.results111, go_sem, s0, s1, s2, s3, s4]) rfl ⟨rfl, ((((HBZ.out.setCell (by simp) _).setCell (by simp) _).setCell (by simp) _).setCell (by simp) _).setCell (by simp) _⟩
theorem box_newNl (w : World) (vs : List Value) (t : TypeId) (n : Nat) (h : n = w.heap.size) : Box (w.alloc (.cells vs.toArray t)) n vs := by subst h; exact Box.new w vs t
set_option maxHeartbeats 4000000 in
set_option maxRecDepth 100000 in
theorem sroomtop_to {l : List Fl} {h u a b y t p q : Int} (ht : seekE l h u a b y = t) (hp : bandL l t h (a, b) = (p, q)) (hn : ∀ f ∈ l, f.near) (hy : NearY y) (hh : NearI h) (ha : NearI a) (hb : NearI b) {A : Option Addr} {n c : Nat} {w : World} (hA : Rows 7 encFl w A n l) :
    Calls Tryz.prog 80 #[.slice A n c, .int .i64 u, .int .i64 h, .int .i64 y, .agg #[.int .i64 a, .int .i64 b]] w fun e w' => e = .returned (.tuple #[.agg #[.int .i64 p, .int .i64 q], .int .i64 t]) ∧ Below w.heap.size w w' := by
  have hty : NearY t := by rw [← ht]; exact seekE_bd hn h _ a b hy
  have HDN := Lib.hid (show ∀ (k : Nat) (W : World), w.heap.size ≤ k → Below w.heap.size w W → Box W k (strp a b A n c y h) → Calls Tryz.prog 113 #[.pointer (some ⟨k, 0, none⟩), .int .i64 u] W fun e w' => e = .returned (.tuple #[]) ∧ Box w' k (strp a b A n c t h) ∧ W.grownBy w' (some k) from fun k W hk hB hX => sdown_to ht hn hy hh ha hb hA hB hX hk)
  have HBN := Lib.hid (show ∀ W', On w W' → Calls Tryz.prog 114 #[.agg #[.int .i64 a, .int .i64 b, .slice A n c, .int .i64 t, .int .i64 h]] W' fun e w' => e = .returned (.agg #[.int .i64 p, .int .i64 q]) ∧ Below W'.heap.size W' w' from fun W' ho => sband_to hp hn hty hh (hA.on ho))
  clear ht hp hn hy hh ha hb hA hty
  go_enter Tryz.func80, Tryz.ntmps80
  go_wp2_with ((with_reducible refine stop_dst 19 ?_ ?_); exact rfl)
  refine Stop.intro ?_
  generalize hW : World.alloc (World.alloc (World.alloc w _) _) _ = W
  have HX := Lib.hid (show Box W (w.heap.size + 1 + 1) (strp a b A n c y h) by rw [← hW]; exact box_newNl _ (strp a b A n c y h) _ _ (by simp))
  have HR := Lib.hid (show Box W (w.heap.size + 1) [.int .i64 0, .int .i64 0] by rw [← hW]; exact (Box.new2' _ _ _ _ _ (by simp)).alloc _)
  have HB := Lib.hid (show Below w.heap.size w W by rw [← hW]; go_grown)
  clear hW
  go_wp2_with fail
  refine (HDN.out (w.heap.size + 1 + 1) W (by omega) HB.out HX.out).mono ?_
  rintro e w1 ⟨rfl, hX1, hg1⟩
  have HR1 := Lib.hid (HR.out.grown hg1 (fun r e => by injection e with e; omega))
  have HB1 := Lib.hid (Below.grown HB.out hg1 HB.out.size (fun r e => by injection e with e; omega))
  have HX1 := Lib.hid hX1
  clear hX1 hg1 HX HR HB
  go_wp2_with fail
  refine Go.wp_region_held_drew (S := fun W' => Box W' (w.heap.size + 1 + 1) (strp a b A n c t h)) (by kernel_rfl) HX1.out.drew (fun h1 => ?_)
  show wpAnyH _ _ _ _ _ 6 (Array.replicate 6 false) _ _
  have HR2 := Lib.hid HR1.out.drew
  have HB2 := Lib.hid HB1.out.drew
  clear HR1 HB1 HX1
  generalize w1.drew = U at h1 HR2 HB2 ⊢
  refine wpAnyH_take (i := 0) (v := ?_) rfl (by kernel_rfl) (by kernel_rfl) (by kernel_rfl) (fun _ _ _ h => h) (Or.inl ⟨by rfl, ?_⟩) h1 ?_
  rotate_left
  · intro w hSw; (try dsimp only at hSw); obtain ⟨⟨g0, g1, g2, g3, g4⟩, _⟩ := strp_of hSw; go_simp; with_reducible rfl
  try simp only [Act.put, List.getElem_toArray, List.getElem_cons_succ, List.getElem_cons_zero, List.setIfInBounds_toArray, List.set_cons_zero, List.set_cons_succ]
  refine wpAnyH_take (i := 2) (v := ?_) rfl (by kernel_rfl) (by kernel_rfl) (by kernel_rfl) (fun _ _ _ h => h) (Or.inl ⟨by rfl, ?_⟩) h1 ?_
  rotate_left
  · intro w hSw; (try dsimp only at hSw); obtain ⟨⟨g0, g1, g2, g3, g4⟩, _⟩ := strp_of hSw; go_simp; with_reducible rfl
  try simp only [Act.put, List.getElem_toArray, List.getElem_cons_succ, List.getElem_cons_zero, List.setIfInBounds_toArray, List.set_cons_zero, List.set_cons_succ]
  refine wpAnyH_take (i := 3) (v := ?_) rfl (by kernel_rfl) (by kernel_rfl) (by kernel_rfl) (fun _ _ _ h => h) (Or.inl ⟨by rfl, ?_⟩) h1 ?_
  rotate_left
  · intro w hSw; (try dsimp only at hSw); obtain ⟨⟨g0, g1, g2, g3, g4⟩, _⟩ := strp_of hSw; go_simp; with_reducible rfl
  try simp only [Act.put, List.getElem_toArray, List.getElem_cons_succ, List.getElem_cons_zero, List.setIfInBounds_toArray, List.set_cons_zero, List.set_cons_succ]
  refine wpAnyH_ready (rs := [1]) (by kernel_rfl) (by simp) ?_
  refine AllReadyH.cons rfl (fun K hK => ?_) AllReadyH.nil
  go_simp
  refine (HBN.out U HB2.out).mono ?_
  rintro e w4 ⟨rfl, hb⟩
  have HR4 := Lib.hid (HR2.out.below hb)
  have HB4 := Lib.hid (below_then HB2.out hb)
  refine hK.out _ _ (h1.below hb) (fun h2 => ?_)
  clear hK K hb
  try simp only [Act.put, List.getElem_toArray, List.getElem_cons_succ, List.getElem_cons_zero, List.setIfInBounds_toArray, List.set_cons_zero, List.set_cons_succ]
  refine wpAnyH_ready (rs := [4]) (by kernel_rfl) (by simp) ?_
  refine AllReadyH.cons rfl (fun K hK => ?_) AllReadyH.nil
  obtain ⟨r0, r1, f0, f1, r4⟩ := HR4.out.of2
  go_simp
  have hY := Lib.hid ((HR4.out.set 0 (.int .i64 p) (by simp)).set 1 (.int .i64 q) (by simp))
  have HB5 := Lib.hid ((HB4.out.setCell (p := ⟨w.heap.size + 1, 0, none⟩) (by simp) (.int .i64 p)).setCell (p := ⟨w.heap.size + 1, 1, none⟩) (by simp) (.int .i64 q))
  refine hK.out _ _ ((h2.set_other (m := w.heap.size + 1) (by omega) 0 (.int .i64 p)).set_other (m := w.heap.size + 1) (by omega) 1 (.int .i64 q)) (fun h3 => ?_)
  clear hK K
  try simp only [Act.put, List.getElem_toArray, List.getElem_cons_succ, List.getElem_cons_zero, List.setIfInBounds_toArray, List.set_cons_zero, List.set_cons_succ]
  refine wpAnyH_take (i := 5) (v := ?_) rfl (by kernel_rfl) (by kernel_rfl) (by kernel_rfl) (fun _ _ _ h => h) (Or.inl ⟨by rfl, ?_⟩) h3 ?_
  rotate_left
  · intro w hSw; (try dsimp only at hSw); obtain ⟨⟨g0, g1, g2, g3, g4⟩, _⟩ := strp_of hSw; go_simp; with_reducible rfl
  try simp only [Act.put, List.getElem_toArray, List.getElem_cons_succ, List.getElem_cons_zero, List.setIfInBounds_toArray, List.set_cons_zero, List.set_cons_succ]
  refine wpAnyH_done (by kernel_rfl) ?_ _
  have s0 := hY.out.2.2 0 _ rfl
  have s1 := hY.out.2.2 1 _ rfl
  clear r0 r1 f0 f1 r4 h1 h2 h3
  go_wp2_with fail
  exact bodyPost_ret (v := .tuple #[.agg #[.int .i64 p, .int .i64 q], .int .i64 t]) (by simp [results, Tryz.results80, go_sem, s0, s1]) rfl ⟨rfl, HB5.out⟩
set_option maxHeartbeats 8000000 in
theorem placed11_to {l : List Fl} {f0 f1 f2 f3 f4 f5 f6 y a b x t : Int} {A : Option Addr} {n c : Nat} {w : World} (hx : spotX l ⟨f0, f1, f2, f3, f4, f5, f6⟩ y a b = x) (ht : spotY l ⟨f0, f1, f2, f3, f4, f5, f6⟩ y a b = t) (hn : ∀ g ∈ l, g.near) (hf : (⟨f0, f1, f2, f3, f4, f5, f6⟩ : Fl).near) (hy : NearI y) (ha : NearI a) (hb : NearI b) (h : Rows 7 encFl w A n l) :
    Calls Tryz.prog 116 #[.slice A n c, .agg #[.int .i64 f0, .int .i64 f1, .int .i64 f2, .int .i64 f3, .int .i64 f4, .int .i64 f5, .int .i64 f6], .int .i64 y, .agg #[.int .i64 a, .int .i64 b]] w fun e w' => e = .returned (.agg #[.int .i64 f0, .int .i64 f1, .int .i64 f2, .int .i64 x, .int .i64 t, .int .i64 f5, .int .i64 f6]) ∧ Below w.heap.size w w' := by
  have h5 : NearI f5 := hf.2.2.1
  have h6 : NearI f6 := hf.2.2.2
  have hsy : NearY (startY l y) := startY_bd hn hy
  have hsk : seekE l f6 f5 a b (startY l y) = t := by rw [← ht, spotY_seek]
  have hty : NearY t := by rw [← ht]; exact seekF_bd hn _ _ _ _ _ _ hsy
  obtain ⟨⟨p, q⟩, hpq⟩ : ∃ r, bandL l t f6 (a, b) = r := ⟨_, rfl⟩
  have hxx : (if f1 = 1 then p else max p (q - f5)) = x := by
    rw [← hx]; unfold spotX; rw [ht]; simp only; rw [hpq]
  obtain ⟨V, hV⟩ : ∃ V, ((w.alloc (.cells #[.int .i64 f0, .int .i64 f1, .int .i64 f2, .int .i64 f3, .int .i64 f4, .int .i64 f5, .int .i64 f6] 67)).alloc (.cells #[.int .i64 a, .int .i64 b] 112)).alloc (.cells #[.int .i64 0, .int .i64 0, .int .i64 0, .int .i64 0, .int .i64 0, .int .i64 0, .int .i64 0] 67) = V := ⟨_, rfl⟩
  have hwV : Below w.heap.size w V := by rw [← hV]; go_grown
  have hsz : V.heap.size = w.heap.size + 1 + 1 + 1 := by rw [← hV]; simp
  have HRS := Lib.hid (show Box V (w.heap.size + 1 + 1) (encFl ⟨0, 0, 0, 0, 0, 0, 0⟩) by rw [← hV]; exact (show w.heap.size + 1 + 1 = ((w.alloc (.cells #[.int .i64 f0, .int .i64 f1, .int .i64 f2, .int .i64 f3, .int .i64 f4, .int .i64 f5, .int .i64 f6] 67)).alloc (.cells #[.int .i64 a, .int .i64 b] 112)).heap.size by simp) ▸ box7 _ ⟨0, 0, 0, 0, 0, 0, 0⟩ _)
  have HVV := Lib.hid hV
  have HB := Lib.hid hwV
  have HX0 := Lib.hid (show Box (V.alloc (.cells (srch f0 f1 f2 f3 f4 f5 f6 A n c a b).toArray 175)) (w.heap.size + 1 + 1 + 1) (srch f0 f1 f2 f3 f4 f5 f6 A n c a b) by
    have := Box.new V (srch f0 f1 f2 f3 f4 f5 f6 A n c a b) 175
    rw [hsz] at this; exact this)
  have HB0 := Lib.hid (show Below V.heap.size V (V.alloc (.cells (srch f0 f1 f2 f3 f4 f5 f6 A n c a b).toArray 175)) from (Below.refl _ _).alloc (Nat.le_refl _) _)
  have HN := Lib.hid hn
  have HY := Lib.hid hy
  have HSY := Lib.hid hsy
  have HTY := Lib.hid hty
  have H5 := Lib.hid h5
  have H6 := Lib.hid h6
  have HA1 := Lib.hid ha
  have HB1 := Lib.hid hb
  have HSK := Lib.hid hsk
  have HPQ := Lib.hid hpq
  have HXX := Lib.hid hxx
  have HA := Lib.hid (h.below hwV)
  clear hx ht hn hf hy ha hb h h5 h6 hsy hsk hty hpq hxx hV hwV
  have HSZ := Lib.hid hsz
  clear hsz
  go_enter Tryz.func116, Tryz.ntmps116
  go_wp2_with fail
  rw [HVV.out]
  refine (begin_to (t := startY l y) rfl HN.out HA.out HB0.out HX0.out (Nat.le_of_eq HSZ.out)).mono ?_
  rintro e w1 ⟨rfl, hx1, hb1⟩
  have HX2 := Lib.hid hx1
  have HB2 := Lib.hid hb1
  clear hx1 hb1 HX0 HB0
  go_wp2_with fail
  refine (down_to11 HSK.out HN.out HSY.out H6.out HA1.out HB1.out HA.out HB2.out HX2.out (Nat.le_of_eq HSZ.out)).mono ?_
  rintro e w2 ⟨rfl, hx1, hb1⟩
  have HX3 := Lib.hid hx1
  have HB3 := Lib.hid hb1
  clear hx1 hb1 HX2 HB2
  go_wp2_with fail
  refine (stand_to HPQ.out HXX.out HN.out HTY.out H5.out H6.out HA1.out HB1.out HA.out HB3.out HX3.out (Nat.le_of_eq HSZ.out)).mono ?_
  rintro e w3 ⟨rfl, hx1, hb1⟩
  have HX4 := Lib.hid hx1
  have HB4 := Lib.hid hb1
  clear hx1 hb1 HX3 HB3
  obtain ⟨⟨p0, p1, p2, p3, p4, p5, p6⟩, ⟨p7, p8, p9⟩, p10, p11⟩ := srch_of HX4.out
  have HR4 := Lib.hid (HRS.out.below HB4.out)
  obtain ⟨⟨r0, r1, r2, r3, r4, r5, r6⟩, rBl⟩ := HR4.out.of7
  have rfz := HR4.out.2.1
  go_wp2_with fail
  have hY := ((((((HR4.out.set 0 (.int .i64 f0) (by simp [encFl])).set 1 (.int .i64 f1) (by simp [encFl])).set 2 (.int .i64 f2) (by simp [encFl])).set 3 (.int .i64 x) (by simp [encFl])).set 4 (.int .i64 t) (by simp [encFl])).set 5 (.int .i64 f5) (by simp [encFl])).set 6 (.int .i64 f6) (by simp [encFl])
  have s0 := hY.2.2 0 _ rfl
  have s1 := hY.2.2 1 _ rfl
  have s2 := hY.2.2 2 _ rfl
  have s3 := hY.2.2 3 _ rfl
  have s4 := hY.2.2 4 _ rfl
  have s5 := hY.2.2 5 _ rfl
  have s6 := hY.2.2 6 _ rfl
  refine bodyPost_ret (v := .agg #[.int .i64 f0, .int .i64 f1, .int .i64 f2, .int .i64 x, .int .i64 t, .int .i64 f5, .int .i64 f6]) (by simp [results, Tryz.results116, go_sem, s0, s1, s2, s3, s4, s5, s6]) rfl ⟨rfl, ?_⟩
  have HE := Lib.hid (HB.out.trans (Below.mono HB4.out HB.out.size))
  have hle : w.heap.size ≤ w.heap.size + 1 + 1 := by omega
  exact ((((((HE.out.setCell hle _).setCell hle _).setCell hle _).setCell hle _).setCell hle _).setCell hle _).setCell hle _
set_option maxHeartbeats 8000000 in
set_option maxRecDepth 100000 in
theorem vCheck_to {l : List Nd} {f : Int} (ha : chkV l = f) {A : Option Addr} {n ca : Nat} {w : World} (h : PreV l w A n) (hW : ∀ x ∈ l, x.words.length ≤ 100000) : Calls Tryz.prog 30 #[.slice A n ca] w fun e w' => e = .returned (.int .i64 f) ∧ Below w.heap.size w w' := by
  obtain ⟨⟨s, g⟩, hs⟩ : ∃ a, ansV l = a := ⟨_, rfl⟩
  have HS := Lib.hid hs
  have H := Lib.hid h
  have HW := Lib.hid hW
  have hc : (g = 0 ∧ f = if decide (16 < s.depth) || decide (2000 < s.pieces) || decide (2000 < s.nodes) || decide (1099511627776 < s.heights) then 2 else 0) ∨ (g = 4 ∧ f = 4) := by
    rcases ansV_err hs with ⟨e1, e2, e3⟩ | ⟨e1, e2, e3⟩
    · refine .inl ⟨e1, ?_⟩
      rw [← ha]; unfold chkV overB; rw [if_pos e2, e3]
    · refine .inr ⟨e1, ?_⟩
      rw [← ha]; unfold chkV; rw [if_neg (by rw [e2]; decide)]
  clear hs h hW ha
  obtain ⟨s0, s1, s2, s3⟩ := s
  simp only at hc
  rcases hc with ⟨rfl, hf⟩ | ⟨rfl, rfl⟩
  rotate_left
  · go_enter Tryz.func30, Tryz.ntmps30
    go_wp2_with fail
    refine (vCount_to HS.out H.out HW.out).mono ?_
    rintro e w1 ⟨rfl, hb⟩
    have HB := Lib.hid hb
    clear hb
    go_wp2_with fail
    go_ret
    exact ⟨rfl, HB.out.alloc (by have := HB.out.size; omega) _⟩
  have HF := Lib.hid hf
  clear hf
  go_enter Tryz.func30, Tryz.ntmps30
  go_wp2_with fail
  refine (vCount_to HS.out H.out HW.out).mono ?_
  rintro e w1 ⟨rfl, hb⟩
  simp only
  have HB := Lib.hid hb
  have HBB := Lib.hid (show Below w.heap.size w (w1.alloc (.cells #[.int .i64 s0, .int .i64 s1, .int .i64 s2, .int .i64 s3] 81)) from HB.out.alloc (by have := HB.out.size; omega) _)
  clear hb
  by_cases t0 : 16 < s0
  · have HW2 := Lib.hid (show f = 2 by rw [HF.out, decide_eq_true t0]; simp)
    go_wp2_with fail
    go_ret
    exact ⟨ret_int HW2.out.symm, HBB.out⟩
  have T0 := Lib.hid (decide_eq_false t0)
  have u0 : s0 ≤ 16 := by omega
  clear t0
  by_cases t1 : 2000 < s1
  · have HW2 := Lib.hid (show f = 2 by rw [HF.out, decide_eq_true t1]; simp)
    go_wp2_with fail
    go_ret
    exact ⟨ret_int HW2.out.symm, HBB.out⟩
  have T1 := Lib.hid (decide_eq_false t1)
  have u1 : s1 ≤ 2000 := by omega
  clear t1
  by_cases t2 : 2000 < s2
  · have HW2 := Lib.hid (show f = 2 by rw [HF.out, decide_eq_true t2]; simp)
    go_wp2_with fail
    go_ret
    exact ⟨ret_int HW2.out.symm, HBB.out⟩
  have T2 := Lib.hid (decide_eq_false t2)
  have u2 : s2 ≤ 2000 := by omega
  clear t2
  by_cases t3 : 1099511627776 < s3
  · have HW2 := Lib.hid (show f = 2 by rw [HF.out, decide_eq_true t3]; simp)
    go_wp2_with fail
    go_ret
    exact ⟨ret_int HW2.out.symm, HBB.out⟩
  have T3 := Lib.hid (decide_eq_false t3)
  have u3 : s3 ≤ 1099511627776 := by omega
  clear t3
  have HW2 := Lib.hid (show f = 0 by rw [HF.out, T0.out, T1.out, T2.out, T3.out]; rfl)
  go_wp2_with fail
  go_ret
  exact ⟨ret_int HW2.out.symm, HBB.out⟩
end Go.Proofs.YtipmdhfinlkceaaGreat
namespace Go.Proofs.YtipmdhfinlkceaaGreat
open Go
def upTo (l : List Nd) (k : Nat) : Prop := NestTo l k ∧ ∀ (j : Nat) (x : Nd), j < k → l[j]? = some x → x.fits
theorem upTo.zero (l : List Nd) : upTo l 0 := ⟨NestTo.zero l, fun j x h => by omega⟩
theorem upTo.succ {l : List Nd} {k : Nat} {x : Nd} (h : upTo l k) (hx : l[k]? = some x) (hn : NestAt l k) (hf : x.fits) : upTo l (k + 1) :=
  ⟨h.1.succ hn, fun j y hj hy => by
    rcases Nat.lt_or_ge j k with hjk | hjk
    · exact h.2 j y hjk hy
    · obtain rfl : j = k := by omega
      rw [hx] at hy; injection hy with hy; subst hy; exact hf⟩
theorem upTo.all {l : List Nd} {k : Nat} (h : upTo l k) (hk : l.length ≤ k) : IsDoc l := by
  refine ⟨fun x hx => ?_, (forest_iff_nested l).2 (h.1.all hk)⟩
  obtain ⟨j, hj, rfl⟩ := List.getElem_of_mem hx
  exact h.2 j _ (by omega) (List.getElem?_eq_getElem hj)
def endsAt (l : List Nd) (k : Nat) : List Int := (l.length : Int) :: opnV l k ((k : Int) - 1)
def endsIn (l : List Nd) (k : Nat) : List Int := (l.length : Int) :: opnV l k k
theorem endsAt_zero (l : List Nd) : endsAt l 0 = [(l.length : Int)] := rfl
theorem ends_split {l : List Nd} {k : Nat} (h : upTo l k) : ∃ m, endsAt l k = endsIn l k ++ List.replicate m (k : Int) := by
  have hf := open_falls (z := (k : Int) - 1) h.1 (Int.le_refl _)
  obtain ⟨m, hm⟩ := falls_split (c := (k : Int)) hf (fun e he => by have := (mem_opnV.1 he).1; omega)
  rw [opnV_up l k (by omega)] at hm
  exact ⟨m, by unfold endsAt endsIn; rw [List.cons_append, ← hm]⟩
theorem endsIn_last (l : List Nd) (k : Nat) : (endsIn l k).getLast? = some (lastEnd l k) := by
  unfold endsIn lastEnd
  rcases h : (opnV l k k) with _ | ⟨a, t⟩
  · rfl
  · rw [List.getLast?_cons_cons]
    rcases hg : (a :: t).getLast? with _ | z
    · rw [List.getLast?_eq_none_iff] at hg; cases hg
    · rfl
theorem lastEnd_gt {l : List Nd} {k : Nat} (hk : k < l.length) : (k : Int) < lastEnd l k := by
  unfold lastEnd
  rcases hg : (opnV l k k).getLast? with _ | z
  · simp; omega
  · exact (mem_opnV.1 (List.mem_of_getLast? hg)).1
theorem lastEnd_le {l : List Nd} {k : Nat} (h : upTo l k) : lastEnd l k ≤ l.length := by
  unfold lastEnd
  rcases hg : (opnV l k k).getLast? with _ | z
  · simp
  · obtain ⟨_, j, y, hj, hy, _, rfl⟩ := mem_opnV.1 (List.mem_of_getLast? hg)
    exact (h.1 j hj y hy).2.1
theorem fits_nest {l : List Nd} {k : Nat} {x : Nd} {m : NdM} (h : upTo l k) (hx : l[k]? = some x) (e1 : x.kind = m.kind) (e2 : x.size = m.size) : fitsB m (lastEnd l k - k) = true ↔ NestAt l k := by
  have hgt := lastEnd_gt (List.getElem?_eq_some_iff.1 hx).1
  rw [fitsB_iff, nestAt_iff h.1 hx, ← e1, ← e2]
  constructor
  · rintro ⟨a, b, c⟩
    refine ⟨a, ?_, c⟩
    by_cases hk : x.kind = 1
    · exact b hk
    · have := c hk; omega
  · rintro ⟨a, b, c⟩
    exact ⟨a, fun _ => b, c⟩
theorem notdoc_nest {l : List Nd} {k : Nat} (h : ¬ NestAt l k) : ¬ IsDoc l := fun hd => h (((forest_iff_nested l).1 hd.2) k)
theorem notdoc_one {l : List Nd} {k : Nat} {x : Nd} (hx : l[k]? = some x) (h : oneB x = false) : ¬ IsDoc l := fun hd => by
  rw [(oneB_iff x).2 (hd.1 x (List.mem_of_getElem? hx))] at h; cases h
theorem endOf_keep {l : List Nd} {k : Nat} {x : Nd} (hx : l[k]? = some x) (h1 : 1 ≤ x.size) : (endOf l k).filter (fun e => decide ((k : Int) < e)) = endOf l k := by
  rw [endOf_at hx]
  split
  · rw [List.filter_cons_of_pos (by simp; omega)]; rfl
  · rfl
theorem ends_next {l : List Nd} {k : Nat} {x : Nd} (hx : l[k]? = some x) (h1 : 1 ≤ x.size) : endsIn l k ++ (if x.kind = 1 then [(k : Int) + x.size] else []) = endsAt l (k + 1) := by
  unfold endsIn endsAt
  rw [show ((k + 1 : Nat) : Int) - 1 = k by omega, opnV_succ, endOf_keep hx h1, endOf_at hx, List.cons_append]
theorem depN_at {l : List Nd} {k : Nat} {x : Nd} (hx : l[k]? = some x) (h1 : 1 ≤ x.size) (hk : x.kind = 1) : depN l k = (endsIn l k).length := by
  unfold depN endsIn
  rw [opnV_succ, endOf_keep hx h1, endOf_at hx, if_pos hk]
  simp
theorem endsIn_len (l : List Nd) (k : Nat) : (endsIn l k).length ≤ k + 1 := by
  have hAE : ∀ i, (AE l i).length ≤ i := by
    intro i
    induction i with
    | zero => simp [AE]
    | succ i ih =>
      rw [AE, List.length_append]
      have : (endOf l i).length ≤ 1 := by
        unfold endOf
        split
        · split <;> simp
        · simp
      omega
  unfold endsIn opnV
  have := List.length_filter_le (fun e => decide ((k : Int) < e)) (AE l k)
  have := hAE k
  simp; omega
theorem high_take {l : List Nd} {k : Nat} (h : upTo l k) : 0 ≤ sumI highN (l.take k) := sumI_pos fun x hx => by
  obtain ⟨j, hj, rfl⟩ := List.getElem_of_mem hx
  rw [List.length_take] at hj
  rw [List.getElem_take]
  exact high_pos (h.2 j _ (by omega) (List.getElem?_eq_getElem (by omega)))
theorem take_sum {l : List Nd} {k : Nat} {x : Nd} (h : upTo l k) (hx : l[k]? = some x) (hf : x.fits) (h1 : 1 ≤ x.size) (hw : x.words.length ≤ 9223372036854775807) : takeS (sumTo l k) x (endsIn l k).length = sumTo l (k + 1) := by
  obtain ⟨_, _, a3⟩ := alone_high hf hw
  have hd := depTo_pos l k
  have e : plusS (sumTo l k) (aloneS x) = ⟨depTo l k, wr (sumI piecesN (l.take (k + 1))), ((k + 1 : Nat) : Int), cut (sumI highN (l.take (k + 1)))⟩ := by
    unfold plusS
    rw [sumI_take piecesN hx, sumI_take highN hx, ← a3 _ (high_take h)]
    simp only [sumTo, aloneS]
    rw [wr_add]
    congr 1
    · omega
  unfold takeS
  rw [e]
  unfold sumTo
  rw [depTo_succ hx]
  split
  · rename_i hk
    rw [depN_at hx h1 hk]
  · rfl
theorem sum_small {l : List Nd} {k : Nat} (h : upTo l k) (hk : k ≤ 100000) : (sumTo l k).small := by
  have h3 := cut_le (sumI highN (l.take k))
  refine ⟨depTo_pos l k, wr_wr _, ⟨?_, ?_⟩, cut_pos (high_take h), ?_⟩
  · show (0 : Int) ≤ (k : Int); omega
  · show (k : Int) ≤ _; omega
  · show cut _ ≤ _
    unfold cutN at h3; exact h3
end Go.Proofs.YtipmdhfinlkceaaGreat
namespace Go.Proofs.YtipmdhfinlkceaaGreat
open Go.RowKit
structure Gal where
  ams : List Am
  fls : List Fl
  high : Int
  err : Int
def galR (L : List Nd) (wd : Int) : Gal := if wd < 1 ∨ maxX < wd then ⟨[], [], 0, 4⟩ else if chkV L ≠ 0 then ⟨[], [], 0, chkV L⟩ else ⟨(galS L wd).ams, floatsS (galS L wd), highS (galS L wd), 0⟩
def GalSeen (w : World) (g : Gal) (e : Ending) (w' : World) : Prop := ∃ A n c A2 m c2, e = .returned (.tuple #[.agg #[.slice A n c, .slice A2 m c2, .int .i64 g.high], .int .i64 g.err]) ∧ Rows 8 encAm w' A n g.ams ∧ Rows 7 encFl w' A2 m g.fls ∧ Below w.heap.size w w' ∧ (∀ q, A = some q → w.heap.size ≤ q.block) ∧ ∀ q, A2 = some q → w.heap.size ≤ q.block
theorem chk_doc {L : List Nd} (h : chkV L = 0) : IsDoc L ∧ sumI highN L ≤ maxN := by
  unfold chkV at h
  by_cases hd : docB L = true
  · rw [if_pos hd] at h
    have hdoc := (docB_iff L).1 hd
    refine ⟨hdoc, ?_⟩
    by_cases ho : overB (sumB L) = true
    · rw [if_pos ho] at h; exact absurd h (by decide)
    · unfold overB at ho
      rw [sumB_eq] at ho
      simp only [Bool.or_eq_true, decide_eq_true_eq, not_or] at ho
      have := ho.2
      have hc : cut (sumI highN L) = min (sumI highN L) 1099511627777 := rfl
      unfold maxN
      omega
  · rw [if_neg hd] at h; exact absurd h (by decide)
def zero3 : List Value := [.slice none 0 0, .slice none 0 0, .int .i64 0]
theorem zero3_of {w : World} {k : Nat} (hX : Box w k zero3) : (w.cell? ⟨k, 0, none⟩ = some (.slice none 0 0) ∧ w.cell? ⟨k, 1, none⟩ = some (.slice none 0 0) ∧ w.cell? ⟨k, 2, none⟩ = some (.int .i64 0)) ∧ (w.frozen? ⟨k, 0, none⟩ = false ∧ w.frozen? ⟨k, 1, none⟩ = false ∧ w.frozen? ⟨k, 2, none⟩ = false) ∧ k < w.heap.size :=
  ⟨⟨hX.2.2 0 _ rfl, hX.2.2 1 _ rfl, hX.2.2 2 _ rfl⟩, ⟨hX.2.1 _, hX.2.1 _, hX.2.1 _⟩, hX.1⟩
theorem box8 (w : World) (x : Am) (t : TypeId) : Box (w.alloc (.cells #[.int .i64 x.kind, .int .i64 x.node, .int .i64 x.from_, .int .i64 x.to_, .int .i64 x.x, .int .i64 x.y, .int .i64 x.w, .int .i64 x.h] t)) w.heap.size (encAm x) := Box.new w (encAm x) t
theorem am_of {w : World} {k : Nat} {x : Am} (h : Box w k (encAm x)) : w.cell? ⟨k, 0, none⟩ = some (.int .i64 x.kind) ∧ w.cell? ⟨k, 1, none⟩ = some (.int .i64 x.node) ∧ w.cell? ⟨k, 2, none⟩ = some (.int .i64 x.from_) ∧ w.cell? ⟨k, 3, none⟩ = some (.int .i64 x.to_) ∧ w.cell? ⟨k, 4, none⟩ = some (.int .i64 x.x) ∧ w.cell? ⟨k, 5, none⟩ = some (.int .i64 x.y) ∧ w.cell? ⟨k, 6, none⟩ = some (.int .i64 x.w) ∧ w.cell? ⟨k, 7, none⟩ = some (.int .i64 x.h) :=
  ⟨h.2.2 0 _ rfl, h.2.2 1 _ rfl, h.2.2 2 _ rfl, h.2.2 3 _ rfl, h.2.2 4 _ rfl, h.2.2 5 _ rfl, h.2.2 6 _ rfl, h.2.2 7 _ rfl⟩
theorem cells_box8 {w : World} {b : Nat} {x : Am} (h : Box w b (encAm x)) : Cells w (some ⟨b, 0, none⟩) 1 8 (encAm x) :=
  ⟨rfl, by decide, fun _ => ⟨b, 0, rfl, h.1, fun j y hy => by rw [Nat.zero_add]; exact h.2.2 j y hy⟩⟩
theorem am_info14 : (Tryz.prog.info? 32).map (fun i => (i.zero, i.size, i.bytes)) = some (some (.agg #[.int .i64 0, .int .i64 0, .int .i64 0, .int .i64 0, .int .i64 0, .int .i64 0, .int .i64 0, .int .i64 0]), 8, 64) := by kernel_rfl
theorem step_append_cells_at {P : Program} {w : World} {ops : Array Oper} {o : Oper} {a : Act} {K : Act → World → Prop} {Q : Exit → Act → World → Prop} {E : Prop} (hgd : o.guard = none) (s x : Operand) (t : TypeId)
    (ho : o.op = .call { callee := .builtin .append, args := #[s, x], argTypes := #[t, t] })
    (base : Nat) (e : TypeId) (i : TypeInfo) (z : Value) (size bytes : Nat) (ht : P.underlying t = some (.slice e)) (hi : P.info? e = some i) (hz : i.zero = some z)
    (hsize : i.size = size) (hby : i.bytes = bytes) (hzs : z.cells.size = size) (hsz : 0 < size)
    (v : Value) (n : Nat) (xs : List Value) (hs : a.eval s = v) (hown : w.ownsRow base e size v n xs)
    (A : Option Addr) (m c : Nat) (news : List Value) (hm : 0 < m) (hx : a.eval x = .slice A m c) (hc : Cells w A m size news) (h1 : ∀ u ∈ news, u.oneCell' = true)
    (h63 : n + m ≤ maxLen) (hbytes : (n + m) * bytes ≤ 140737488355328) (hbase : base ≤ w.heap.size)
    (h : ∀ A' c' w', w'.ownsRow base e size (.slice A' (n + m) c') (n + m) (xs ++ news) → w.grownBy w' v.ownBlock → ((Value.slice A' (n + m) c').ownBlock = v.ownBlock ∨ (Value.slice A' (n + m) c').ownBlock = some w.heap.size) → K (a.put o.dst (.slice A' (n + m) c')) w') :
    if Region.wanted o (yielded ops a.tmps) = true then Oper.wp P o a w K Q else E := by
  obtain ⟨A', c', w', hr, h2, h3, h4⟩ := run_append_cells_at (P := P) w base t o.type e i z size bytes ht hi hz hsize hby hzs hsz v n xs hown A m c news hm hc h1 h63 hbytes hbase
  have hw : Region.wanted o (yielded ops a.tmps) = true := by simp [Region.wanted, hgd]
  rw [if_pos hw]
  unfold Oper.wp execOp
  simp only [ho, resolve, invoke, builtin, Sem.run_bind, Sem.run_pure, Result.andThen_ok, List.map_toArray, List.map_cons, List.map_nil, hs, hx, hr]
  exact h _ _ _ h2 h3 h4
section
variable {w1 : World} {An Ar : Option Addr} {nn cn nr cr : Nat} {w : World} {s : Gs} {A A2 : Option Addr} {n c m c2 : Nat}
theorem across14_to {zs : List (Int × Int)} (hR : Rows 2 encRm w1 Ar nr zs) {i : Nat} (hi : i < nr) {x u : Int} (hx : zs[i]? = some (x, u)) (hw : IntKind.i64.wrap (x + u) = x + u) (h : Wk w1 An nn cn Ar nr cr w s A n c A2 m c2) :
    Calls Tryz.prog 78 #[.pointer (some ⟨w1.heap.size, 0, none⟩), .int .i64 (i : Int)] w fun e w' => e = .returned (.agg #[.int .i64 x, .int .i64 (x + u)]) ∧ Below w.heap.size w w' := by
  obtain ⟨b, o, ⟨x', u'⟩, rfl, hb, hx', hc⟩ := (hR.below h.on).at_ hi
  obtain ⟨rfl, rfl⟩ : x = x' ∧ u = u' := by rw [hx] at hx'; injection hx' with e; injection e with e1 e2; exact ⟨e1, e2⟩
  have r0 := hc 0 _ rfl
  have r1 := hc 1 _ rfl
  simp only [Nat.add_zero] at r0
  have hbd := hR.2.1
  obtain ⟨⟨_, _, _, _, k4, _, _⟩, _, _⟩ := h.cells
  have hi2 : (i : Int) < (nr : Int) := by omega
  clear hx hx' hc hR h
  go_enter Tryz.func78, Tryz.ntmps78
  go_wp2_with fail
  exact bodyPost_ret (v := .agg #[.int .i64 x, .int .i64 (x + u)]) (by simp [results, Tryz.results78, go_sem]) rfl ⟨rfl, by go_grown⟩
set_option maxHeartbeats 4000000 in
set_option maxRecDepth 100000 in
theorem wput14_to {x0 x1 x2 x3 x4 x5 x6 x7 : Int} (hy : NearI x5) (hh : NearI x7) (hn : n ≤ 10000000) (h : Wk w1 An nn cn Ar nr cr w s A n c A2 m c2) :
    Calls Tryz.prog 79 #[.pointer (some ⟨w1.heap.size, 0, none⟩), .agg #[.int .i64 x0, .int .i64 x1, .int .i64 x2, .int .i64 x3, .int .i64 x4, .int .i64 x5, .int .i64 x6, .int .i64 x7]] w fun e w' => e = .returned (.tuple #[]) ∧ WkOut w1 An nn cn Ar nr cr w A n c { s with ams := s.ams ++ [⟨x0, x1, x2, x3, x4, x5, x6, x7⟩], pen := (x5 + x7, 0) } w' := by
  obtain ⟨q0, hq0, hy0, hy1, hy2⟩ := info_parts am_info14
  have H := Lib.hid h
  have HY := Lib.hid hy
  have HH := Lib.hid hh
  clear h hy hh
  go_enter Tryz.func79, Tryz.ntmps79
  go_wp2_with fail
  generalize hW : World.alloc w _ = W
  have hal : Below w.heap.size w W := by rw [← hW]; exact (Below.refl _ _).alloc (Nat.le_refl _) _
  have HB := Lib.hid (show Box W w.heap.size (encAm ⟨x0, x1, x2, x3, x4, x5, x6, x7⟩) by rw [← hW]; exact box8 w ⟨x0, x1, x2, x3, x4, x5, x6, x7⟩ _)
  have HK := Lib.hid (H.out.below hal)
  have HF := Lib.hid (FrW.of_below (k := w1.heap.size) (r := (Value.slice A n c).ownBlock) hal)
  have HRL := Lib.hid (owns_block_lt H.out.gs.ams)
  have hkw : w1.heap.size < w.heap.size := H.out.box.1
  have hwW : w.heap.size < W.heap.size := HB.out.1
  have HWL := Lib.hid hal.size
  clear hW hal H
  have HB' := Lib.hid HB.out.drew
  have HK' := Lib.hid (HK.out.below (Below.refl _ _).drew)
  have HF' := Lib.hid (HF.out.same (FrW.of_below (k := w1.heap.size) (r := (Value.slice A n c).ownBlock) (Below.refl W.heap.size W).drew))
  refine wp_region_held_tail 12 (S := fun W' => W'.cell? ⟨w1.heap.size, 0, none⟩ = some (.slice A n c) ∧ W'.cell? ⟨w.heap.size, 0, none⟩ = some (.int .i64 x0) ∧ W'.cell? ⟨w.heap.size, 1, none⟩ = some (.int .i64 x1) ∧ W'.cell? ⟨w.heap.size, 2, none⟩ = some (.int .i64 x2) ∧ W'.cell? ⟨w.heap.size, 3, none⟩ = some (.int .i64 x3) ∧ W'.cell? ⟨w.heap.size, 4, none⟩ = some (.int .i64 x4) ∧ W'.cell? ⟨w.heap.size, 5, none⟩ = some (.int .i64 x5) ∧ W'.cell? ⟨w.heap.size, 6, none⟩ = some (.int .i64 x6) ∧ W'.cell? ⟨w.heap.size, 7, none⟩ = some (.int .i64 x7)) (by kernel_rfl) (by kernel_rfl) rfl ⟨HK'.out.cells.1.1, am_of HB'.out⟩ (fun h0 => ?_)
  simp only [headOf, List.take_succ_cons, List.take_zero, List.getElem_toArray, List.getElem_cons_succ, List.getElem_cons_zero]
  have hsd : W.heap.size = W.drew.heap.size := rfl
  generalize W.drew = U at HK' HB' HF' h0 hsd ⊢
  rw [hsd] at hwW HWL
  clear hsd HK HB HF
  refine wpAnyH_take (i := 0) (v := ?_) rfl (by kernel_rfl) (by kernel_rfl) (by kernel_rfl) (fun _ _ _ h => h) (Or.inl ⟨by rfl, ?_⟩) h0 ?_
  rotate_left
  · intro w hSw; (try dsimp only at hSw); obtain ⟨s0, s1, s2, s3, s4, s5, s6, s7, s8⟩ := hSw; go_simp; with_reducible rfl
  try simp only [Act.put, List.setIfInBounds_toArray, List.set_cons_zero, List.set_cons_succ]
  refine wpAnyH_take (i := 1) (v := ?_) rfl (by kernel_rfl) (by kernel_rfl) (by kernel_rfl) (fun _ _ _ h => h) (Or.inl ⟨by rfl, ?_⟩) h0 ?_
  rotate_left
  · intro w hSw; (try dsimp only at hSw); obtain ⟨s0, s1, s2, s3, s4, s5, s6, s7, s8⟩ := hSw; go_simp; with_reducible rfl
  try simp only [Act.put, List.setIfInBounds_toArray, List.set_cons_zero, List.set_cons_succ]
  refine wpAnyH_take (i := 2) (v := ?_) rfl (by kernel_rfl) (by kernel_rfl) (by kernel_rfl) (fun _ _ _ h => h) (Or.inl ⟨by rfl, ?_⟩) h0 ?_
  rotate_left
  · intro w hSw; (try dsimp only at hSw); obtain ⟨s0, s1, s2, s3, s4, s5, s6, s7, s8⟩ := hSw; go_simp; with_reducible rfl
  try simp only [Act.put, List.setIfInBounds_toArray, List.set_cons_zero, List.set_cons_succ]
  refine wpAnyH_take (i := 3) (v := ?_) rfl (by kernel_rfl) (by kernel_rfl) (by kernel_rfl) (fun _ _ _ h => h) (Or.inl ⟨by rfl, ?_⟩) h0 ?_
  rotate_left
  · intro w hSw; (try dsimp only at hSw); obtain ⟨s0, s1, s2, s3, s4, s5, s6, s7, s8⟩ := hSw; go_simp; with_reducible rfl
  try simp only [Act.put, List.setIfInBounds_toArray, List.set_cons_zero, List.set_cons_succ]
  refine wpAnyH_take (i := 4) (v := ?_) rfl (by kernel_rfl) (by kernel_rfl) (by kernel_rfl) (fun _ _ _ h => h) (Or.inl ⟨by rfl, ?_⟩) h0 ?_
  rotate_left
  · intro w hSw; (try dsimp only at hSw); obtain ⟨s0, s1, s2, s3, s4, s5, s6, s7, s8⟩ := hSw; go_simp; with_reducible rfl
  try simp only [Act.put, List.setIfInBounds_toArray, List.set_cons_zero, List.set_cons_succ]
  refine wpAnyH_take (i := 5) (v := ?_) rfl (by kernel_rfl) (by kernel_rfl) (by kernel_rfl) (fun _ _ _ h => h) (Or.inl ⟨by rfl, ?_⟩) h0 ?_
  rotate_left
  · intro w hSw; (try dsimp only at hSw); obtain ⟨s0, s1, s2, s3, s4, s5, s6, s7, s8⟩ := hSw; go_simp; with_reducible rfl
  try simp only [Act.put, List.setIfInBounds_toArray, List.set_cons_zero, List.set_cons_succ]
  refine wpAnyH_take (i := 6) (v := ?_) rfl (by kernel_rfl) (by kernel_rfl) (by kernel_rfl) (fun _ _ _ h => h) (Or.inl ⟨by rfl, ?_⟩) h0 ?_
  rotate_left
  · intro w hSw; (try dsimp only at hSw); obtain ⟨s0, s1, s2, s3, s4, s5, s6, s7, s8⟩ := hSw; go_simp; with_reducible rfl
  try simp only [Act.put, List.setIfInBounds_toArray, List.set_cons_zero, List.set_cons_succ]
  refine wpAnyH_ready (rs := [7]) (by kernel_rfl) (by simp) ?_
  refine AllReadyH.cons rfl (fun K hK => ?_) AllReadyH.nil
  go_simp
  have hal : Below U.heap.size U (U.alloc (.cells #[.int .i64 x0, .int .i64 x1, .int .i64 x2, .int .i64 x3, .int .i64 x4, .int .i64 x5, .int .i64 x6, .int .i64 x7] 32)) := (Below.refl _ U).alloc (Nat.le_refl _) _
  have hN := box8 U ⟨x0, x1, x2, x3, x4, x5, x6, x7⟩ 32
  have HB2 := Lib.hid (HB'.out.below hal)
  have HK2 := Lib.hid (HK'.out.below hal)
  have HF2 := Lib.hid (HF'.out.same (FrW.of_below (k := w1.heap.size) (r := (Value.slice A n c).ownBlock) hal))
  refine hK.out _ _ ⟨HK2.out.cells.1.1, am_of HB2.out⟩ (fun h1 => ?_)
  clear hK K
  try simp only [Act.put, List.setIfInBounds_toArray, List.set_cons_zero, List.set_cons_succ]
  refine wpAnyH_ready (rs := [8]) (by kernel_rfl) (by simp) ?_
  refine AllReadyH.cons rfl (fun K hK => ?_) AllReadyH.nil
  refine step_append_cells_at rfl (.tmp 9) (.tmp 11) _ rfl (w1.heap.size + 1) 32 q0 (.agg #[.int .i64 0, .int .i64 0, .int .i64 0, .int .i64 0, .int .i64 0, .int .i64 0, .int .i64 0, .int .i64 0]) 8 64 Tryz.underlying24 hq0 hy0 hy1 hy2 rfl (by decide) _ n _ rfl HK2.out.gs.ams _ 1 1 _ (by decide) rfl (cells_box8 hN) (encAm_one _) (by unfold maxLen; omega) (by omega) (by have := HK2.out.box.1; omega) ?_
  intro A7 c7 w6 hown6 hg6 ha6
  have HW := Lib.hid (HK2.out.am hown6 hg6 ha6)
  have HNR := Lib.hid (Wk.am_new (A := A) (n := n) (c := c) ha6)
  have HFW := Lib.hid ((HF2.out.same (FrW.of_grown (k := w1.heap.size) (r := (Value.slice A n c).ownBlock) hg6 (fun j e => .inr (.inl e)))).same (FrW.set w1.heap.size _ w6 0 (.slice A7 (n + 1) c7)))
  have hb6 : Box w6 w.heap.size (encAm ⟨x0, x1, x2, x3, x4, x5, x6, x7⟩) := HB2.out.grown hg6 (fun r e => by have := HRL.out r e; omega)
  have HK6 := Lib.hid (HK2.out.box.grown hg6 (fun r e => by have := HK2.out.ra r e; omega))
  have HB6 := Lib.hid (hb6.set_other (show w1.heap.size ≠ w.heap.size by omega) 0 (.slice A7 (n + 1) c7))
  refine hK.out _ _ ⟨HK6.out.2.2 0 _ rfl, am_of hb6⟩ (fun h3 => ?_)
  clear hK K
  try simp only [Act.put, List.setIfInBounds_toArray, List.set_cons_zero, List.set_cons_succ]
  refine wpAnyH_take (i := 9) (v := ?_) rfl (by kernel_rfl) (by kernel_rfl) (by kernel_rfl) (fun _ _ _ h => h) (Or.inl ⟨by rfl, ?_⟩) h3 ?_
  rotate_left
  · intro w hSw; (try dsimp only at hSw); obtain ⟨s0, s1, s2, s3, s4, s5, s6, s7, s8⟩ := hSw; go_simp; with_reducible rfl
  try simp only [Act.put, List.setIfInBounds_toArray, List.set_cons_zero, List.set_cons_succ]
  refine wpAnyH_take (i := 10) (v := ?_) rfl (by kernel_rfl) (by kernel_rfl) (by kernel_rfl) (fun _ _ _ h => h) (Or.inl ⟨by rfl, ?_⟩) h3 ?_
  rotate_left
  · intro w hSw; (try dsimp only at hSw); obtain ⟨s0, s1, s2, s3, s4, s5, s6, s7, s8⟩ := hSw; go_simp; with_reducible rfl
  try simp only [Act.put, List.setIfInBounds_toArray, List.set_cons_zero, List.set_cons_succ]
  refine wpAnyH_take (i := 11) (v := ?_) rfl (by kernel_rfl) (by kernel_rfl) (by kernel_rfl) (fun _ _ _ h => h) (Or.inl ⟨by rfl, ?_⟩) h3 ?_
  rotate_left
  · intro w hSw; (try dsimp only at hSw); obtain ⟨s0, s1, s2, s3, s4, s5, s6, s7, s8⟩ := hSw; go_simp; with_reducible rfl
  try simp only [Act.put, List.setIfInBounds_toArray, List.set_cons_zero, List.set_cons_succ]
  refine wpAnyH_done (by kernel_rfl) ?_ _
  show wpList _ _ _ _ _ _
  have k0 : w6.cell? ⟨w1.heap.size, 0, none⟩ = some (.slice A n c) := HK6.out.2.2 0 _ rfl
  have f0 : w6.frozen? ⟨w1.heap.size, 0, none⟩ = false := HK6.out.2.1 0
  have HNR2 := Lib.hid (show NewRow w.heap.size (.slice A n c) (.slice A7 (n + 1) c7) from by rcases HNR.out with h9 | h9; exact .inl h9; exact .inr (fun r e => by have := h9 r e; simp at this; omega))
  clear h0 h1 h3 hal hN HB2 HK2 HF2 hown6 hg6 ha6 hb6 HK6 HK' HB' HF' HRL HNR
  go_wp2_with fail
  clear k0 f0
  generalize w6.setCell ⟨w1.heap.size, 0, none⟩ (.slice A7 (n + 1) c7) = V at HW HFW HB6 ⊢
  obtain ⟨⟨_, _, _, _, _, k5, k6⟩, _, _⟩ := HW.out.cells
  have p0 := OnW.cell k5
  have p1 := OnW.cell k6
  have e5 := OnW.cell (am_of HB6.out).2.2.2.2.2.1
  have e7 := OnW.cell (am_of HB6.out).2.2.2.2.2.2.2
  simp only at p0 p1 e5 e7
  clear k5 k6
  refine wp_region_on_tail 12 (by kernel_rfl) (by kernel_rfl) rfl (by kernel_rfl) ?_
  simp only [headOf, List.take_succ_cons, List.take_zero, List.getElem_toArray, List.getElem_cons_succ, List.getElem_cons_zero]
  repeat (go_big_quiet_step ((go_at_call 112; with_reducible exact Calls.on_of (put13_top HY.out HH.out))))
  refine wpQuiet_nil ?_
  intro w3 hw'
  obtain ⟨⟨w', hOn⟩, hw''⟩ := hw'
  obtain rfl : w3 = w' := hw''
  have HW3 := Lib.hid (HW.out.below hOn)
  have HF3 := Lib.hid (HFW.out.same (FrW.of_below (k := w1.heap.size) (r := (Value.slice A n c).ownBlock) hOn))
  clear hOn p0 p1 e5 e7 HW HFW HB6
  obtain ⟨⟨_, _, _, _, _, k5, k6⟩, ⟨_, _, _, f5, f6⟩, kl⟩ := HW3.out.cells
  go_wp2_with fail
  go_end0
  exact ⟨rfl, A7, n + 1, c7, A2, m, c2, HW3.out.pen (x5 + x7) 0, HF3.out.same (frw_pen _ _ _ _ _), HNR2.out⟩
end
end Go.Proofs.YtipmdhfinlkceaaGreat
namespace Go.Proofs.YtipmdhfinlkceaaGreat
open Go.RowKit
theorem rows_far {α : Type} {k : Nat} {enc : α → List Value} {w w' : World} {A : Option Addr} {n : Nat} {l : List α} {row : Option Nat} (h : Rows k enc w A n l) (hg : w.grownBy w' row) (hr : ∀ q, A = some q → row ≠ some q.block) : Rows k enc w' A n l :=
  ⟨h.1, h.2.1, fun hn => by
    obtain ⟨b, off, e, hl, hc⟩ := h.2.2 hn
    exact ⟨b, off, e, Nat.lt_of_lt_of_le hl hg.size, fun i x hx j v hv => hg.cell (hc i x hx j v hv) (fun e2 => hr _ e e2.symm)⟩⟩
theorem penLns_snoc (h : Int) (p : Int × Int) (l : List Ln) (z : Ln) : penLns h p (l ++ [z]) = (z.y + h, 0) := by unfold penLns; rw [List.foldl_append]; rfl
theorem lns_bd {l : List Fl} {ws : List Int} {sp h a b : Int} (h0 : 0 ≤ h) : ∀ (f i : Nat) (y M : Int), (∀ g ∈ l, g.y + g.h ≤ M) → y ≤ M → ∀ z ∈ lnsF l ws sp h a b f i y, y ≤ z.y ∧ z.y + h ≤ M + ((lnsF l ws sp h a b f i y).length : Int) * h
  | 0, i, y, M, hM, hy, z, hz => by cases hz
  | f + 1, i, y, M, hM, hy, z, hz => by
    unfold lnsF at hz ⊢
    by_cases hi : i < ws.length
    · rw [if_pos hi] at hz ⊢
      have hy2 : (lineL l ws sp h a b i y).y = seekE l h (wordI ws i) a b y := rfl
      have hge : y ≤ (lineL l ws sp h a b i y).y := by rw [hy2]; exact seekE_ge _
      have hle : (lineL l ws sp h a b i y).y ≤ M := by rw [hy2]; exact seekE_le hM hy
      have hp : 0 ≤ ((lnsF l ws sp h a b f (lineL l ws sp h a b i y).to_.toNat ((lineL l ws sp h a b i y).y + h)).length : Int) * h := Int.mul_nonneg (by omega) h0
      have e : (((lineL l ws sp h a b i y :: lnsF l ws sp h a b f (lineL l ws sp h a b i y).to_.toNat ((lineL l ws sp h a b i y).y + h)).length : Nat) : Int) * h = ((lnsF l ws sp h a b f (lineL l ws sp h a b i y).to_.toNat ((lineL l ws sp h a b i y).y + h)).length : Int) * h + h := by
        rw [List.length_cons, Int.natCast_add, Int.add_mul]; simp only [Int.natCast_one, Int.one_mul]
      rw [e]
      rcases List.mem_cons.1 hz with rfl | hz
      · omega
      · have ih := lns_bd (l := l) (ws := ws) (sp := sp) (a := a) (b := b) h0 f (lineL l ws sp h a b i y).to_.toNat ((lineL l ws sp h a b i y).y + h) (M + h) (fun g hg => by have := hM g hg; omega) (by omega) z hz
        omega
    · rw [if_neg hi] at hz; cases hz
set_option maxHeartbeats 8000000 in
set_option maxRecDepth 100000 in
theorem stext_to {l : List Fl} {ws : List Int} {sp h a b y M : Int} {v : List Ln} (hv : lnsL l ws sp h a b 0 y = v) (hn : ∀ f ∈ l, f.near) (hy : NearI y) (h0 : 0 ≤ h) (h1 : h ≤ 1099511627776) (hM : ∀ f ∈ l, f.y + f.h ≤ M) (hyM : y ≤ M) (hM2 : M + (ws.length : Int) * h ≤ 562949953421312) (ha : NearI a) (hb : NearI b) (hws : Near9 ws sp) {A A2 : Option Addr} {n c m c2 : Nat} (hm : m ≤ 10000) {w : World} (hA : Rows 7 encFl w A n l) (hW : Ints w A2 m ws) :
    Calls Tryz.prog 77 #[.slice A n c, .slice A2 m c2, .int .i64 sp, .int .i64 h, .int .i64 y, .agg #[.int .i64 a, .int .i64 b]] w (LnsOwn w v) := by
  obtain ⟨i0, hi0, hy0, hy1, hy2⟩ := info_parts set_info
  have HH := Lib.hid (show NearI h by unfold NearI farB; omega)
  have HL := Lib.hid hW.1
  have HYL := Lib.hid (show -1125899906842624 ≤ y from hy.1)
  have HLN := Lib.hid (show ∀ (i : Nat) (y1 : Int), i < ws.length → NearY y1 → ∀ W', On w W' → Calls Tryz.prog 111 #[.agg #[.int .i64 a, .int .i64 b, .slice A n c, .int .i64 y1, .int .i64 h], .slice A2 m c2, .int .i64 sp, .int .i64 (i : Int)] W' fun e w' => e = .returned (.agg #[.int .i64 (lineL l ws sp h a b i y1).from_, .int .i64 (lineL l ws sp h a b i y1).to_, .int .i64 (lineL l ws sp h a b i y1).x, .int .i64 (lineL l ws sp h a b i y1).y, .int .i64 (lineL l ws sp h a b i y1).w]) ∧ Below W'.heap.size W' w' from
    fun i y1 hi hy1 W' ho => sline_to rfl hi hn hy1 HH.out ha hb hws hm (hA.on ho) (hW.below (B := w.heap.size) ho rfl))
  have HV := Lib.hid hv
  have HMM := Lib.hid hM
  have H0 := Lib.hid h0
  have H1 := Lib.hid h1
  have HYM := Lib.hid hyM
  have HM2 := Lib.hid hM2
  clear hv hn hy h0 h1 hM hyM hM2 ha hb hws hA hW HH
  go_enter Tryz.func77, Tryz.ntmps77
  go_wp2_with fail
  generalize hW : World.alloc (World.alloc w _) _ = W
  have HI0 := Lib.hid (show Box W (w.heap.size + 1) (strp a b A n c y h) by rw [← hW]; exact box_newNl _ (strp a b A n c y h) _ _ (by simp))
  have HB0 := Lib.hid (show Below w.heap.size w W by rw [← hW]; go_grown)
  clear hW
  go_loopw [13, 15, 16] (fun o i x wr => ∃ (j m3 c1 : Nat) (A1 : Option Addr) (dn : List Ln) (y1 : Int), o = .slice A1 m3 c1 ∧ i = .int .i64 (j : Int) ∧ j ≤ m ∧ m3 ≤ j ∧ Hid (dn.length = m3) ∧ Hid (dn ++ lnsL l ws sp h a b j y1 = v) ∧ Hid (-1125899906842624 ≤ y1 ∧ y1 ≤ M + (m3 : Int) * h) ∧ Hid (wr.ownsRow (w.heap.size + 1 + 1) 118 5 (.slice A1 m3 c1) m3 (dn.flatMap encLn)) ∧ Hid (Box wr (w.heap.size + 1) (strp a b A n c y1 h)) ∧ Hid (Below w.heap.size w wr)) (fun _ i _ _ => m - (intOf i).toNat)
  case atStart => exact ⟨0, 0, 0, none, [], y, rfl, rfl, Nat.zero_le _, Nat.le_refl _, Lib.hid rfl, HV, Lib.hid ⟨HYL.out, by have := HYM.out; simp; omega⟩, Lib.hid (owns_nil _ _ _ _), HI0, HB0⟩
  case round =>
    obtain ⟨j, m3, c1, A1, dn, y1, rfl, rfl, hjm, hmj, HD, HT, HY, HO, HI, HB⟩ := hrel
    by_cases hlt : j < m
    · have hlt2 : (j : Int) < (m : Int) := by omega
      have HJ := Lib.hid (show j < ws.length by have := HL.out; omega)
      have hmm : 0 ≤ (m3 : Int) * h ∧ (m3 : Int) * h ≤ (ws.length : Int) * h := ⟨Int.mul_nonneg (by omega) H0.out, Int.mul_le_mul_of_nonneg_right (by have := HL.out; omega) H0.out⟩
      have HNY := Lib.hid (show NearY y1 by have := HY.out; have := HM2.out; unfold NearY farB; omega)
      obtain ⟨x, hx⟩ : ∃ x, lineL l ws sp h a b j y1 = x := ⟨_, rfl⟩
      have hln := HLN.out j y1 HJ.out HNY.out wr HB.out
      rw [hx] at hln
      obtain ⟨t, ht, ht1, ht2⟩ := lineL_to l ws sp h a b y1 HJ.out
      rw [hx] at ht
      have HT2 := Lib.hid (show (dn ++ [x]) ++ lnsL l ws sp h a b t (x.y + h) = v by
        rw [← HT.out, lnsL_step HJ.out, hx, ht, Int.toNat_natCast, List.append_assoc]; rfl)
      have hxy : x.y = seekE l h (wordI ws j) a b y1 := by rw [← hx]; rfl
      have hge : y1 ≤ x.y := by rw [hxy]; exact seekE_ge _
      have hle : x.y ≤ M + (m3 : Int) * h := by
        rw [hxy]
        exact seekE_le (fun f hf => by have := HMM.out f hf; omega) HY.out.2
      have HXY := Lib.hid (show -1125899906842624 ≤ x.y + h ∧ x.y + h ≤ M + ((m3 + 1 : Nat) : Int) * h by rw [mul_one_up]; have := HY.out; have := H0.out; omega)
      have hw : IntKind.i64.wrap (x.y + h) = x.y + h := IntWalk.i64_in _ (by have := HY.out; have := H0.out; have := H1.out; have := HM2.out; omega)
      have HLN1 := Lib.hid hln
      have htm : t ≤ m := by have := HL.out; omega
      have htj : j < t := ht1
      obtain ⟨x0, x1, x2, x3, x4⟩ := x
      simp only at ht hw HXY HT2 HLN1
      subst ht
      clear hx hln ht1 ht2 hxy hge hle hmm
      obtain ⟨⟨p0, p1, p2, p3, p4⟩, _⟩ := strp_of HI.out
      go_wp2_with fail
      refine HLN1.out.mono ?_
      rintro e w1 ⟨rfl, hb⟩
      have HO1 := Lib.hid (owns_below HO.out hb)
      have HI1 := Lib.hid (HI.out.below hb)
      have HB1 := Lib.hid (below_then HB.out hb)
      clear hb p0 p1 p2 p3 p4 HO HI HB HLN1
      go_wp2_with ((with_reducible refine stop_dst 34 ?_ ?_); exact rfl)
      refine Stop.intro ?_
      generalize hZ : w1.alloc (.cells #[.int .i64 x0, .int .i64 (t : Int), .int .i64 x2, .int .i64 x3, .int .i64 x4] 118) = Z
      have hal : Below w1.heap.size w1 Z := by rw [← hZ]; exact (Below.refl _ _).alloc (Nat.le_refl _) _
      have HX := Lib.hid (show Box Z w1.heap.size (encLn ⟨x0, (t : Int), x2, x3, x4⟩) by rw [← hZ]; exact Box.new w1 (encLn ⟨x0, (t : Int), x2, x3, x4⟩) _)
      have HO2 := Lib.hid (owns_below (owns_below HO1.out hal) ((Below.refl Z.heap.size Z).alloc (Nat.le_refl _) (.cells #[.int .i64 x0, .int .i64 (t : Int), .int .i64 x2, .int .i64 x3, .int .i64 x4] 118)))
      have HI2 := Lib.hid (HI1.out.below hal)
      have HB2 := Lib.hid (below_then HB1.out hal)
      have HLT := Lib.hid (show ∀ r, (Value.slice A1 m3 c1).ownBlock = some r → r < w1.heap.size from owns_block_lt HO1.out)
      have hz1 := HI2.out.1
      have hzs : w1.heap.size + 1 = Z.heap.size := by rw [← hZ]; simp
      have hz1w : w.heap.size + 1 < w1.heap.size := HI1.out.1
      clear hZ hal HO1 HI1 HB1
      refine wpList_append_cells _ rfl (.tmp 31) (.tmp 33) _ rfl (w.heap.size + 1 + 1) 118 i0 (.agg #[.int .i64 0, .int .i64 0, .int .i64 0, .int .i64 0, .int .i64 0]) 5 40 Tryz.underlying115 hi0 hy0 hy1 hy2 rfl (by decide) (.slice A1 m3 c1) m3 _ rfl HO2.out _ 1 1 _ rfl (cells_ln Z 118 ⟨x0, (t : Int), x2, x3, x4⟩ (w1.heap.size + 1) hzs) (encLn_one _) (by unfold maxLen; omega) (by omega) (by simp; omega) ?_
      intro A5 c5 w5 hown5 hg5
      have hbl := owns_block HO2.out
      have HX5 := Lib.hid ((HX.out.alloc (.cells #[.int .i64 x0, .int .i64 (t : Int), .int .i64 x2, .int .i64 x3, .int .i64 x4] 118)).grown hg5 (fun r e => by have := HLT.out r e; omega))
      have HI5 := Lib.hid ((HI2.out.alloc (.cells #[.int .i64 x0, .int .i64 (t : Int), .int .i64 x2, .int .i64 x3, .int .i64 x4] 118)).grown hg5 (fun r e => by have := hbl r e; omega))
      have HB5 := Lib.hid ((HB2.out.alloc (by have := HB2.out.size; omega) (.cells #[.int .i64 x0, .int .i64 (t : Int), .int .i64 x2, .int .i64 x3, .int .i64 x4] 118)).grown hg5 (by have := HB2.out.size; simp; omega) (fun r e => by have := hbl r e; omega))
      have HO5 := Lib.hid (show w5.ownsRow (w.heap.size + 1 + 1) 118 5 (.slice A5 (m3 + 1) c5) (m3 + 1) ((dn ++ [(⟨x0, (t : Int), x2, x3, x4⟩ : Ln)]).flatMap encLn) by rw [flat_snoc]; exact hown5)
      have HD5 := Lib.hid (show (dn ++ [(⟨x0, (t : Int), x2, x3, x4⟩ : Ln)]).length = m3 + 1 by rw [List.length_append, HD.out]; rfl)
      have hlb := HI2.out.1
      have hwz := HB2.out.size
      have hx1 : w.heap.size + 1 < w1.heap.size := hz1w
      clear hown5 hg5 hbl HX HO2 HI2 HB2 HLT hz1 hzs hlb hwz
      obtain ⟨⟨k0, k1, k2, k3, k4⟩, _⟩ := HX5.out.of5l
      obtain ⟨⟨e0, e1, e2, e3, e4⟩, ef, el⟩ := strp_of HI5.out
      have f3 := ef 3
      clear ef
      have hxs : w.heap.size + 1 ≠ w1.heap.size := by omega
      go_wp2_with fail
      go_region
      have HI6 := Lib.hid (show Box (w5.setCell ⟨w.heap.size + 1, 3, none⟩ (.int .i64 (x3 + h))).drew (w.heap.size + 1) (strp a b A n c (x3 + h) h) from (HI5.out.set 3 (.int .i64 (x3 + h)) (by simp [strp])).drew)
      have HB6 := Lib.hid ((HB5.out.setCell (p := ⟨w.heap.size + 1, 3, none⟩) (by simp) (.int .i64 (x3 + h))).drew)
      have HO6 := Lib.hid (owns_below (owns_set13 HO5.out (m := w.heap.size + 1) (by omega) 3 (.int .i64 (x3 + h))) (Below.refl _ _).drew)
      go_wp2_with fail
      go_roundw
      case rel => exact ⟨t, m3 + 1, c5, A5, dn ++ [(⟨x0, (t : Int), x2, x3, x4⟩ : Ln)], x3 + h, rfl, rfl, htm, by omega, HD5, HT2, HXY, HO6, HI6, HB6⟩
      case measure => simp [intOf] <;> omega
    · have hge : (m : Int) ≤ (j : Int) := by omega
      have HE := Lib.hid (show dn = v by rw [← HT.out, lnsL_end (by have := HL.out; omega), List.append_nil])
      have HD2 := Lib.hid HD.out
      go_wp2_with fail
      go_ret
      exact ⟨A1, m3, c1, rfl, by rw [← HE.out]; exact HD.out.symm, by rw [← HE.out]; exact owns_mono13 HO.out (by omega), HB.out⟩
set_option maxHeartbeats 2000000 in
theorem clone11_to {l : List Fl} {A : Option Addr} {n c : Nat} {w : World} (h : Rows 7 encFl w A n l) (hn : n ≤ 10000) :
    Calls Tryz.prog 115 #[.slice A n c] w fun e w' => ∃ A' c', e = .returned (.slice A' n c') ∧ w'.ownsRow w.heap.size 67 7 (.slice A' n c') n (l.flatMap encFl) ∧ Below w.heap.size w w' := by
  have HA := Lib.hid h
  have HL := Lib.hid h.1
  obtain ⟨i0, hi0, hz0, hz1, hz2⟩ := info_parts fl_info'
  cases A with
  | none =>
    have hn0 : n = 0 := by
      rcases Nat.eq_zero_or_pos n with h0 | h0
      · exact h0
      · obtain ⟨b, off, e, _⟩ := h.2.2 h0
        cases e
    subst hn0
    have hl : l = [] := List.eq_nil_of_length_eq_zero HL.out
    subst hl
    clear h
    have he : ∀ w : World, (binOp .eql 25 (.slice none 0 c) (.slice none 0 0)).run Tryz.prog w = .ok (.bool true) w := fun w => Lib.run_eql_slice_nil (P := Tryz.prog) w _ _ _ _ _ _ _ Tryz.underlying25
    go_enter Tryz.func115, Tryz.ntmps115
    go_wp2_with fail
    go_ret
    exact ⟨_, _, rfl, owns_nil _ _ _ _, Below.refl _ _⟩
  | some p =>
    clear h
    have he : ∀ w : World, (binOp .eql 25 (.slice (some p) n c) (.slice none 0 0)).run Tryz.prog w = .ok (.bool false) w := fun w => Lib.run_eql_slice_nil (P := Tryz.prog) w _ _ _ _ _ _ _ Tryz.underlying25
    go_enter Tryz.func115, Tryz.ntmps115
    go_wp2_with ((with_reducible refine stop_dst 7 ?_ ?_); exact rfl)
    refine Stop.intro ?_
    have hO : (w.alloc (.cells #[] 67)).ownsRow w.heap.size 67 7 (.slice (some ⟨w.heap.size, 0, none⟩) 0 0) 0 [] := World.ownsRow_made w #[] 0 (Nat.le_refl _) (by decide) rfl
    have hC : Cells (w.alloc (.cells #[] 67)) (some p) n 7 (l.flatMap encFl) := (HA.out.below ((Below.refl _ _).alloc (Nat.le_refl _) _)).cells encFl_len (by decide)
    refine wpList_append_cells _ rfl (.tmp 5) (.tmp 6) _ rfl w.heap.size 67 i0 (.agg #[.int .i64 0, .int .i64 0, .int .i64 0, .int .i64 0, .int .i64 0, .int .i64 0, .int .i64 0]) 7 56 Tryz.underlying25 hi0 hz0 hz1 hz2 rfl (by decide) _ 0 [] rfl hO (some p) n c _ rfl hC (fls_one' l) (by unfold maxLen; omega) (by omega) (by simp) ?_
    intro A1 c1 w2 hown1 hg1
    simp only [Nat.zero_add, List.nil_append] at hown1
    have hb1 : Below w.heap.size w w2 := ((Below.refl _ _).alloc (Nat.le_refl _) _).grown hg1 (by simp) (by intro k hk; cases hk; exact Nat.le_refl _)
    clear hg1 hO hC hi0 hz0 hz1 hz2 he
    go_wp2_with fail
    go_ret
    exact ⟨A1, c1, rfl, hown1, hb1⟩
theorem owns_mono11 {w : World} {base b2 : Nat} {e : TypeId} {size : Nat} {v : Value} {n : Nat} {xs : List Value} (h : w.ownsRow base e size v n xs) (hb : b2 ≤ base) : w.ownsRow b2 e size v n xs := by
  refine ⟨h.1, ?_⟩
  rcases h.2 with h2 | ⟨g, cap, cur, h1, h2, h3⟩
  · exact .inl h2
  · exact .inr ⟨g, cap, cur, h1, by omega, h3⟩
set_option maxHeartbeats 16000000 in
set_option maxRecDepth 100000 in
theorem put11_to {l : List Fl} {f0 f1 f2 f3 f4 f5 f6 y a b x t : Int} {A : Option Addr} {n c : Nat} {w : World} (hx : spotX l ⟨f0, f1, f2, f3, f4, f5, f6⟩ y a b = x) (ht : spotY l ⟨f0, f1, f2, f3, f4, f5, f6⟩ y a b = t) (hn : ∀ g ∈ l, g.near) (hf : (⟨f0, f1, f2, f3, f4, f5, f6⟩ : Fl).near) (hy : NearI y) (ha : NearI a) (hb : NearI b) (hn2 : n ≤ 10000) (h : Rows 7 encFl w A n l) :
    Calls Tryz.prog 81 #[.slice A n c, .agg #[.int .i64 f0, .int .i64 f1, .int .i64 f2, .int .i64 f3, .int .i64 f4, .int .i64 f5, .int .i64 f6], .int .i64 y, .agg #[.int .i64 a, .int .i64 b]] w (FlsOwn w (l ++ [⟨f0, f1, f2, x, t, f5, f6⟩])) := by
  have HL := Lib.hid h.1
  obtain ⟨i0, hi0, hz0, hz1, hz2⟩ := info_parts fl_info'
  obtain ⟨W, hW⟩ : ∃ W, (w.alloc (.cells #[.int .i64 f0, .int .i64 f1, .int .i64 f2, .int .i64 f3, .int .i64 f4, .int .i64 f5, .int .i64 f6] 67)).alloc (.cells #[.int .i64 a, .int .i64 b] 112) = W := ⟨_, rfl⟩
  have hB : Below w.heap.size w W := by rw [← hW]; go_grown
  have HB := Lib.hid hB
  have HC := Lib.hid (fun (v : World) (hv : On W v) => placed11_to (c := c) hx ht hn hf hy ha hb (h.below (below_then hB hv)))
  have HK := Lib.hid (show ∀ v : World, On W v → Calls Tryz.prog 115 #[.slice A n c] v fun e w' => ∃ A' c', e = .returned (.slice A' n c') ∧ w'.ownsRow W.heap.size 67 7 (.slice A' n c') n (l.flatMap encFl) ∧ Below v.heap.size v w' from
    fun v hv => (clone11_to (c := c) (h.below (below_then hB hv)) hn2).mono (by rintro e w2 ⟨A2, c2, rfl, ho, hb⟩; exact ⟨A2, c2, rfl, owns_mono11 ho (Below.size hv), hb⟩))
  have HD := Lib.hid (show Box W w.heap.size (encFl ⟨f0, f1, f2, f3, f4, f5, f6⟩) by rw [← hW]; exact (box7 w ⟨f0, f1, f2, f3, f4, f5, f6⟩ _).alloc _)
  have hI : Box W (w.heap.size + 1) [.int .i64 a, .int .i64 b] := by rw [← hW]; exact Box.new2' _ _ _ _ _ (by simp)
  have HW := Lib.hid hW
  obtain ⟨⟨p0, p1, p2, p3, p4, p5, p6⟩, hBl2⟩ := HD.out.of7
  simp only at p0 p1 p2 p3 p4 p5 p6
  have k0 := On.cell p0
  have k1 := On.cell p1
  have k2 := On.cell p2
  have k3 := On.cell p3
  have k4 := On.cell p4
  have k5 := On.cell p5
  have k6 := On.cell p6
  obtain ⟨j0, j1⟩ := On.of2 hI
  clear hx ht hn hf hy ha hb h hW hI p0 p1 p2 p3 p4 p5 p6 hBl2 hB
  go_enter Tryz.func81, Tryz.ntmps81
  go_wp2_with fail
  rw [HW.out]
  go_region_held3 (fun W' => On W W') (first | exact (On.refl _).drew | exact hO4 | exact On.step (by assumption) hb | exact On.alloc (by assumption) _) (first
    | (go_at_call 115; ((with_reducible refine (HK.out _ (by assumption)).mono ?_); rintro e w2 ⟨A2, c2, rfl, hown2, hb⟩; have HO2 := Lib.hid hown2; clear hown2))
    | (go_at_call 116; ((with_reducible refine (HC.out _ (by assumption)).mono ?_); rintro e w3 ⟨rfl, hb⟩; have HO3 := Lib.hid (owns_below HO2.out hb)))
    | (refine step_append_cells _ (by rfl) (.tmp 10) (.tmp 16) _ (by rfl) W.heap.size 67 i0 (.agg #[.int .i64 0, .int .i64 0, .int .i64 0, .int .i64 0, .int .i64 0, .int .i64 0, .int .i64 0]) 7 56 Tryz.underlying25 hi0 hz0 hz1 hz2 rfl (by decide) _ n _ (by rfl) (owns_below HO3.out ((Below.refl _ _).alloc (Nat.le_refl _) _)) _ 1 1 _ (by rfl) (cells7 _ ⟨f0, f1, f2, x, t, f5, f6⟩ _) (encFl_one ⟨f0, f1, f2, x, t, f5, f6⟩) (by unfold maxLen; omega) (by omega) (Below.size (by assumption)) ?_; intro A4 c4 w4 hown4 hg4; have hO4 : On W w4 := Below.grown (by assumption) hg4 (Below.size (by assumption)) (fun r e => owns_block HO3.out r e)))
  go_wp2_with fail
  go_ret
  refine ⟨A4, n + 1, c4, rfl, by rw [List.length_append, HL.out]; rfl, ?_, below_then HB.out hO4⟩
  have e : (l ++ [(⟨f0, f1, f2, x, t, f5, f6⟩ : Fl)]).flatMap encFl = l.flatMap encFl ++ encFl ⟨f0, f1, f2, x, t, f5, f6⟩ := by simp [List.flatMap_append]
  rw [e]
  exact owns_mono11 hown4 HB.out.size
theorem gal_cases (L : List Nd) (wd : Int) : (∃ f, galR L wd = ⟨[], [], 0, f⟩ ∧ f ≠ 0 ∧ (chkV L ≠ 0 ∨ f = 4)) ∨ (galR L wd = ⟨(galS L wd).ams, floatsS (galS L wd), highS (galS L wd), 0⟩ ∧ 1 ≤ wd ∧ wd ≤ maxX ∧ IsDoc L ∧ sumE L (evN L 0 L.length) ≤ maxN ∧ chkV L = 0) := by
  unfold galR
  by_cases h1 : wd < 1 ∨ maxX < wd
  · rw [if_pos h1]
    exact .inl ⟨4, rfl, by decide, .inr rfl⟩
  · rw [if_neg h1]
    by_cases h2 : chkV L ≠ 0
    · rw [if_pos h2]
      exact .inl ⟨chkV L, rfl, h2, .inl h2⟩
    · rw [if_neg h2]
      have h3 : chkV L = 0 := by simpa using h2
      obtain ⟨hd, hs⟩ := chk_doc h3
      exact .inr ⟨rfl, by omega, by omega, hd, Int.le_trans (sumE_all hd.2.nested hd.1) hs, h3⟩
def doc14A : List Nd := [⟨1, 2, ⟨5, 7, 0, 0, 0, 2, 2, 0, 0, 0, 0, 0⟩, 0, 0, [], 0, 0, 0⟩, ⟨2, 1, .none, 10, 2, [30, 30, 50], 0, 0, 0⟩, ⟨1, 2, ⟨3, 0, 0, 0, 0, 2, 2, 0, 0, 0, 0, 0⟩, 0, 0, [], 0, 0, 0⟩, ⟨3, 1, .none, 0, 0, [], 0, 20, 8⟩]
def ams14A : List Am := [⟨1, 1, 0, 2, 0, 5, 62, 10⟩, ⟨1, 1, 2, 3, 0, 15, 50, 10⟩, ⟨2, 3, 0, 0, 0, 32, 20, 8⟩]
def fls14A : List Fl := []
theorem eval14A : evalF ⟨#[91, 109, 53, 32, 110, 55, 40, 49, 48, 32, 50, 32, 51, 48, 32, 51, 48, 32, 53, 48, 41, 93, 91, 109, 51, 123, 50, 48, 32, 56, 125, 93]⟩ = some (some doc14A, 0) := by show evalF ⟨#[91, 109, 53, 32, 110, 55, 40, 49, 48, 32, 50, 32, 51, 48, 32, 51, 48, 32, 53, 48, 41, 93, 91, 109, 51, 123, 50, 48, 32, 56, 125, 93]⟩ = _; decide +kernel
theorem gal14A : galR doc14A 100 = ⟨ams14A, fls14A, 40, 0⟩ := by kernel_rfl
end Go.Proofs.YtipmdhfinlkceaaGreat
