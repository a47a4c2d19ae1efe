import Derived.Test.YtakdopblggkfnaaWordsEnds
/- The program's package words: how wide a run is. -/
namespace Go.Proofs.Ytakdopblggkfnaa
open Go.RowKit Go.Shelf
set_option linter.unusedVariables false
set_option linter.unusedSimpArgs false
attribute [local go_sem] Oper.semAt_some
/-- between two rounds of Wide's loop. -/
def WidI (w : World) (a b : Int) (pre : List K9) (W : World) : Prop := (∀ k ∈ pre, a + ((k.1 : Nat) : Int) + 1 ≠ b) ∧ Boxed W w.heap.size 3 (.int .i64 b) ∧ Boxed W (w.heap.size + 1) 3 (.int .i64 0) ∧ Below w.heap.size w W
/-- where a round has returned. -/
def WidX (w : World) (zs : List Int) (sp a b : Int) (c : Code) (pre : List K9) (W : World) : Prop := c = .ret ∧ ∃ k ∈ pre, a + ((k.1 : Nat) : Int) + 1 = b ∧ Boxed W (w.heap.size + 1) 3 (.int .i64 (wideK zs sp a (k.1 + 1))) ∧ Below w.heap.size w W
theorem widI_own {w : World} {B : Nat} {a b : Int} (hB : w.heap.size ≤ B) : OwnFrom B (WidI w a b) := fun pre X Y row ⟨h0, h1, h2, h3⟩ hg hr =>
  ⟨h0, boxed_kept9 h1 hg hr, boxed_kept9 h2 hg hr, ownFrom_below (β := Unit) (w₀ := w) (Nat.le_refl _) hB () X Y row h3 hg hr⟩
theorem widX_own {w : World} {zs : List Int} {sp a b : Int} {B : Nat} (hB : w.heap.size ≤ B) (c : Code) : OwnFrom B (WidX w zs sp a b c) := fun pre X Y row ⟨h0, k, h1, h2, h3, h4⟩ hg hr =>
  ⟨h0, k, h1, h2, boxed_kept9 h3 hg hr, ownFrom_below (β := Unit) (w₀ := w) (Nat.le_refl _) hB () X Y row h4 hg hr⟩
theorem wide_none {zs : List Int} {sp a b : Int} {xs : List K9} (hxs : xs.map (·.1) = List.range (leftN zs a)) (h : ∀ k ∈ xs, a + ((k.1 : Nat) : Int) + 1 ≠ b) : wideI zs sp a b = 0 := by
  have h2 : ∀ k : Nat, k < leftN zs a → a + (k : Int) + 1 ≠ b := fun k hk => by
    have : k ∈ xs.map (·.1) := by rw [hxs]; exact List.mem_range.2 hk
    obtain ⟨x, hx, rfl⟩ := List.mem_map.1 this
    exact h x hx
  unfold leftN at h2
  refine wideI_bad ?_
  by_cases h3 : 0 ≤ a ∧ a < (zs.length : Int)
  · rw [if_pos h3] at h2
    rcases Int.lt_or_le a b with h4 | h4
    · rcases Int.lt_or_le (zs.length : Int) b with h5 | h5
      · exact .inr (.inr (.inr h5))
      · exact absurd (by omega) (h2 (b - a - 1).toNat (by omega))
    · exact .inr (.inr (.inl h4))
  · omega
theorem wide_some {zs : List Int} {sp a b : Int} {pre : List K9} {q : Nat} (hq : q < leftN zs a) (hp : pre.map (·.1) = List.range (q + 1)) {k : K9} (hk : k ∈ pre) (hb : a + ((k.1 : Nat) : Int) + 1 = b) : wideI zs sp a b = wideK zs sp a (k.1 + 1) := by
  have h1 : k.1 < q + 1 := by
    have : k.1 ∈ pre.map (·.1) := List.mem_map.2 ⟨k, hk, rfl⟩
    rw [hp] at this; exact List.mem_range.1 this
  unfold leftN at hq
  by_cases h3 : 0 ≤ a ∧ a < (zs.length : Int)
  · unfold wideI
    rw [if_pos (by omega)]
    show _ = wideN zs sp a.toNat (a.toNat + (k.1 + 1))
    congr 1; omega
  · rw [if_neg h3] at hq; omega
set_option maxRecDepth 100000 in
set_option maxHeartbeats 4000000 in
theorem pwide_in {zs : List Int} {sp a b v : Int} (hv : wideI zs sp a b = v) (hn : Near9 zs sp) (ha : I64w a) (hb : I64w b) {A : Option Addr} {m c : Nat} (hm : m ≤ 1000) {w : World} (h : Ints w A m zs) :
    CallsIn Fence.wide 9 Try.prog 8 #[.slice A m c, .int .i64 sp, .int .i64 a, .int .i64 b] w fun e w' => e = .returned (.int .i64 v) ∧ Below w.heap.size w w' := by
  have HA := Lib.hid h
  have HV := Lib.hid hv
  have HN := Lib.hid hn
  have HIa := Lib.hid ha
  have HIb := Lib.hid hb
  clear h hv hn ha hb
  refine callsIn_of_wp_marks Try.func8 rfl trivial ?_ rfl
  simp only [Try.ntmps8, List.size_toArray, List.length_cons, List.length_nil, Nat.reduceAdd, Nat.reduceSub, Array.replicate_succ, Array.replicate_zero, List.push_toArray, List.append_toArray, List.nil_append, List.cons_append]
  gi_wp2_with ((refine ⟨trivial, ?_⟩; gi_at_call 16; refine (callsIn_wide.2 (ends_in _ _ _ _ _ _)).mono ?_; rintro e w2 ⟨rfl, hw2⟩; have HW2 := Lib.hid hw2; clear hw2))
  have hw2 := HW2.out
  clear HW2
  obtain ⟨W1, hW1⟩ : ∃ W1, (w.alloc (.cells #[.int .i64 b] 3)).alloc (.cells #[.int .i64 0] 3) = W1 := ⟨_, rfl⟩
  rw [hW1] at hw2
  have hs1 : W1.heap.size = w.heap.size + 2 := by rw [← hW1]; simp
  have hB1 : Below w.heap.size w W1 := by rw [← hW1]; exact ((Below.refl _ w).alloc (Nat.le_refl _) _).alloc (by simp) _
  have hv0 : Boxed W1 w.heap.size 3 (.int .i64 b) := by rw [← hW1]; exact (Below.heap_alloc _ _ _ (by simp)).trans (Boxed.new w 3 (.int .i64 b))
  have hv1 : Boxed W1 (w.heap.size + 1) 3 (.int .i64 0) := by
    rw [← hW1]
    have := World.alloc_heap_new (w.alloc (.cells #[.int .i64 b] 3)) (.cells #[.int .i64 0] 3)
    rwa [World.size_alloc] at this
  obtain ⟨g1, g2, g3, g4, g5⟩ := three_boxes W1 _ _ _ _ _ _ w2 hw2

  have hx0 : Boxed w2 w.heap.size 3 (.int .i64 b) := (g4.block w.heap.size (by omega)).trans hv0
  have hx1 : Boxed w2 (w.heap.size + 1) 3 (.int .i64 0) := (g4.block (w.heap.size + 1) (by omega)).trans hv1
  have hB2 : Below w.heap.size w w2 := below_then hB1 g4
  rw [show w.heap.size + 1 + 1 = W1.heap.size by omega]
  have hRd : ∀ V, On w2 V → Reads9 zs sp a A m c W1.heap.size V := fun V hV => ⟨On.cell (cell_of9 g1) V hV, On.cell (cell_of9 g2) V hV, On.cell (cell_of9 g3) V hV, HA.out.below (below_then hB2 hV) rfl⟩
  have HST := Lib.hid (ends_stops W1.heap.size w2 HN.out hm HIa.out HA.out.1 (On w2) (Below w2.heap.size) hRd (fun V h => h.drew) (fun X Y h k => h.trans k) (fun V h => h))
  have hz1 : w.heap.size + 2 ≤ W1.heap.size := by omega
  have hz2 : W1.heap.size + 3 ≤ w2.heap.size := by omega
  clear hRd hw2 hB1 g1 g2 g3 g4 g5 hs1 hv0 hv1 hW1
  refine wpIn_rangeFunc_ownF (F := Fence.wide) rfl (by omega) (gf := 17) (lb := #[.pointer (some ⟨W1.heap.size + 2, 0, none⟩), .pointer (some ⟨W1.heap.size, 0, none⟩), .pointer (some ⟨W1.heap.size + 1, 0, none⟩)]) rfl trivial (enters_of Try.func17 (by kernel_rfl) rfl)
    (HST.out 8) belowK_t (belowK_b (Nat.le_refl _)) (Below.refl _ _) (fun _ => rfl) (WidI w a b) (WidX w zs sp a b) (widI_own (by omega)) (fun c => widX_own (by omega) c) ⟨by simp, hx0, hx1, hB2⟩
    (fun x => { tmps := #[.slice A m c, .int .i64 sp, .int .i64 a, .int .i64 b, undef, undef, undef, .pointer (some ⟨w.heap.size, 0, none⟩), .pointer (some ⟨w.heap.size + 1, 0, none⟩), .int .i64 (a + ((x.1 : Nat) : Int) + 1), .int .i64 (wideK zs sp a (x.1 + 1)), .slice A m c, .int .i64 sp, .int .i64 a, .func (.func 17) #[] #[.pointer (some ⟨W1.heap.size + 2, 0, none⟩), .pointer (some ⟨W1.heap.size, 0, none⟩), .pointer (some ⟨W1.heap.size + 1, 0, none⟩)], .int .i64 (a + ((x.1 : Nat) : Int) + 1), .int .i64 (wideK zs sp a (x.1 + 1)), undef, undef, undef, undef], defers := [] }) ?assign ?body ?done ?stop
  case assign =>
    intro l x W K hK
    unfold enc9
    gi_wp2
    exact hK
  case body =>
    rintro l pre ⟨k, hk⟩ W ⟨hno, hv, hv1, hB⟩ _
    have hc := hv.cell
    have hf1 := hv1.frozen
    have hc1 := hv1.cell
    show Code.wpIn _ _ _ _ _ _ _
    dsimp only
    obtain ⟨z, hz⟩ : ∃ z, wideK zs sp a (k + 1) = z := ⟨_, rfl⟩
    obtain ⟨x, hx⟩ : ∃ x, a + ((k : Nat) : Int) + 1 = x := ⟨_, rfl⟩
    rw [hz, hx]
    have HZ := Lib.hid hz
    have HX := Lib.hid hx
    have HNO := Lib.hid hno
    clear hz hx hno
    by_cases hq : x = b
    · subst hq
      gi_wp2
      exact ⟨KeepsOthers.setCell _ _ _, rfl, ⟨k, hk⟩, by simp, HX.out, by show Boxed _ _ _ (.int .i64 (wideK zs sp a (k + 1))); rw [HZ.out]; exact hv1.set _, hB.setCell (Nat.le_succ _) _⟩
    · have hqb : (x == b) = false := by simpa using hq
      gi_wp2
      refine ⟨KeepsOthers.refl _, Below.refl _ _, ?_, hv, hv1, hB⟩
      intro y hy
      rcases List.mem_append.1 hy with h | h
      · exact HNO.out y h
      · rw [List.mem_singleton] at h
        subst h
        rw [HX.out]; exact hq
  case done =>
    rintro D xs W hD hxs ⟨hno, hv, hv1, hB⟩ hK
    have hf1 := hv1.frozen
    have hc1 := hv1.cell
    have HPP := Lib.hid (show v = 0 by rw [← HV.out]; exact wide_none hxs hno)
    clear hxs hno
    gi_wp2
    have hD0 : w.heap.size + 1 ≠ D := by omega
    have e0 : (W.setCell ⟨w.heap.size + 1, 0, none⟩ (.int .i64 0)).heap[D]? = some (.deferred (some [])) := (Below.heap_setCell _ _ _ D (by simpa using hD0.symm)).trans hK
    have e1 : ((W.setCell ⟨w.heap.size + 1, 0, none⟩ (.int .i64 0)).putObj D (.deferred none)).cell? ⟨w.heap.size + 1, 0, none⟩ = some (.int .i64 0) := by
      have := (hv1.set (.int .i64 0)).kept (grownBy_putObj' _ D (.deferred none)) (fun e => hD0 (by cases e; rfl))
      exact this.cell
    refine ⟨by simp, .inl ⟨_, _, rfl, run_takeDeferred e0, ?_⟩⟩
    refine ⟨.int .i64 0, by simp [results, Try.results8, go_sem, e1], ?_⟩
    exact ⟨ret_int HPP.out.symm, (hB.setCell (Nat.le_succ _) _).grown (grownBy_putObj' _ _ _) (by have := hB.size; simp; omega) (fun k e => by cases e; omega)⟩
  case stop =>
    rintro D c2 pre W hD ⟨q, hq1, hq2⟩ ⟨rfl, k, hk, hkb, hv, hB⟩ hK
    have hD0 : w.heap.size + 1 ≠ D := by omega
    have HPP := Lib.hid (show v = wideK zs sp a (k.1 + 1) by rw [← HV.out]; exact wide_some hq1 hq2 hk hkb)
    clear hq2 hkb
    have e1 : (W.putObj D (.deferred none)).cell? ⟨w.heap.size + 1, 0, none⟩ = some (.int .i64 (wideK zs sp a (k.1 + 1))) := (hv.kept (grownBy_putObj' _ D (.deferred none)) (fun e => hD0 (by cases e; rfl))).cell
    gi_wp2
    refine ⟨by simp, .inl ⟨_, _, rfl, run_takeDeferred hK, ?_⟩⟩
    refine ⟨.int .i64 (wideK zs sp a (k.1 + 1)), by simp [results, Try.results8, go_sem, e1], ?_⟩
    exact ⟨ret_int HPP.out.symm, hB.grown (grownBy_putObj' _ _ _) (by have := hB.size; omega) (fun k e => by cases e; omega)⟩
theorem pwide_to {zs : List Int} {sp a b v : Int} (hv : wideI zs sp a b = v) (hn : Near9 zs sp) (ha : I64w a) (hb : I64w b) {A : Option Addr} {m c : Nat} (hm : m ≤ 1000) {w : World} (h : Ints w A m zs) :
    Calls Try.prog 8 #[.slice A m c, .int .i64 sp, .int .i64 a, .int .i64 b] w fun e w' => e = .returned (.int .i64 v) ∧ Below w.heap.size w w' := callsIn_wide.1 (pwide_in hv hn ha hb hm h)
end Go.Proofs.Ytakdopblggkfnaa
