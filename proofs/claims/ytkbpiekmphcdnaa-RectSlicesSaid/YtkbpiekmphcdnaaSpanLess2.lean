import Derived.Test.YtkbpiekmphcdnaaSpanLess
/- What is left of a span: the code's way, to its end. -/
namespace Go.Proofs.Ytkbpiekmphcdnaa
open Go.RowKit
set_option linter.unusedVariables false
set_option linter.unusedSimpArgs false
def LessPost (w : World) (s : Sp) (zs : List Sp) (e : Ending) (w' : World) : Prop :=
  ∃ A n c, e = .returned (.slice A n c) ∧ Rows 2 encS w' A n (lessR s zs) ∧ Below w.heap.size w w'
theorem go_snoc {ms : List Sp} {k : Nat} {x : Sp} {st st0 : List Sp × Int} (hx : ms[k]? = some x) (h : (ms.take k).foldl goStep st0 = st) : (ms.take (k + 1)).foldl goStep st0 = goStep st x := by
  rw [take_snoc hx, List.foldl_append, h]; rfl
theorem goStep_yes {left : List Sp} {f p q : Int} (h : f < p) : goStep (left, f) (p, q) = (left ++ [(f, p)], max f q) := by unfold goStep; simp [h]
theorem goStep_no {left : List Sp} {f p q : Int} (h : ¬ f < p) : goStep (left, f) (p, q) = (left, max f q) := by unfold goStep; simp [h]
theorem one_cells (w : World) (x y : Int) (t : TypeId) (n : Nat) (hn : n = w.heap.size) : Cells (w.alloc (.cells #[.int .i64 x, .int .i64 y] t)) (some ⟨n, 0, none⟩) 1 2 [.int .i64 x, .int .i64 y] := by
  subst hn
  refine ⟨rfl, by decide, fun _ => ⟨_, _, rfl, by simp, fun j u hu => ?_⟩⟩
  rw [Nat.zero_add]; exact (Box.new2 w (.int .i64 x) (.int .i64 y) t).2.2 j u hu
theorem one_cell2 (x y : Int) : ∀ u ∈ ([.int .i64 x, .int .i64 y] : List Value), u.oneCell' = true := by
  intro u hu; simp at hu; rcases hu with rfl | rfl <;> rfl
set_option maxHeartbeats 2000000 in
theorem less_any (a b : Int) (A : Option Addr) (n c : Nat) (zs : List Sp) (w : World) (hn60 : n ≤ 1000) (h1 : Rows 2 encS w A n zs) :
    Calls Try.prog 23 #[.agg #[.int .i64 a, .int .i64 b], .slice A n c] w (LessPost w (a, b) zs) := by
  obtain ⟨i0, hi0, hz0, hz1, hz2⟩ := info_parts span_info
  have HL := Lib.hid h1.1
  have H1 := Lib.hid h1
  clear h1
  go_enter Try.func23, Try.ntmps23
  go_wp2_with fail
  refine (rising_any _ _ _ _ _ _ _ hn60 (H1.out.below (by go_grown))).mono ?_
  rintro e w1 ⟨A1, n1, c1, ms, rfl, hR1, hp, hr, hb1⟩
  have hB1 := (Box.new2 w (.int .i64 a) (.int .i64 b) 23).below hb1
  have HB1 := Lib.hid (below_then (by go_grown) hb1 : Below w.heap.size w w1)
  have HG := Lib.hid (goL_eq hp hr)
  have hn1 : n1 ≤ 1000 := by
    have e1 := hp.length_eq
    have e2 := hR1.len
    have e3 : (metL (a, b) zs).length ≤ zs.length := by
      have := List.length_filter_le nonE (zs.map (meetS (a, b)))
      rw [List.length_map] at this; exact this
    have e4 := HL.out
    omega
  have HL1 := Lib.hid hR1.1
  have HR1 := Lib.hid hR1
  clear hb1 hp hr hR1
  obtain ⟨b0, b1, b2, b3, b4⟩ := hB1.of2
  go_wp2_with fail
  clear b0 b1 b2 b3 b4
  go_loopw [5, 6, 15] (fun v f i wr => ∃ (k m c' : Nat) (A' : Option Addr) (left : List Sp) (f0 : Int), k ≤ n1 ∧ m ≤ k ∧ i = .int .i64 k ∧ v = .slice A' m c' ∧ f = .int .i64 f0 ∧ (ms.take k).foldl goStep ([], a) = (left, f0) ∧ wr.ownsRow w1.heap.size 23 2 (.slice A' m c') m (left.flatMap encS) ∧ Below w1.heap.size w1 wr) (fun _ _ i _ => n1 - (intOf i).toNat)
  case atStart => exact ⟨0, 0, 0, none, [], a, by omega, by omega, rfl, rfl, rfl, rfl, owns_nil _ _ _ _, Below.refl _ _⟩
  case round =>
    obtain ⟨k, m, c', A', left, f0, hk, hm, rfl, rfl, rfl, hf, hO, hb⟩ := hrel
    have HF := Lib.hid hf
    have HB := Lib.hid hb
    have HO := Lib.hid hO
    have hsz := hb.size
    clear hb hO hf
    by_cases hlt : k < n1
    · obtain ⟨bl, off, p, q, rfl, hbl, hx, HC⟩ := rows_get HR1.out hlt
      have HX := Lib.hid hx
      clear hx
      obtain ⟨c0, c1, c2⟩ := HC.out wr HB.out
      by_cases hfp : f0 < p
      · have HS := Lib.hid ((go_snoc HX.out HF.out).trans (goStep_yes hfp))
        have HC1 := Lib.hid (one_cells (wr.alloc (.cells #[.int .i64 p, .int .i64 q] 23)) f0 p 23 (wr.heap.size + 1) (by simp))
        have HO3 := Lib.hid (owns_below HO.out (w' := (wr.alloc (.cells #[.int .i64 p, .int .i64 q] 23)).alloc (.cells #[.int .i64 f0, .int .i64 p] 23)) (by go_grown))
        have HB3 := Lib.hid ((HB.out.alloc hsz (.cells #[.int .i64 p, .int .i64 q] 23)).alloc (by simp; omega) (.cells #[.int .i64 f0, .int .i64 p] 23))
        have hX3 := (Box.new2 wr (.int .i64 p) (.int .i64 q) 23).alloc (.cells #[.int .i64 f0, .int .i64 p] 23)
        have hne : ∀ k, (Value.slice A' m c').ownBlock = some k → k ≠ wr.heap.size := fun k hk => Nat.ne_of_lt (owns_block_lt HO.out k hk)
        have HNE := Lib.hid hne
        clear hne
        go_wp2_with (at_builtin; refine wpList_append_cells _ rfl (.tmp 23) (.tmp 28) _ rfl w1.heap.size 23 i0 (.agg #[.int .i64 0, .int .i64 0]) 2 16 Try.underlying31 hi0 hz0 hz1 hz2 rfl (by decide) _ m _ rfl HO3.out _ 1 1 _ rfl HC1.out (one_cell2 _ _) (by unfold maxLen; omega) (by omega) (by simp; omega) ?_; intro A4 c4 w4 hown4 hg4; have hb4 : Below w1.heap.size _ w4 := (Below.refl _ _).grown hg4 (by simp; omega) (owns_block HO3.out); obtain ⟨x0, x1, x2, x3, x4⟩ := (hX3.grown hg4 HNE.out).of2; have HB4 := Lib.hid (HB3.out.trans hb4); have HO4 := Lib.hid hown4; clear hg4 hown4 hb4)
        all_goals
          go_roundw
          case rel =>
            refine ⟨k + 1, m + 1, c4, A4, left ++ [(f0, p)], _, by omega, by omega, by go_num, rfl, rfl, ?_, by rw [List.flatMap_append]; exact HO4.out, HB4.out⟩
            exact HS.out.trans (Prod.ext rfl (by show max f0 q = _; omega))
          case measure => simp [intOf]; omega
      · have HS := Lib.hid ((go_snoc HX.out HF.out).trans (goStep_no hfp))
        have HB3 := Lib.hid (HB.out.alloc hsz (.cells #[.int .i64 p, .int .i64 q] 23))
        have HO3 := Lib.hid (owns_below HO.out (w' := wr.alloc (.cells #[.int .i64 p, .int .i64 q] 23)) (by go_grown))
        go_wp2_with fail
        all_goals
          go_roundw
          case rel =>
            refine ⟨k + 1, m, c', A', left, _, by omega, by omega, by go_num, rfl, rfl, ?_, HO3.out, HB3.out⟩
            exact HS.out.trans (Prod.ext rfl (by show max f0 q = _; omega))
          case measure => simp [intOf]; omega
    · have HE : Hid (lessR (a, b) zs = if f0 < b then left ++ [(f0, b)] else left) := by
        have h2 := HF.out
        rw [List.take_of_length_le (by rw [HL1.out]; omega)] at h2
        have h3 := HG.out
        unfold goL goEnd at h3
        rw [h2] at h3
        exact h3.symm
      have hB2 := hB1.below HB.out
      obtain ⟨b0, b1, b2, b3, b4⟩ := hB2.of2
      have hm2 : m ≤ 1000 := by omega
      by_cases hfb : f0 < b
      · have HE2 := Lib.hid (HE.out.trans (if_pos hfb))
        have HC1 := Lib.hid (one_cells wr f0 b 23 wr.heap.size rfl)
        have HO3 := Lib.hid (owns_below HO.out (w' := wr.alloc (.cells #[.int .i64 f0, .int .i64 b] 23)) (by go_grown))
        have HB3 := Lib.hid (HB.out.alloc hsz (.cells #[.int .i64 f0, .int .i64 b] 23))
        go_wp2_with (at_builtin; refine wpList_append_cells _ rfl (.tmp 39) (.tmp 44) _ rfl w1.heap.size 23 i0 (.agg #[.int .i64 0, .int .i64 0]) 2 16 Try.underlying31 hi0 hz0 hz1 hz2 rfl (by decide) _ m _ rfl HO3.out _ 1 1 _ rfl HC1.out (one_cell2 _ _) (by unfold maxLen; omega) (by omega) (by simp; omega) ?_; intro A4 c4 w4 hown4 hg4; have hb4 : Below w1.heap.size _ w4 := (Below.refl _ _).grown hg4 (by simp; omega) (owns_block HO3.out); have HB4 := Lib.hid (HB3.out.trans hb4); have HO4 := Lib.hid hown4; clear hg4 hown4 hb4)
        go_ret
        refine ⟨_, _, _, rfl, ?_, below_then HB1.out HB4.out⟩
        rw [HE2.out]
        exact ownsRow_rows (base := w1.heap.size) (e := 23) (c := c4) encS_len (by decide) (by rw [List.flatMap_append]; exact HO4.out)
      · have HE2 := Lib.hid (HE.out.trans (if_neg hfb))
        go_wp2_with fail
        go_ret
        refine ⟨_, _, _, rfl, ?_, below_then HB1.out HB.out⟩
        rw [HE2.out]
        exact ownsRow_rows encS_len (by decide) HO.out
end Go.Proofs.Ytkbpiekmphcdnaa
