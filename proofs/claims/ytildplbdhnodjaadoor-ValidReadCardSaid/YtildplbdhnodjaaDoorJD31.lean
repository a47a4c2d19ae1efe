import Derived.Test.YtildplbdhnodjaaDoorJD30
import Derived.Test.YtildplbdhnodjaaDoorJD26
import Derived.Test.YtildplbdhnodjaaDoorJD06
import Derived.Test.YtildplbdhnodjaaDoorJD29
/- Stage 6's laws: blocks within one another. (Written by program: tools/drafts/genlaw6.py.) -/
namespace Go.Proofs.YtildplbdhnodjaaDoor
open Go.RowKit
set_option linter.unusedVariables false
set_option linter.unusedSimpArgs false
theorem node_infoV : (Tryd.prog.info? 37).map (fun i => (i.zero, i.size, i.bytes)) = some (some (.agg #[.int .i64 0, .int .i64 0, .int .i64 0, .int .i64 0, .int .i64 0, .int .i64 0, .int .i64 0, .int .i64 0, .int .i64 0, .int .i64 0, .int .i64 0, .int .i64 0, .int .i64 0, .int .i64 0, .int .i64 0, .int .i64 0, .slice none 0 0, .int .i64 0, .int .i64 0, .int .i64 0]), 20, 176) := by kernel_rfl
theorem plain_ex (w : World) : Calls Tryd.prog 19 #[] w fun e w' => e = .returned (.agg #[.int .i64 0, .int .i64 0, .int .i64 0, .int .i64 0, .int .i64 0, .int .i64 2, .int .i64 2, .int .i64 0, .int .i64 0, .int .i64 0, .int .i64 0, .int .i64 0]) ∧ Below w.heap.size w w' := by
  go_enter Tryd.func19, Tryd.ntmps19
  go_wp2_with fail
  first
    | (go_ret; exact ⟨rfl, by go_grown⟩)
    | (refine bodyPost_ret (v := .agg #[.int .i64 0, .int .i64 0, .int .i64 0, .int .i64 0, .int .i64 0, .int .i64 2, .int .i64 2, .int .i64 0, .int .i64 0, .int .i64 0, .int .i64 0, .int .i64 0]) (by simp [results, Tryd.results19, go_sem]) rfl ⟨rfl, by go_grown⟩)
def deepM (N i : Nat) : NdM := ⟨1, (N : Int) - (i : Int), .plain, 0, 0, none, 0, 0, 0, 0, 0⟩
def deepN (N i : Nat) : Nd := ⟨1, (N : Int) - (i : Int), .plain, 0, 0, [], 0, 0, 0⟩
def deepL (N : Nat) : List Nd := (List.range N).map (deepN N)
theorem deep_sees {w : World} {A : Option Addr} {N : Nat} (h : Rows 20 encM w A N ((List.range N).map (deepM N))) : Sees w A N (deepL N) := by
  refine ⟨_, h, by simp [deepL], fun i m x h1 h2 => ?_⟩
  unfold deepL at h2
  rw [List.getElem?_map] at h1 h2
  rcases hr : (List.range N)[i]? with _ | j
  · rw [hr] at h1; cases h1
  · rw [hr] at h1 h2
    simp only [Option.map_some, Option.some.injEq] at h1 h2
    subst h1 h2
    exact ⟨⟨rfl, rfl, rfl, rfl, rfl, rfl, rfl, rfl⟩, Ints.nil _ _⟩
set_option maxHeartbeats 8000000 in
set_option maxRecDepth 100000 in
theorem deep_any (N : Nat) (hN : N ≤ 100) (w : World) : Calls Tryd.prog 11 #[.int .i64 (N : Int)] w fun e w' => (∃ A c, e = .returned (.slice A N c) ∧ Sees w' A N (deepL N)) ∧ Below w.heap.size w w' := by
  obtain ⟨j0, hj0, hy0, hy1, hy2⟩ := info_parts node_infoV
  obtain ⟨D, hD⟩ : ∃ D, w.heap.size = D := ⟨_, rfl⟩
  rw [hD]
  go_enter Tryd.func11, Tryd.ntmps11
  go_wp2_with fail
  go_loopw [3, 4] (fun o i wr => ∃ (k c1 : Nat) (A1 : Option Addr), k ≤ N ∧ i = .int .i64 k ∧ o = .slice A1 k c1 ∧ wr.ownsRow D 37 20 (.slice A1 k c1) k (((List.range k).map (deepM N)).flatMap encM) ∧ On w wr) (fun _ i _ => N - (intOf i).toNat)
  case atStart => exact ⟨0, 0, none, by omega, rfl, rfl, owns_nil _ _ _ _, On.refl w⟩
  case round =>
    obtain ⟨k, c1, A1, hk, rfl, rfl, hown, hon⟩ := hrel
    have HOw := Lib.hid hown
    have HO := Lib.hid hon
    have hsz := hon.size
    clear hown hon
    by_cases hlt : k < N
    · have hk2 : (k : Int) < (N : Int) := by omega
      go_wp2_with fail
      refine (plain_ex _).mono ?_
      rintro e w2 ⟨rfl, hb⟩
      have HOw2 := Lib.hid (owns_below HOw.out hb)
      have HO2 := Lib.hid (HO.out.step hb)
      have hsz2 := hb.size
      clear hb
      go_wp2_with ((with_reducible refine stop_dst 17 ?_ ?_); exact rfl)
      refine Stop.intro ?_
      have hO4 := owns_below HOw2.out ((Below.refl _ _).alloc (Nat.le_refl _) (.cells #[.int .i64 1, .int .i64 ((N : Int) - (k : Int)), .int .i64 0, .int .i64 0, .int .i64 0, .int .i64 0, .int .i64 0, .int .i64 2, .int .i64 2, .int .i64 0, .int .i64 0, .int .i64 0, .int .i64 0, .int .i64 0, .int .i64 0, .int .i64 0, .slice none 0 0, .int .i64 0, .int .i64 0, .int .i64 0] 37))
      have hc4 : Cells (w2.alloc (.cells #[.int .i64 1, .int .i64 ((N : Int) - (k : Int)), .int .i64 0, .int .i64 0, .int .i64 0, .int .i64 0, .int .i64 0, .int .i64 2, .int .i64 2, .int .i64 0, .int .i64 0, .int .i64 0, .int .i64 0, .int .i64 0, .int .i64 0, .int .i64 0, .slice none 0 0, .int .i64 0, .int .i64 0, .int .i64 0] 37)) (some ⟨w2.heap.size, 0, none⟩) 1 20 (encM (deepM N k)) := ownsRow_cells (owns_one (w := w2) (e := 37) (size := 20) (base := 0) (encM (deepM N k)) rfl (by decide) (Nat.zero_le _) (encM_one _) _ rfl _ rfl)
      have hz4 := hO4.1
      rw [flat_len encM_len] at hz4
      refine wpList_append_cells _ rfl (.tmp 10) (.tmp 16) _ rfl D 37 j0 (.agg #[.int .i64 0, .int .i64 0, .int .i64 0, .int .i64 0, .int .i64 0, .int .i64 0, .int .i64 0, .int .i64 0, .int .i64 0, .int .i64 0, .int .i64 0, .int .i64 0, .int .i64 0, .int .i64 0, .int .i64 0, .int .i64 0, .slice none 0 0, .int .i64 0, .int .i64 0, .int .i64 0]) 20 176 Tryd.underlying23 hj0 hy0 hy1 hy2 rfl (by decide) (.slice A1 k c1) k _ rfl hO4 (some ⟨w2.heap.size, 0, none⟩) 1 1 _ rfl hc4 (encM_one _) (by unfold maxLen; omega) (by omega) (by simp; omega) ?_
      intro A5 c5 V5 hown5 hg5
      have hblk := owns_block hO4
      have hb4 : On w (w2.alloc (.cells #[.int .i64 1, .int .i64 ((N : Int) - (k : Int)), .int .i64 0, .int .i64 0, .int .i64 0, .int .i64 0, .int .i64 0, .int .i64 2, .int .i64 2, .int .i64 0, .int .i64 0, .int .i64 0, .int .i64 0, .int .i64 0, .int .i64 0, .int .i64 0, .slice none 0 0, .int .i64 0, .int .i64 0, .int .i64 0] 37)) := On.alloc HO2.out _
      have hb5 : On w V5 := (show Below D w _ by rw [← hD]; exact hb4.trans ((show Below D _ V5 from (Below.refl _ _).grown hg5 (by simp; omega) (fun r e => hblk r e)).mono (by omega))).mono (by omega)
      have hfl : ((List.range (k + 1)).map (deepM N)).flatMap encM = ((List.range k).map (deepM N)).flatMap encM ++ encM (deepM N k) := by rw [List.range_succ]; simp
      have HO5 := Lib.hid (show V5.ownsRow D 37 20 (.slice A5 (k + 1) c5) (k + 1) (((List.range (k + 1)).map (deepM N)).flatMap encM) by rw [hfl]; exact hown5)
      have HB5 := Lib.hid hb5
      clear hO4 hc4 hz4 hown5 hg5 hblk hb4 hb5 hfl
      go_wp2_with fail
      go_roundw
      case rel => exact ⟨k + 1, c5, A5, by omega, by go_num, rfl, HO5.out, HB5.out⟩
      case measure => simp [intOf]; omega
    · have hk2 : (N : Int) ≤ (k : Int) := by omega
      obtain rfl : k = N := by omega
      go_wp2_with fail
      go_returns
      exact ⟨⟨A1, c1, rfl, deep_sees (ownsRow_rows encM_len (by decide) HOw.out)⟩, by rw [← hD]; exact HO.out⟩
end Go.Proofs.YtildplbdhnodjaaDoor
/- Stage 6's laws: counts; the chapter's examples hold, in any world. (Written by program: tools/drafts/genlaw6b.py.) -/
namespace Go.Proofs.YtildplbdhnodjaaDoor
open Go.RowKit
set_option linter.unusedVariables false
set_option linter.unusedSimpArgs false
theorem sum_equal (a0 a1 a2 a3 b0 b1 b2 b3 : Int) (w : World) : (Op.equalIn 10000 28 (.agg #[.int .i64 a0, .int .i64 a1, .int .i64 a2, .int .i64 a3]) (.agg #[.int .i64 b0, .int .i64 b1, .int .i64 b2, .int .i64 b3])).run Tryd.prog w = .ok (a0 == b0 && a1 == b1 && a2 == b2 && a3 == b3) w := by
  rw [show (10000 : Nat) = 9999 + 1 from rfl, run_equalIn_struct w 9999 _ _ _ (by kernel_rfl) (by kernel_rfl)]
  have hi : ∀ (a b : Int) (w : World), (Op.equalIn 9999 3 (.int .i64 a) (.int .i64 b)).run Tryd.prog w = .ok (a == b) w := fun a b w => run_equalIn_int w 9998 3 .i64 .i64 a b Tryd.underlying3
  simp [Program.fieldsOf, Tryd.underlying28, Op.eqFields, part_int, hi, ite_and]
  simp only [ite_ok]
  congr 1
  rw [Bool.eq_iff_iff]
  simp [and_assoc]
theorem sum_same (a0 a1 a2 a3 : Int) (w : World) : (Op.equalIn 10000 28 (.agg #[.int .i64 a0, .int .i64 a1, .int .i64 a2, .int .i64 a3]) (.agg #[.int .i64 a0, .int .i64 a1, .int .i64 a2, .int .i64 a3])).run Tryd.prog w = .ok true w := by rw [sum_equal]; simp
theorem ans_doc {l : List Nd} {s : Sm} (h : ansV l = (s, 0)) : docB l = true := by
  rcases ansV_err h with ⟨_, e, _⟩ | ⟨e, _⟩
  · exact e
  · cases e
set_option maxHeartbeats 8000000 in
set_option maxRecDepth 100000 in
theorem counts_to {l : List Nd} {s : Sm} (h1 : ansV l = (s, 0)) (h2 : chkV l = 0) {A : Option Addr} {n ca : Nat} {w : World} (h : PreV l w A n) : Calls Tryd.prog 10 #[.slice A n ca, .agg #[.int .i64 s.depth, .int .i64 s.pieces, .int .i64 s.nodes, .int .i64 s.heights]] w fun e w' => e = .returned (.bool true) ∧ Below w.heap.size w w' := by
  have H1 := Lib.hid h1
  have H2 := Lib.hid h2
  have H3 := Lib.hid (ans_doc h1)
  have H := Lib.hid h
  clear h1 h2 h
  obtain ⟨s0, s1, s2, s3⟩ := s
  simp only
  go_enter Tryd.func10, Tryd.ntmps10
  go_wp2_with fail
  refine (pCount_to H1.out (H.out.below (show Below w.heap.size w _ by go_grown))).mono ?_
  rintro e w1 ⟨rfl, hb⟩
  simp only
  have hX : Box w1 w.heap.size [.int .i64 s0, .int .i64 s1, .int .i64 s2, .int .i64 s3] := (box_new w _ _ _ rfl _ rfl).below hb
  have c0 := hX.2.2 0 _ rfl
  have c1 := hX.2.2 1 _ rfl
  have c2 := hX.2.2 2 _ rfl
  have c3 := hX.2.2 3 _ rfl
  have fl := hX.1
  have he := sum_same s0 s1 s2 s3
  have HB := Lib.hid (below_then (show Below w.heap.size w _ by go_grown) hb)
  have HBB := Lib.hid (show Below w.heap.size w (w1.alloc (.cells #[.int .i64 s0, .int .i64 s1, .int .i64 s2, .int .i64 s3] 28)) from HB.out.alloc (by have := HB.out.size; omega) _)
  clear hX hb
  go_wp2_with fail
  refine (pIs_to H3.out (H.out.below HBB.out)).mono ?_
  rintro e w2 ⟨rfl, hb⟩
  have HB2 := Lib.hid (below_then HBB.out hb)
  clear hb c0 c1 c2 c3 he
  go_wp2_with fail
  refine (pCheck_to H2.out (H.out.below HB2.out)).mono ?_
  rintro e w3 ⟨rfl, hb⟩
  have HB3 := Lib.hid (below_then HB2.out hb)
  clear hb
  go_wp2_with fail
  go_ret
  exact ⟨rfl, HB3.out⟩
def doc0 : List Nd := [⟨1, 2, ⟨5, 0, 0, 0, 0, 2, 2, 0, 0, 0, 0, 0⟩, 0, 0, [], 0, 0, 0⟩, ⟨2, 1, .none, 10, 2, [30, 40], 0, 0, 0⟩]
def bad0 : List Nd := [⟨2, 1, .none, 1, 0, [], 0, 0, 0⟩]
theorem ans0 : ansV doc0 = (⟨1, 2, 2, 25⟩, 0) := by decide +kernel
theorem chk0 : chkV doc0 = 0 := by decide +kernel
theorem ansN : ansV [] = (⟨0, 0, 0, 0⟩, 0) := by decide +kernel
theorem chkN : chkV [] = 0 := by decide +kernel
theorem ansB : ansV bad0 = (⟨0, 0, 0, 0⟩, 4) := by decide +kernel
theorem isB : docB bad0 = false := by decide +kernel
theorem chkB : chkV bad0 = 4 := by decide +kernel
theorem chk17 : chkV (deepL 17) = 2 := by decide +kernel
theorem chk16 : chkV (deepL 16) = 0 := by decide +kernel
theorem eval0 : evalF ⟨#[91, 109, 53, 32, 40, 49, 48, 32, 50, 32, 51, 48, 32, 52, 48, 41, 93]⟩ = some (some doc0, 0) := by show evalF ⟨#[91, 109, 53, 32, 40, 49, 48, 32, 50, 32, 51, 48, 32, 52, 48, 41, 93]⟩ = _; decide +kernel
theorem bad_sees (w : World) (n : Nat) (hn : n = w.heap.size) (cs : Array Value) (hcs : cs = (encM ⟨2, 1, .none, 1, 0, none, 0, 0, 0, 0, 0⟩).toArray) (t : TypeId) : Sees (w.alloc (.cells cs t)) (some ⟨n, 0, none⟩) 1 bad0 := by
  refine ⟨[⟨2, 1, .none, 1, 0, none, 0, 0, 0, 0, 0⟩], rows_box encM_len (by have := box_new w (encM ⟨2, 1, .none, 1, 0, none, 0, 0, 0, 0, 0⟩) t n hn cs hcs; simpa using this) (by simp), rfl, fun i m x h1 h2 => ?_⟩
  cases i with
  | zero => simp [bad0] at h1 h2; subst h1 h2; exact ⟨⟨rfl, rfl, rfl, rfl, rfl, rfl, rfl, rfl⟩, Ints.nil _ _⟩
  | succ i => simp at h1
set_option maxHeartbeats 8000000 in
set_option maxRecDepth 100000 in
theorem vawake_any (w : World) : Calls Tryd.prog 4 #[] w fun e w' => e = .returned (.bool true) ∧ Below w.heap.size w w' := by
  go_enter Tryd.func4, Tryd.ntmps4
  go_wp2_with fail
  refine (rof_ok (evalF_ok eval0) _ (by decide)).mono ?_
  rintro e w1 ⟨A1, n1, c1, rfl, hN, hb⟩
  have hn1 : n1 = 2 := by rw [← hN.sees.len]; rfl
  subst hn1
  have HP := Lib.hid (show PreV doc0 w1 A1 2 from ⟨hN.sees, by decide⟩)
  have HB := Lib.hid hb
  have hsz := hb.size
  clear hN hb
  go_wp2_with fail
  have hS2 := bad_sees w1 w1.heap.size rfl _ rfl 37
  have HB2 := Lib.hid (below_then HB.out (show Below w1.heap.size w1 (w1.alloc (.cells (encM ⟨2, 1, .none, 1, 0, none, 0, 0, 0, 0, 0⟩).toArray 37)) from (Below.refl _ _).alloc (Nat.le_refl _) _))
  have HP2 := Lib.hid (HP.out.below (show Below w1.heap.size w1 (w1.alloc (.cells (encM ⟨2, 1, .none, 1, 0, none, 0, 0, 0, 0, 0⟩).toArray 37)) from (Below.refl _ _).alloc (Nat.le_refl _) _))
  have HQ2 := Lib.hid (show PreV bad0 _ (some ⟨w1.heap.size, 0, none⟩) 1 from ⟨hS2, by decide⟩)
  clear hS2
  refine (pCount_to ansB HQ2.out).mono ?_
  rintro e w2 ⟨rfl, hb⟩
  have hsz2 := hb.size
  have hb' := below_then (show Below (w1.alloc (.cells (encM ⟨2, 1, .none, 1, 0, none, 0, 0, 0, 0, 0⟩).toArray 37)).heap.size (w1.alloc (.cells (encM ⟨2, 1, .none, 1, 0, none, 0, 0, 0, 0, 0⟩).toArray 37)) w2 from hb) (show Below w2.heap.size w2 (w2.alloc (.cells #[.int .i64 0, .int .i64 0, .int .i64 0, .int .i64 0] 28)) from (Below.refl _ _).alloc (Nat.le_refl _) _)
  have HB3 := Lib.hid (below_then HB2.out hb')
  have HP3 := Lib.hid (HP2.out.below hb')
  have HQ3 := Lib.hid (HQ2.out.below hb')
  clear hb hb'
  go_wp2_with fail
  refine (counts_to (s := ⟨1, 2, 2, 25⟩) ans0 chk0 HP3.out).mono ?_
  rintro e w3 ⟨rfl, hb⟩
  have HB4 := Lib.hid (below_then HB3.out hb)
  have HQ4 := Lib.hid (HQ3.out.below hb)
  clear hb
  go_wp2_with fail
  refine (counts_to (s := ⟨0, 0, 0, 0⟩) ansN chkN ⟨Sees.nil _, by decide⟩).mono ?_
  rintro e w4 ⟨rfl, hb⟩
  have HB5 := Lib.hid (below_then HB4.out hb)
  have HQ5 := Lib.hid (HQ4.out.below hb)
  clear hb
  go_wp2_with fail
  refine (pIs_to isB HQ5.out).mono ?_
  rintro e w5 ⟨rfl, hb⟩
  have HB6 := Lib.hid (below_then HB5.out hb)
  have HQ6 := Lib.hid (HQ5.out.below hb)
  clear hb
  go_wp2_with fail
  refine (pCheck_to chkB HQ6.out).mono ?_
  rintro e w6 ⟨rfl, hb⟩
  have HB7 := Lib.hid (below_then HB6.out hb)
  clear hb
  go_wp2_with fail
  refine (deep_any 17 (by decide) _).mono ?_
  rintro e w7 ⟨⟨A2, c2, rfl, hS⟩, hb⟩
  have HB8 := Lib.hid (below_then HB7.out hb)
  have HS := Lib.hid hS
  clear hb hS
  go_wp2_with fail
  refine (pCheck_to chk17 ⟨HS.out, by decide⟩).mono ?_
  rintro e w8 ⟨rfl, hb⟩
  have HB9 := Lib.hid (below_then HB8.out hb)
  clear hb
  go_wp2_with fail
  refine (deep_any 16 (by decide) _).mono ?_
  rintro e w9 ⟨⟨A3, c3, rfl, hS⟩, hb⟩
  have HB10 := Lib.hid (below_then HB9.out hb)
  have HS2 := Lib.hid hS
  clear hb hS
  go_wp2_with fail
  refine (pCheck_to chk16 ⟨HS2.out, by decide⟩).mono ?_
  rintro e w10 ⟨rfl, hb⟩
  have HB11 := Lib.hid (below_then HB10.out hb)
  clear hb
  go_wp2_with fail
  go_ret
  exact ⟨rfl, HB11.out⟩
end Go.Proofs.YtildplbdhnodjaaDoor
/- The walk of the law ValidRead. (Written by program: tools/drafts/genreadw.py.) -/
namespace Go.Proofs.YtildplbdhnodjaaDoor
open Go.RowKit
set_option linter.unusedVariables false
set_option linter.unusedSimpArgs false
theorem doc6 {s : ByteArray} {x : List Nd} (h : ReadB s (some x, 0)) : IsDoc x := by
  obtain ⟨o, q, h1, h2⟩ := h.doc
  exact ⟨h2.fits (fun y hy => by cases hy) _ _ rfl, h2.forest .nil _ _ rfl⟩
theorem doc_true {l : List Nd} (h : IsDoc l) : docB l = true := (docB_iff l).2 h
theorem doc_sums {l : List Nd} (h : IsDoc l) : ansV l = (sumB l, 0) := by unfold ansV; rw [if_pos (doc_true h)]
theorem doc_chk {l : List Nd} (h : IsDoc l) : chkV l ≠ 4 := by
  unfold chkV
  rw [if_pos (doc_true h)]
  split <;> decide
set_option maxHeartbeats 8000000 in
set_option maxRecDepth 100000 in
theorem validread_law (s : ByteArray) (hmax : s.size ≤ 9223372036854775807) (w : World) (hT : Tabs w) : Calls Tryd.prog 3 #[.string s] w fun e w' => e = .returned (.bool true) ∧ Below w.heap.size w w' := by
  by_cases hbig : 3000 < s.size
  · go_enter Tryd.func3, Tryd.ntmps3
    go_wp2_with fail
    refine (vawake_any _).mono ?_
    rintro e w1 ⟨rfl, hb⟩
    have HB := Lib.hid hb
    clear hb
    go_wp2_with fail
    go_ret
    exact ⟨rfl, HB.out⟩
  have hs : s.size ≤ 100000 := by omega
  have HT := Lib.hid hT
  clear hT
  go_enter Tryd.func3, Tryd.ntmps3
  go_wp2_with fail
  refine (readof_cap s _ HT.out hs).mono ?_
  rintro e w1 (⟨x, A1, n1, c1, hr, rfl, hN, hb1, hcap⟩ | ⟨k, hr, rfl, hb1⟩)
  rotate_left
  · have HB := Lib.hid hb1
    clear hb1 hr
    go_wp2_with fail
    refine (vawake_any _).mono ?_
    rintro e w2 ⟨rfl, hb⟩
    have HB := Lib.hid (below_then HB.out hb)
    clear hb
    go_wp2_with fail
    go_ret
    exact ⟨rfl, HB.out⟩
  have hdl := doc_len hr
  have hd := doc6 hr
  have hxl := hN.len
  have HD := Lib.hid hd
  have HS := Lib.hid (doc_sums hd)
  have HSee := Lib.hid hN.sees
  have HP := Lib.hid (show PreV x w1 A1 n1 from ⟨hN.sees, by omega⟩)
  have HB1 := Lib.hid hb1
  have hn100 : n1 ≤ 100000 := by omega
  obtain ⟨⟨s0, s1, s2, s3⟩, hsm⟩ : ∃ q, sumB x = q := ⟨_, rfl⟩
  have hnn : s2 = (n1 : Int) := by
    have e : (sumB x).nodes = (x.length : Int) := by rw [sumB_eq]
    rw [hsm, hxl] at e
    exact e
  subst hnn
  rw [hsm] at HS
  obtain ⟨g, hgk⟩ : ∃ g, chkV x = g := ⟨_, rfl⟩
  have hg4 : (g == 4) = false := by have := doc_chk hd; rw [hgk] at this; simpa using this
  have HG := Lib.hid hgk
  clear hr hN hb1 hd hgk hsm
  go_wp2_with fail
  refine (pCount_to HS.out HP.out).mono ?_
  rintro e w2 ⟨rfl, hb⟩
  simp only
  have hb' := below_then (show Below w1.heap.size w1 w2 from hb) (show Below w2.heap.size w2 (w2.alloc (.cells #[.int .i64 s0, .int .i64 s1, .int .i64 (n1 : Int), .int .i64 s3] 28)) from (Below.refl _ _).alloc (Nat.le_refl _) _)
  have HP2 := Lib.hid (HP.out.below hb')
  have HB2 := Lib.hid (below_then HB1.out hb')
  have HO2 := Lib.hid (show On w1 _ from hb')
  have HX2 := Lib.hid (box_new w2 [.int .i64 s0, .int .i64 s1, .int .i64 (n1 : Int), .int .i64 s3] 28 _ rfl _ rfl)
  clear hb hb'
  go_wp2_with fail
  refine (pIs_to (doc_true HD.out) HP2.out).mono ?_
  rintro e w3 ⟨rfl, hb⟩
  have hX := HX2.out.below hb
  have c2 := hX.2.2 2 _ rfl
  have HP3 := Lib.hid (HP2.out.below hb)
  have HB3 := Lib.hid (below_then HB2.out hb)
  have HO3 := Lib.hid (HO2.out.step hb)
  clear hb hX
  go_wp2_with fail
  refine (pCheck_to HG.out HP3.out).mono ?_
  rintro e w4 ⟨rfl, hb⟩
  have HB4 := Lib.hid (below_then HB3.out hb)
  have HO4 := Lib.hid (HO3.out.step hb)
  clear hb c2
  go_wp2_with fail
  go_loopw [8] (fun i wr => ∃ (k : Nat) (p q : List Nd), i = .int .i64 k ∧ Hid (x = p ++ q) ∧ p.length = k ∧ k ≤ n1 ∧ Hid (Forest p) ∧ Hid (Forest q) ∧ On w1 wr) (fun i _ => n1 - (intOf i).toNat)
  case atStart => exact ⟨0, [], x, rfl, Lib.hid rfl, rfl, Nat.zero_le _, Lib.hid .nil, Lib.hid HD.out.2, HO4.out⟩
  case round =>
    obtain ⟨k, p, q, rfl, HE, hpk, hkn, HFp, HFq, hon⟩ := hrel
    have HO := Lib.hid hon
    have hql : p.length + q.length = n1 := by rw [← hxl, HE.out, List.length_append]
    clear hon
    by_cases hlt : k < n1
    rotate_left
    · have hk2 : (n1 : Int) ≤ (k : Int) := by omega
      have HBX := Lib.hid (below_then HB1.out HO.out)
      go_wp2_with fail
      refine (vawake_any _).mono ?_
      rintro e w5 ⟨rfl, hb⟩
      have HBX := Lib.hid (below_then HBX.out hb)
      clear hb
      go_wp2_with fail
      go_ret
      exact ⟨rfl, HBX.out⟩
    have hk2 : (k : Int) < (n1 : Int) := by omega
    obtain ⟨b1, o1, m1, x1, rfl, hb1, e1, r1, t1⟩ := HSee.out.at_ hlt
    obtain ⟨y, t, hq⟩ : ∃ y t, q = y :: t := by
      cases q with
      | nil => simp at hql; omega
      | cons y t => exact ⟨y, t, rfl⟩
    have hxy : x1 = y := by
      rw [HE.out, hq, ← hpk, List.getElem?_append_right (Nat.le_refl _), Nat.sub_self] at e1
      simpa using e1.symm
    obtain ⟨inner, rest, ht, hsz, hf1, hf2⟩ := HFq.out.front hq
    have hms : m1.size = 1 + (inner.length : Int) := by rw [← hsz, ← hxy]; exact t1.1.2.1.symm
    have G1 := Lib.hid (On.cell (W := w1) (a := ⟨b1, o1 + k * 20 + 1, none⟩) (v := .int .i64 m1.size) (r1 1 _ rfl))
    have hdp : IsDoc p := ⟨fun z hz => HD.out.1 z (by rw [HE.out]; exact List.mem_append_left _ hz), HFp.out⟩
    have hdq : IsDoc q := ⟨fun z hz => HD.out.1 z (by rw [HE.out]; exact List.mem_append_right _ hz), HFq.out⟩
    have HTp := Lib.hid (doc_true hdp)
    have HTq := Lib.hid (doc_true hdq)
    have hil : 1 + inner.length ≤ q.length := by rw [hq, ht]; simp; omega
    have hsp : Sees w1 (some ⟨b1, o1, none⟩) k p := by
      have h := HSee.out.sub (lo := 0) (k := k) (by omega)
      rw [HE.out, List.drop_zero, ← hpk, List.take_left' rfl, Nat.zero_mul, Nat.add_zero, hpk] at h
      exact h
    have hsq : Sees w1 (some ⟨b1, o1 + k * 20, none⟩) (n1 - k) q := by
      have h := HSee.out.sub (lo := k) (k := n1 - k) (by omega)
      rw [HE.out, ← hpk, List.drop_left' rfl, List.take_of_length_le (by omega)] at h
      rw [← hpk]; exact h
    have HSP := Lib.hid (show ∀ U, On w1 U → PreV p U (some ⟨b1, o1, none⟩) k from fun U hU => ⟨hsp.on hU, by omega⟩)
    have HSQ := Lib.hid (show ∀ U, On w1 U → PreV q U (some ⟨b1, o1 + k * 20, none⟩) (n1 - k) from fun U hU => ⟨hsq.on hU, by omega⟩)
    have HNX := Lib.hid (show x = (p ++ y :: inner) ++ rest by rw [HE.out, hq, ht]; simp)
    have HF1 := Lib.hid (HFp.out.append hf1)
    have HF2 := Lib.hid hf2
    obtain ⟨z, hz⟩ : ∃ z, m1.size = z := ⟨_, rfl⟩
    rw [hz] at hms G1
    have hzl : (k : Int) + z ≤ (n1 : Int) := by omega
    have hz1 : 1 ≤ z := by omega
    have hmx : max z 1 = z := by omega
    have HMS := Lib.hid hms
    clear e1 r1 t1 hsz hf1 hf2 hdp hdq hsp hsq hms hz hq ht hxy hb1
    go_wp2_with fail
    refine (pIs_to HTp.out (HSP.out wr HO.out)).mono ?_
    rintro e w5 ⟨rfl, hb⟩
    have HO5 := Lib.hid (HO.out.step hb)
    clear hb
    go_wp2_with fail
    refine (pIs_to HTq.out (HSQ.out _ HO5.out)).mono ?_
    rintro e w6 ⟨rfl, hb⟩
    have HO6 := Lib.hid (HO5.out.step hb)
    have g1 := G1.out _ HO6.out
    clear hb
    go_wp2_with fail
    go_roundw
    case rel => exact ⟨k + (1 + inner.length), p ++ y :: inner, rest, by rw [HMS.out, show (k : Int) + (1 + (inner.length : Int)) = ((k + (1 + inner.length) : Nat) : Int) by omega], HNX, by simp; omega, by omega, HF1, HF2, HO6.out⟩
    case measure => simp [intOf]; omega
end Go.Proofs.YtildplbdhnodjaaDoor
