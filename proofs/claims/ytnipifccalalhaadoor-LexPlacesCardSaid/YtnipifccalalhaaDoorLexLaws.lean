import Derived.Test.YtnipifccalalhaaDoorLex
import Derived.Test.YtnipifccalalhaaDoorLexLaw
import Derived.Test.YtnipifccalalhaaDoorOn
import Derived.Deep.RegionHeld3
/- Contracts by value; the chapter's examples hold, in any world. (XLex gives lexof_any, lextext_any: the program's Of and Text.) -/
namespace Go.Proofs.YtnipifccalalhaaDoor
open Go.RowKit
set_option linter.unusedVariables false
set_option linter.unusedSimpArgs false
def LexOk (w : World) (s : ByteArray) (toks : List Tok) (e : Ending) (w' : World) : Prop := ∃ A n c, e = .returned (.tuple #[.slice A n c, .int .i64 0, .int .i64 0]) ∧ Rows 4 encT w' A n toks ∧ n ≤ s.size ∧ Below w.heap.size w w'
theorem post_ok {w w' : World} {s : ByteArray} {e : Ending} {toks : List Tok} {q : Nat} (h : lexB s = (some toks, q)) (hp : LexPost w s e w') : LexOk w s toks e w' := by
  rcases hp with ⟨t, A, n, c, h1, h2, h3, h4, h5⟩ | ⟨k, h1, _⟩
  · rw [h] at h1; injection h1 with h1 _; injection h1 with h1; subst h1
    exact ⟨A, n, c, h2, h3, h4, h5⟩
  · rw [h] at h1; injection h1 with h1 _; cases h1
theorem post_bad {w w' : World} {s : ByteArray} {e : Ending} {k : Nat} (h : lexB s = (none, k)) (hp : LexPost w s e w') : e = .returned (.tuple #[.slice none 0 0, .int .i64 (k : Int), .int .i64 1]) ∧ k < s.size ∧ Below w.heap.size w w' := by
  rcases hp with ⟨t, A, n, c, h1, _⟩ | ⟨k', h1, h2, h3, h4⟩
  · rw [h] at h1; injection h1 with h1 _; cases h1
  · rw [h] at h1; injection h1 with _ h1; subst h1
    exact ⟨h2, h3, h4⟩
theorem lex_ok {s : ByteArray} {toks : List Tok} {q : Nat} (h : lexB s = (some toks, q)) (w : World) (hT : Tabs w) (hs : s.size ≤ 100000) : Calls Tryd.prog 7 #[.string s] w (LexOk w s toks) := (lexof_any s w hT hs).mono fun _ _ hp => post_ok h hp
theorem lex_bad {s : ByteArray} {k : Nat} (h : lexB s = (none, k)) (w : World) (hT : Tabs w) (hs : s.size ≤ 100000) : Calls Tryd.prog 7 #[.string s] w fun e w' => e = .returned (.tuple #[.slice none 0 0, .int .i64 (k : Int), .int .i64 1]) ∧ k < s.size ∧ Below w.heap.size w w' := (lexof_any s w hT hs).mono fun _ _ hp => post_bad h hp
theorem ref_ok {s : ByteArray} {toks : List Tok} {q : Nat} (h : lexB s = (some toks, q)) (w : World) (hs : s.size ≤ 100000) : Calls Tryd.prog 8 #[.string s] w (LexOk w s toks) := (reflex_any s w hs).mono fun _ _ hp => post_ok h hp
theorem ref_bad {s : ByteArray} {k : Nat} (h : lexB s = (none, k)) (w : World) (hs : s.size ≤ 100000) : Calls Tryd.prog 8 #[.string s] w fun e w' => e = .returned (.tuple #[.slice none 0 0, .int .i64 (k : Int), .int .i64 1]) ∧ k < s.size ∧ Below w.heap.size w w' := (reflex_any s w hs).mono fun _ _ hp => post_bad h hp
theorem text_to {s : ByteArray} {v : Value} (h : textV (textB s) = v) (w : World) (hs : s.size ≤ 100000) : Calls Tryd.prog 9 #[.string s] w fun e w' => e = .returned v ∧ Below w.heap.size w w' := by subst h; exact lextext_any s w hs
theorem rtext_to {s : ByteArray} {v : Value} (h : textV (textB s) = v) (w : World) (hs : s.size ≤ 100000) : Calls Tryd.prog 10 #[.string s] w fun e w' => e = .returned v ∧ Below w.heap.size w w' := by subst h; exact (rtext_any s w (by omega)).mono fun e w' ⟨h1, h2⟩ => ⟨h1, by subst h2; exact Below.refl _ _⟩
theorem sign_any (c k : Int) (w : World) : Calls Tryd.prog 15 #[.int .i32 c, .int .i64 k] w fun e w' => e = .returned (.agg #[.int .i64 1, .int .i32 c, .int .i64 0, .int .i64 k]) ∧ Below w.heap.size w w' := by
  go_enter Tryd.func15, Tryd.ntmps15
  go_wp2
  go_returns
  exact ⟨rfl, by go_grown⟩
theorem num_any (n k : Int) (w : World) : Calls Tryd.prog 16 #[.int .i64 n, .int .i64 k] w fun e w' => e = .returned (.agg #[.int .i64 2, .int .i32 0, .int .i64 n, .int .i64 k]) ∧ Below w.heap.size w w' := by
  go_enter Tryd.func16, Tryd.ntmps16
  go_wp2
  go_returns
  exact ⟨rfl, by go_grown⟩
theorem read_to {s : ByteArray} {toks : List Tok} {q : Nat} (h : lexB s = (some toks, q)) {A : Option Addr} {n c : Nat} (w : World) (hT : Tabs w) (hs : s.size ≤ 100000) (hR : Rows 4 encT w A n toks) : Calls Tryd.prog 14 #[.string s, .slice A n c] w fun e w' => e = .returned (.bool true) ∧ Below w.heap.size w w' := by
  have H := Lib.hid h
  have HR := Lib.hid hR
  clear h hR
  go_enter Tryd.func14, Tryd.ntmps14
  go_wp2_with fail
  refine (lex_ok H.out _ (hT.below (show Below w.heap.size w _ by go_grown)) hs).mono ?_
  rintro e w1 ⟨A1, n1, c1, rfl, hR1, _, hb⟩
  have HR1 := Lib.hid hR1
  have HR2 := Lib.hid (HR.out.below hb)
  have HB := Lib.hid hb
  clear hR1 hb
  go_wp2_with (go_at_call 11; refine (tsame_any _ _ _ _ _ _ _ _ HR1.out HR2.out).mono ?_; rintro e w2 ⟨rfl, hb2⟩)
  go_ret
  exact ⟨rfl, below_then HB.out hb2⟩
theorem wrong_to {s : ByteArray} {k : Nat} (h : lexB s = (none, k)) (w : World) (hT : Tabs w) (hs : s.size ≤ 100000) : Calls Tryd.prog 17 #[.string s, .int .i64 (k : Int)] w fun e w' => e = .returned (.bool true) ∧ Below w.heap.size w w' := by
  have H := Lib.hid h
  clear h
  go_enter Tryd.func17, Tryd.ntmps17
  go_wp2_with fail
  refine (lex_bad H.out _ (hT.below (show Below w.heap.size w _ by go_grown)) hs).mono ?_
  rintro e w1 ⟨rfl, _, hb⟩
  go_wp2_with fail
  go_ret
  exact ⟨rfl, hb⟩
theorem wrong0 {s : ByteArray} (h : lexB s = (none, 0)) (w : World) (hT : Tabs w) (hs : s.size ≤ 100000) : Calls Tryd.prog 17 #[.string s, .int .i64 0] w fun e w' => e = .returned (.bool true) ∧ Below w.heap.size w w' := wrong_to h w hT hs
theorem toks_lit (w : World) (zs : List Tok) (m : Nat) (t : TypeId) (n : Nat) (hn : n = w.heap.size) (cs : Array Value) (hcs : cs = (zs.flatMap encT).toArray) (hm : zs.length = m) (hm2 : m ≤ 1000) : Rows 4 encT (w.alloc (.cells cs t)) (some ⟨n, 0, none⟩) m zs := by
  subst hn hcs hm
  refine ⟨rfl, by omega, fun _ => ⟨_, _, rfl, by simp, fun i x hx j v hv => ?_⟩⟩
  rw [Nat.zero_add]
  exact (Box.new w (zs.flatMap encT) t).2.2 _ _ (flat_get encT_len zs i x j v hx hv)
set_option maxRecDepth 100000 in
set_option maxHeartbeats 2000000 in
theorem lawake_any (w : World) (hT : Tabs w) : Calls Tryd.prog 6 #[] w fun e w' => e = .returned (.bool true) ∧ Below w.heap.size w w' := by
  have C1 : Hid (textV (textB ⟨#[195, 169]⟩) = .tuple #[.int .i64 0, .bool true]) := by show textV (textB ⟨#[195, 169]⟩) = _; rw [show textB ⟨#[195, 169]⟩ = none by decide +kernel]; rfl
  have C2 : Hid (lexB ⟨#[91, 109, 49, 50, 93]⟩ = (some [⟨1, 91, 0, 0⟩, ⟨1, 109, 0, 1⟩, ⟨2, 0, 12, 2⟩, ⟨1, 93, 0, 4⟩], 0)) := by show lexB ⟨#[91, 109, 49, 50, 93]⟩ = _; decide +kernel
  have C3 : Hid (lexB ⟨#[35, 195, 169, 10, 40, 53, 32, 48, 58, 32, 55]⟩ = (some [⟨1, 40, 0, 4⟩, ⟨2, 0, 5, 5⟩, ⟨2, 0, 0, 7⟩, ⟨1, 58, 0, 8⟩, ⟨2, 0, 7, 10⟩], 0)) := by show lexB ⟨#[35, 195, 169, 10, 40, 53, 32, 48, 58, 32, 55]⟩ = _; decide +kernel
  have C4 : Hid (lexB ⟨#[]⟩ = (some [], 0)) := by show lexB ⟨#[]⟩ = _; decide +kernel
  have C5 : Hid (lexB ⟨#[255]⟩ = (none, 0)) := by show lexB ⟨#[255]⟩ = _; decide +kernel
  have C6 : Hid (lexB ⟨#[48, 48, 55]⟩ = (none, 0)) := by show lexB ⟨#[48, 48, 55]⟩ = _; decide +kernel
  have C7 : Hid (lexB ⟨#[49, 48, 57, 57, 53, 49, 49, 54, 50, 55, 55, 55, 55]⟩ = (none, 0)) := by show lexB ⟨#[49, 48, 57, 57, 53, 49, 49, 54, 50, 55, 55, 55, 55]⟩ = _; decide +kernel
  have C8 : Hid (lexB ⟨#[195, 169]⟩ = (some [⟨1, 233, 0, 0⟩], 0)) := by show lexB ⟨#[195, 169]⟩ = _; decide +kernel
  have hB := Below.refl w.heap.size w
  go_enter Tryd.func6, Tryd.ntmps6
  go_wp2_with (first
    | (go_at_call 9; refine (text_to C1.out _ (by decide)).mono ?_; rintro e w1 ⟨rfl, hb⟩; replace hB := below_then (show Below w.heap.size w _ by go_grown) hb; clear hb; have hBs := hB.size)
    | (go_at_call 15; refine (sign_any _ _ _).mono ?_; rintro e w1 ⟨rfl, hb⟩; replace hB := below_then (show Below w.heap.size w _ by go_grown) hb; clear hb; have hBs := hB.size)
    | (go_at_call 16; refine (num_any _ _ _).mono ?_; rintro e w1 ⟨rfl, hb⟩; replace hB := below_then (show Below w.heap.size w _ by go_grown) hb; clear hb; have hBs := hB.size))
  refine (read_to C2.out _ (hT.below (show Below w.heap.size w _ by go_grown)) (by decide) (toks_lit _ [⟨1, 91, 0, 0⟩, ⟨1, 109, 0, 1⟩, ⟨2, 0, 12, 2⟩, ⟨1, 93, 0, 4⟩] _ _ _ (by simp) _ (by simp [encT]) rfl (by decide))).mono ?_
  rintro e w1 ⟨rfl, hb⟩
  replace hB := below_then (show Below w.heap.size w _ by go_grown) hb
  clear hb
  have hBs := hB.size
  go_wp2_with (first
    | (go_at_call 9; refine (text_to C1.out _ (by decide)).mono ?_; rintro e w1 ⟨rfl, hb⟩; replace hB := below_then (show Below w.heap.size w _ by go_grown) hb; clear hb; have hBs := hB.size)
    | (go_at_call 15; refine (sign_any _ _ _).mono ?_; rintro e w1 ⟨rfl, hb⟩; replace hB := below_then (show Below w.heap.size w _ by go_grown) hb; clear hb; have hBs := hB.size)
    | (go_at_call 16; refine (num_any _ _ _).mono ?_; rintro e w1 ⟨rfl, hb⟩; replace hB := below_then (show Below w.heap.size w _ by go_grown) hb; clear hb; have hBs := hB.size))
  refine (read_to C3.out _ (hT.below (show Below w.heap.size w _ by go_grown)) (by decide) (toks_lit _ [⟨1, 40, 0, 4⟩, ⟨2, 0, 5, 5⟩, ⟨2, 0, 0, 7⟩, ⟨1, 58, 0, 8⟩, ⟨2, 0, 7, 10⟩] _ _ _ (by simp) _ (by simp [encT]) rfl (by decide))).mono ?_
  rintro e w1 ⟨rfl, hb⟩
  replace hB := below_then (show Below w.heap.size w _ by go_grown) hb
  clear hb
  have hBs := hB.size
  go_wp2_with fail
  refine (read_to C4.out _ (hT.below (show Below w.heap.size w _ by go_grown)) (by decide) (Rows.nil _ _)).mono ?_
  rintro e w1 ⟨rfl, hb⟩
  replace hB := below_then (show Below w.heap.size w _ by go_grown) hb
  clear hb
  have hBs := hB.size
  go_wp2_with fail
  refine (wrong0 C5.out _ (hT.below (show Below w.heap.size w _ by go_grown)) (by decide)).mono ?_
  rintro e w1 ⟨rfl, hb⟩
  replace hB := below_then (show Below w.heap.size w _ by go_grown) hb
  clear hb
  have hBs := hB.size
  go_wp2_with fail
  refine (wrong0 C6.out _ (hT.below (show Below w.heap.size w _ by go_grown)) (by decide)).mono ?_
  rintro e w1 ⟨rfl, hb⟩
  replace hB := below_then (show Below w.heap.size w _ by go_grown) hb
  clear hb
  have hBs := hB.size
  go_wp2_with fail
  refine (wrong0 C7.out _ (hT.below (show Below w.heap.size w _ by go_grown)) (by decide)).mono ?_
  rintro e w1 ⟨rfl, hb⟩
  replace hB := below_then (show Below w.heap.size w _ by go_grown) hb
  clear hb
  have hBs := hB.size
  go_wp2_with (first
    | (go_at_call 9; refine (text_to C1.out _ (by decide)).mono ?_; rintro e w1 ⟨rfl, hb⟩; replace hB := below_then (show Below w.heap.size w _ by go_grown) hb; clear hb; have hBs := hB.size)
    | (go_at_call 15; refine (sign_any _ _ _).mono ?_; rintro e w1 ⟨rfl, hb⟩; replace hB := below_then (show Below w.heap.size w _ by go_grown) hb; clear hb; have hBs := hB.size)
    | (go_at_call 16; refine (num_any _ _ _).mono ?_; rintro e w1 ⟨rfl, hb⟩; replace hB := below_then (show Below w.heap.size w _ by go_grown) hb; clear hb; have hBs := hB.size))
  refine (read_to C8.out _ (hT.below (show Below w.heap.size w _ by go_grown)) (by decide) (toks_lit _ [⟨1, 233, 0, 0⟩] _ _ _ (by simp) _ (by simp [encT]) rfl (by decide))).mono ?_
  rintro e w1 ⟨rfl, hb⟩
  replace hB := below_then (show Below w.heap.size w _ by go_grown) hb
  clear hb
  have hBs := hB.size
  go_wp2_with fail
  go_ret
  exact ⟨rfl, hB⟩
end Go.Proofs.YtnipifccalalhaaDoor
