import Derived.Test.YtamakeogaipdiaaJA14
/- The document's answers for package read: one node, given what a block and a text are read as. -/
namespace Go.Proofs.Ytamakeogaipdiaa
open Go.RowKit
set_option linter.unusedVariables false
set_option linter.unusedSimpArgs false
theorem GotR.bad {w w' : World} {p : Nat} {e : Ending} (h : GotR w (.bad p) e w') : e = .returned (.agg #[.slice none 0 0, .int .i64 (p : Int), .int .i64 1]) ∧ Below w.heap.size w w' := h
theorem GotR.ok {w w' : World} {x : List Nd} {b : Nat} {e : Ending} (h : GotR w (.ok x b) e w') : ∃ A n c, e = .returned (.agg #[.slice A n c, .int .i64 (b : Int), .int .i64 0]) ∧ Nds w.heap.size w' A n x ∧ Below w.heap.size w w' := h
/-- an answer, whatever it is: three cells. -/
theorem GotR.three {w w' : World} {r : Res (List Nd)} {e : Ending} (h : GotR w r e w') : ∃ A n c p v, e = .returned (.agg #[.slice A n c, .int .i64 p, .int .i64 v]) ∧ Below w.heap.size w w' ∧ ∀ w0 w'', w0.heap.size ≤ w.heap.size → Same w.heap.size w' w'' → Below w0.heap.size w0 w'' → GotR w0 r (.returned (gotV A n c p v)) w'' := by
  cases r with
  | bad q =>
    obtain ⟨rfl, hb⟩ := h.bad
    exact ⟨none, 0, 0, q, 1, rfl, hb, fun w0 w'' _ _ hb0 => ⟨rfl, hb0⟩⟩
  | ok x b =>
    obtain ⟨A, n, c, rfl, hn, hb⟩ := h.ok
    exact ⟨A, n, c, b, 0, rfl, hb, fun w0 w'' hle hs hb0 => ⟨A, n, c, rfl, (hn.same hs).up hle, hb0⟩⟩
theorem same3 {base : Nat} (w : World) {m : Nat} (hm : m < base) (a b c : Value) : Same base w (((w.setCell ⟨m, 0, none⟩ a).setCell ⟨m, 1, none⟩ b).setCell ⟨m, 2, none⟩ c) :=
  ((Same.set w hm 0 a).trans (Same.set _ hm 1 b)).trans (Same.set _ hm 2 c)
set_option maxRecDepth 100000 in
set_option maxHeartbeats 4000000 in
theorem rone_any (toks : List Tok) (A : Option Addr) (n c' : Nat) (i : Nat) (w : World) (hR : Rows 4 encT w A n toks) (hi : i ≤ 900000) (ho : opens toks i = true)
    (hK : ∀ w', Rows 4 encT w' A n toks → sgB toks i 91 = true → Calls Try.prog 67 #[.slice A n c', .int .i64 i] w' (GotP toks false i w'))
    (hT : ∀ w', Rows 4 encT w' A n toks → sgB toks i 40 = true → Calls Try.prog 68 #[.slice A n c', .int .i64 i] w' (GotP toks false i w')) :
    Calls Try.prog 58 #[.slice A n c', .int .i64 i] w (GotP toks false i w) := by
  have HR := Lib.hid hR
  have HK := Lib.hid hK
  have HT := Lib.hid hT
  have HO := Lib.hid ho
  clear hR hK hT ho
  go_enter Try.func58, Try.ntmps58
  go_wp2_with fail
  generalize hW : w.alloc (.cells #[.slice none 0 0, .int .i64 0, .int .i64 0] 72) = W
  have hG : Box W w.heap.size [.slice none 0 0, .int .i64 0, .int .i64 0] := by rw [← hW]; exact box_new _ _ _ _ rfl _ rfl
  have HB := Lib.hid (show Below w.heap.size w W by rw [← hW]; go_grown)
  have hWs : W.heap.size = w.heap.size + 1 := by rw [← hW]; simp
  have HR2 := Lib.hid (HR.out.below HB.out)
  have HG := Lib.hid hG
  clear hW hG
  have k1 := fun v (h : sgB toks i 91 = v) => rsign_at (c' := c') (x := (i : Int)) (i := i) (c := 91) rfl h W HR2.out (by omega)
  have k2 := fun v (h : sgB toks i 40 = v) => rsign_at (c' := c') (x := (i : Int)) (i := i) (c := 40) rfl h W HR2.out (by omega)
  have k3 := fun v (h : sgB toks i 123 = v) => rsign_at (c' := c') (x := (i : Int)) (i := i) (c := 123) rfl h W HR2.out (by omega)
  have k4 := fun v (h : sgB toks (i + 1) 76 = v) => rsign_at (c' := c') (x := (i : Int) + 1) (i := i + 1) (c := 76) (by omega) h W HR2.out (by omega)
  have k5 := fun v (h : sgB toks (i + 1) 82 = v) => rsign_at (c' := c') (x := (i : Int) + 1) (i := i + 1) (c := 82) (by omega) h W HR2.out (by omega)
  rcases h1 : sgB toks i 91 with _ | _
  case true =>
    have c1 := k1 _ h1
    have cb := HK.out W HR2.out h1
    clear k1 k2 k3 k4 k5 h1
    go_wp2_with (go_at_call 57; with_reducible refine c1.mono ?_; rintro e w' ⟨rfl, rfl⟩)
    refine cb.mono ?_
    rintro e w1 ⟨r, hp, hr⟩
    obtain ⟨A1, m, q, p, v, rfl, hb1, hfin⟩ := hr.three
    have HF := Lib.hid hfin
    have HP := Lib.hid hp
    have hG1 := HG.out.below hb1
    have HB1 := Lib.hid (HB.out.trans (hb1.mono (by omega)))
    obtain ⟨⟨g0, g1, g2⟩, ⟨f0, f1, f2⟩, g3⟩ := box3_of hG1
    clear hr hfin hp hb1 hG1
    go_wp2_with fail
    refine bodyPost_ret (v := gotV A1 m q p v) (by simp [results, Try.results58, go_sem, g0, g1, g2, gotV]) rfl ?_
    exact ⟨r, HP.out, HF.out w _ (by omega) (same3 _ (by omega) _ _ _) (Below.setCell (Below.setCell (Below.setCell HB1.out (by go_size) _) (by go_size) _) (by go_size) _)⟩
  case false =>
    have c1 := k1 _ h1
    rcases h2 : sgB toks i 40 with _ | _
    case true =>
      have c2 := k2 _ h2
      have cb := HT.out W HR2.out h2
      clear k1 k2 k3 k4 k5 h1 h2
      go_wp2_with (first | (go_at_call 57; with_reducible refine c1.mono ?_; rintro e w' ⟨rfl, rfl⟩) | (go_at_call 57; with_reducible refine c2.mono ?_; rintro e w' ⟨rfl, rfl⟩))
      refine cb.mono ?_
      rintro e w1 ⟨r, hp, hr⟩
      obtain ⟨A1, m, q, p, v, rfl, hb1, hfin⟩ := hr.three
      have HF := Lib.hid hfin
      have hG1 := HG.out.below hb1
      have HB1 := Lib.hid (HB.out.trans (hb1.mono (by omega)))
      obtain ⟨⟨g0, g1, g2⟩, ⟨f0, f1, f2⟩, g3⟩ := box3_of hG1
      clear hr hfin hb1 hG1
      go_wp2_with fail
      refine bodyPost_ret (v := gotV A1 m q p v) (by simp [results, Try.results58, go_sem, g0, g1, g2, gotV]) rfl ?_
      exact ⟨_, hp, HF.out w _ (by omega) (same3 _ (by omega) _ _ _) (Below.setCell (Below.setCell (Below.setCell HB1.out (by go_size) _) (by go_size) _) (by go_size) _)⟩
    case false =>
      have c2 := k2 _ h2
      rcases h3 : sgB toks i 123 with _ | _
      case true =>
        have c3 := k3 _ h3
        have HS := Lib.hid h3
        have cb := rbox_any toks A n c' (i + 1) 3 0 125 W HR2.out (by omega)
        rw [show ((i + 1 : Nat) : Int) = (i : Int) + 1 by omega] at cb
        clear k1 k2 k3 k4 k5 h1 h2 h3
        go_wp2_with (first | (go_at_call 57; with_reducible refine c1.mono ?_; rintro e w' ⟨rfl, rfl⟩) | (go_at_call 57; with_reducible refine c2.mono ?_; rintro e w' ⟨rfl, rfl⟩) | (go_at_call 57; with_reducible refine c3.mono ?_; rintro e w' ⟨rfl, rfl⟩))
        refine cb.mono ?_
        rintro e w1 hr
        obtain ⟨A1, m, q, p, v, rfl, hb1, hfin⟩ := hr.three
        have HF := Lib.hid hfin
        have hG1 := HG.out.below hb1
        have HB1 := Lib.hid (HB.out.trans (hb1.mono (by omega)))
        obtain ⟨⟨g0, g1, g2⟩, ⟨f0, f1, f2⟩, g3⟩ := box3_of hG1
        clear hr hfin hb1 hG1
        go_wp2_with fail
        refine bodyPost_ret (v := gotV A1 m q p v) (by simp [results, Try.results58, go_sem, g0, g1, g2, gotV]) rfl ?_
        exact ⟨_, .mono HS.out, HF.out w _ (by omega) (same3 _ (by omega) _ _ _) (Below.setCell (Below.setCell (Below.setCell HB1.out (by go_size) _) (by go_size) _) (by go_size) _)⟩
      case false =>
        have c3 := k3 _ h3
        have h60 : sgB toks i 60 = true := by
          have := HO.out
          unfold opens at this
          rw [h1, h2, h3] at this
          simpa using this
        have HS := Lib.hid h60
        rcases h4 : sgB toks (i + 1) 76 with _ | _
        case true =>
          have c4 := k4 _ h4
          have HS4 := Lib.hid h4
          have cb := rbox_any toks A n c' (i + 2) 4 1 62 W HR2.out (by omega)
          rw [show ((i + 2 : Nat) : Int) = (i : Int) + 2 by omega] at cb
          clear k1 k2 k3 k4 k5 h1 h2 h3 h4 h60
          go_wp2_with (first | (go_at_call 57; with_reducible refine c1.mono ?_; rintro e w' ⟨rfl, rfl⟩) | (go_at_call 57; with_reducible refine c2.mono ?_; rintro e w' ⟨rfl, rfl⟩) | (go_at_call 57; with_reducible refine c3.mono ?_; rintro e w' ⟨rfl, rfl⟩) | (go_at_call 57; with_reducible refine c4.mono ?_; rintro e w' ⟨rfl, rfl⟩))
          refine cb.mono ?_
          rintro e w1 hr
          obtain ⟨A1, m, q, p, v, rfl, hb1, hfin⟩ := hr.three
          have HF := Lib.hid hfin
          have hG1 := HG.out.below hb1
          have HB1 := Lib.hid (HB.out.trans (hb1.mono (by omega)))
          obtain ⟨⟨g0, g1, g2⟩, ⟨f0, f1, f2⟩, g3⟩ := box3_of hG1
          clear hr hfin hb1 hG1
          go_wp2_with fail
          refine bodyPost_ret (v := gotV A1 m q p v) (by simp [results, Try.results58, go_sem, g0, g1, g2, gotV]) rfl ?_
          exact ⟨_, .left HS.out HS4.out, HF.out w _ (by omega) (same3 _ (by omega) _ _ _) (Below.setCell (Below.setCell (Below.setCell HB1.out (by go_size) _) (by go_size) _) (by go_size) _)⟩
        case false =>
          have c4 := k4 _ h4
          have HS4 := Lib.hid h4
          rcases h5 : sgB toks (i + 1) 82 with _ | _
          case true =>
            have c5 := k5 _ h5
            have HS5 := Lib.hid h5
            have cb := rbox_any toks A n c' (i + 2) 4 2 62 W HR2.out (by omega)
            rw [show ((i + 2 : Nat) : Int) = (i : Int) + 2 by omega] at cb
            clear k1 k2 k3 k4 k5 h1 h2 h3 h4 h5 h60
            go_wp2_with (first | (go_at_call 57; with_reducible refine c1.mono ?_; rintro e w' ⟨rfl, rfl⟩) | (go_at_call 57; with_reducible refine c2.mono ?_; rintro e w' ⟨rfl, rfl⟩) | (go_at_call 57; with_reducible refine c3.mono ?_; rintro e w' ⟨rfl, rfl⟩) | (go_at_call 57; with_reducible refine c4.mono ?_; rintro e w' ⟨rfl, rfl⟩) | (go_at_call 57; with_reducible refine c5.mono ?_; rintro e w' ⟨rfl, rfl⟩))
            refine cb.mono ?_
            rintro e w1 hr
            obtain ⟨A1, m, q, p, v, rfl, hb1, hfin⟩ := hr.three
            have HF := Lib.hid hfin
            have hG1 := HG.out.below hb1
            have HB1 := Lib.hid (HB.out.trans (hb1.mono (by omega)))
            obtain ⟨⟨g0, g1, g2⟩, ⟨f0, f1, f2⟩, g3⟩ := box3_of hG1
            clear hr hfin hb1 hG1
            go_wp2_with fail
            refine bodyPost_ret (v := gotV A1 m q p v) (by simp [results, Try.results58, go_sem, g0, g1, g2, gotV]) rfl ?_
            exact ⟨_, .right HS.out HS5.out, HF.out w _ (by omega) (same3 _ (by omega) _ _ _) (Below.setCell (Below.setCell (Below.setCell HB1.out (by go_size) _) (by go_size) _) (by go_size) _)⟩
          case false =>
            have c5 := k5 _ h5
            have HS5 := Lib.hid h5
            clear k1 k2 k3 k4 k5 h1 h2 h3 h4 h5 h60
            obtain ⟨⟨g0, g1, g2⟩, ⟨f0, f1, f2⟩, g3⟩ := box3_of HG.out
            go_wp2_with (first | (go_at_call 57; with_reducible refine c1.mono ?_; rintro e w' ⟨rfl, rfl⟩) | (go_at_call 57; with_reducible refine c2.mono ?_; rintro e w' ⟨rfl, rfl⟩) | (go_at_call 57; with_reducible refine c3.mono ?_; rintro e w' ⟨rfl, rfl⟩) | (go_at_call 57; with_reducible refine c4.mono ?_; rintro e w' ⟨rfl, rfl⟩) | (go_at_call 57; with_reducible refine c5.mono ?_; rintro e w' ⟨rfl, rfl⟩))
            refine bodyPost_ret (v := gotV none 0 0 ((i + 1 : Nat) : Int) 1) (by simp [results, Try.results58, go_sem, g0, g1, g2, gotV]) rfl ?_
            exact ⟨_, .side HS.out HS4.out HS5.out, rfl, Below.setCell (Below.setCell (Below.setCell HB.out (by go_size) _) (by go_size) _) (by go_size) _⟩
end Go.Proofs.Ytamakeogaipdiaa
