import Derived.Test.YtideikbijjheeaaBandsMeeting
/- The program's bands.greatest, for each of its two closures. (Written by program: tools/drafts/gengreat10.py.) -/
namespace Go.Proofs.Ytideikbijjheeaa
open Go.RowKit
set_option linter.unusedVariables false
set_option linter.unusedSimpArgs false
def greatV (ok : Bool) (z : Int) (s : Int × Bool) : Int × Bool := if ok then (if s.2 = false ∨ s.1 < z then (z, true) else s) else s
def lowG (sides : Int) (s : Int × Bool) (f : Fl) : Int × Bool := greatV (andI f.side sides != 0) (f.y + f.h) s
def topG (s : Int × Bool) (f : Fl) : Int × Bool := greatV true f.y s
theorem lowG_eq (sides : Int) (s : Int × Bool) (f : Fl) : lowG sides s f = lowStep sides s f := by
  unfold lowG greatV lowStep
  by_cases h : andI f.side sides = 0
  · rw [if_pos h, h]; rfl
  · rw [if_neg h, if_pos (by simpa using h)]
theorem lowG_fold (sides : Int) (l : List Fl) : l.foldl (lowG sides) (0, false) = lowestL l sides := by
  unfold lowestL
  congr 1
  funext s f
  exact lowG_eq sides s f
theorem topG_fold (l : List Fl) : l.foldl topG (0, false) = topL l := by
  have hb : ∀ (r : List Fl) (b : Int), r.foldl topG (b, true) = (r.foldl topStep b, true) := by
    intro r
    induction r with
    | nil => intro b; rfl
    | cons f r ih =>
      intro b
      rw [List.foldl_cons, List.foldl_cons]
      have : topG (b, true) f = (topStep b f, true) := by
        unfold topG greatV topStep
        rw [if_pos rfl]
        by_cases h : b < f.y
        · rw [if_pos (.inr h), if_pos h]
        · rw [if_neg (by simpa using h), if_neg h]
      rw [this, ih]
  cases l with
  | nil => rfl
  | cons f r =>
    rw [List.foldl_cons]
    have : topG (0, false) f = (f.y, true) := by unfold topG greatV; rw [if_pos rfl, if_pos (.inl rfl)]
    rw [this, hb]
    unfold topL topF
    simp
theorem top1_to {x y u h s : Int} (w : World) :
    Calls Try.prog 28 #[.agg #[.int .i64 x, .int .i64 y, .int .i64 u, .int .i64 h, .int .i64 s]] w fun e w' => e = .returned (.tuple #[.int .i64 y, .bool true]) ∧ Below w.heap.size w w' := by
  go_enter Try.func28, Try.ntmps28
  go_wp2
  go_ret2
  exact ⟨rfl, by go_grown⟩
set_option maxHeartbeats 8000000 in
set_option maxRecDepth 100000 in
theorem greatest_top {l : List Fl} {p : Int} {ok : Bool} (hv : topL l = (p, ok)) (hn : ∀ f ∈ l, f.near) {A : Option Addr} {n c : Nat} {w0 w : World} (h : Rows 7 encFl w0 A n l) (hB : Below w0.heap.size w0 w) :
    Calls Try.prog 27 #[.slice A n c, .func (.func 28) #[] #[]] w fun e w' => e = .returned (.tuple #[.int .i64 p, .bool ok]) ∧ Below w.heap.size w w' := by
  have HA := Lib.hid h
  have HL := Lib.hid h.1
  have hnb := h.2.1
  have HV := Lib.hid hv
  have HN := Lib.hid hn
  have HBW := Lib.hid hB
  clear h hv hn hB
  go_enter Try.func27, Try.ntmps27
  go_wp2_with fail
  go_loopw [6, 7, 9, 10, 11, 14] (fun s' fl' x3 x4 x5 i wr => ∃ (k : Nat) (s : Int) (fl : Bool), i = .int .i64 (k : Int) ∧ s' = .int .i64 s ∧ fl' = .bool fl ∧ k ≤ n ∧ Hid ((l.take k).foldl topG (0, false) = (s, fl)) ∧ Hid (Below w.heap.size w wr)) (fun _ _ _ _ _ i _ => n - (intOf i).toNat)
  case atStart => exact ⟨0, 0, false, rfl, rfl, rfl, Nat.zero_le _, Lib.hid rfl, Lib.hid (Below.refl _ _)⟩
  case round =>
    obtain ⟨k, s, fl, rfl, rfl, rfl, hkn, HF, HB⟩ := hrel
    by_cases hlt : k < n
    · have hlt2 : (k : Int) < (n : Int) := by omega
      obtain ⟨b1, o1, f, rfl, hb1, hf, q0, q1, q2, q3, q4, q5, q6⟩ := fl_at (HA.out.below (below_then HBW.out HB.out)) hlt
      have HST := Lib.hid (foldl_one topG (0, false) hf)
      have HFN := Lib.hid (HN.out f (List.mem_of_getElem? hf))
      have HPL := Lib.hid (placed_to f)
      have HG := Lib.hid (show Below w.heap.size w (wr.alloc (.cells #[.int .i64 f.node, .int .i64 f.side, .int .i64 f.anchor, .int .i64 f.x, .int .i64 f.y, .int .i64 f.w, .int .i64 f.h] 24)) from HB.out.alloc (by have := HB.out.size; omega) _)
      have HBX := Lib.hid (box7 wr f 24)
      obtain ⟨f0, f1, f2, f3, f4, f5, f6⟩ := f
      obtain ⟨⟨x1, x2⟩, ⟨y1, y2⟩, ⟨u1, u2⟩, ⟨h1, h2⟩⟩ := HFN.out
      unfold farB at x1 x2 y1 y2 u1 u2 h1 h2
      simp only at q0 q1 q2 q3 q4 q5 q6 x1 x2 y1 y2 u1 u2 h1 h2
      have hwy : IntKind.i64.wrap (f4 + f6) = f4 + f6 := IntWalk.i64_in _ (by omega)
      have HWY := Lib.hid hwy
      clear hf hwy
      go_wp2_with fail
      refine (HPL.out _).mono ?_
      rintro e w5 ⟨rfl, hb5⟩
      have HB5 := Lib.hid (below_then HG.out hb5)
      clear hb5 HG HPL q0 q1 q2 q3 q4 q5 q6
      go_wp2_with fail
      refine (top1_to _).mono ?_
      rintro e w6 ⟨rfl, hb6⟩
      have HB6 := Lib.hid (below_then HB5.out hb6)
      clear hb6
      cases fl with
      | false =>
        have HS := Lib.hid (show (l.take (k + 1)).foldl topG (0, false) = (f4, true) by rw [HST.out, HF.out]; unfold topG; unfold greatV; rw [if_pos rfl, if_pos (.inl rfl)])
        go_wp2_with fail
        go_roundw
        case rel => exact ⟨k + 1, _, _, by go_num, rfl, rfl, by omega, HS, HB6⟩
        case measure => simp [intOf] <;> omega
      | true =>
        by_cases hbest : s < f4
        · have HS := Lib.hid (show (l.take (k + 1)).foldl topG (0, false) = (f4, true) by rw [HST.out, HF.out]; unfold topG; unfold greatV; rw [if_pos rfl, if_pos (.inr hbest)])
          go_wp2_with fail
          go_roundw
          case rel => exact ⟨k + 1, _, _, by go_num, rfl, rfl, by omega, HS, HB6⟩
          case measure => simp [intOf] <;> omega
        · have hbest2 : f4 ≤ s := by omega
          have HS := Lib.hid (show (l.take (k + 1)).foldl topG (0, false) = (s, true) by rw [HST.out, HF.out]; unfold topG; unfold greatV; rw [if_pos rfl, if_neg (by simpa using hbest)])
          go_wp2_with fail
          go_roundw
          case rel => exact ⟨k + 1, _, _, by go_num, rfl, rfl, by omega, HS, HB6⟩
          case measure => simp [intOf] <;> omega
    · have hge : (n : Int) ≤ (k : Int) := by omega
      have HE := Lib.hid (show (s, fl) = (p, ok) by rw [← HV.out, ← HF.out, List.take_of_length_le (by have := HL.out; omega)]; exact topG_fold _)
      go_wp2_with fail
      go_ret2
      exact ⟨ret_pair HE.out, HB.out⟩
end Go.Proofs.Ytideikbijjheeaa
