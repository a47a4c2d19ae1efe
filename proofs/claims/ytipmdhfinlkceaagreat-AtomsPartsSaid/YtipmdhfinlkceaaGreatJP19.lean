import Derived.Test.YtipmdhfinlkceaaGreatJP11
import Derived.Test.YtipmdhfinlkceaaGreatJP13
import Derived.Test.YtipmdhfinlkceaaGreatJP03
import Derived.Test.YtipmdhfinlkceaaGreatJP10
import Derived.Test.YtipmdhfinlkceaaGreatJP00
import Derived.Test.YtipmdhfinlkceaaGreatJP01
import Derived.Test.YtipmdhfinlkceaaGreatJP14
import Derived.Test.YtipmdhfinlkceaaGreatJP16
import Derived.Deep.LoopGhost
import Derived.BigRegion
import Derived.Test.YtipmdhfinlkceaaGreatJP18
import Derived.Test.YtipmdhfinlkceaaGreatJP09
import Derived.Lib.MinMax
import Derived.RangeFuncBox
import Derived.RangeFuncNested
import Derived.RangeFuncBound
import Derived.RangeFuncCalls
import Derived.RangeFuncLeaves
import Derived.Shelf.Abstract
import Derived.Shelf.RegionOpen
import Derived.WalkKit
import Derived.OwnWalkIn
import Derived.TacticsInMore
import Derived.LoopNIn
import Derived.LoopIn
import Derived.BigRegionIn
import Derived.Test.YtipmdhfinlkceaaGreatJP02
/- BandsGreat, BandsLow, BandsTop10, BandsTopLow, LinesRef3, PlaceFns, PlaceFns2, PlacePut, PlaceStand, ValidMach, ValidRefIs, ValidRefPlus, WordsEnds, WordsTake, AtomsAnch, PlaceDown, PlaceOwn. -/
set_option linter.unusedVariables false
set_option linter.unusedSimpArgs false
namespace Go.Proofs.YtipmdhfinlkceaaGreat
open Go.RowKit
def greatV (ok : Bool) (z : Int) (s : Int × Bool) : Int × Bool := if ok then (if s.2 = false ∨ s.1 < z then (z, true) else s) else s
def lowG (sides : Int) (s : Int × Bool) (f : Fl) : Int × Bool := greatV (andI f.side sides != 0) (f.y + f.h) s
def topG (s : Int × Bool) (f : Fl) : Int × Bool := greatV true f.y s
theorem lowG_eq (sides : Int) (s : Int × Bool) (f : Fl) : lowG sides s f = lowStep sides s f := by
  unfold lowG greatV lowStep
  by_cases h : andI f.side sides = 0
  · rw [if_pos h, h]; rfl
  · rw [if_neg h, if_pos (by simpa using h)]
theorem lowG_fold (sides : Int) (l : List Fl) : l.foldl (lowG sides) (0, false) = lowestL l sides := by
  unfold lowestL
  congr 1
  funext s f
  exact lowG_eq sides s f
theorem topG_fold (l : List Fl) : l.foldl topG (0, false) = topL l := by
  have hb : ∀ (r : List Fl) (b : Int), r.foldl topG (b, true) = (r.foldl topStep b, true) := by
    intro r
    induction r with
    | nil => intro b; rfl
    | cons f r ih =>
      intro b
      rw [List.foldl_cons, List.foldl_cons]
      have : topG (b, true) f = (topStep b f, true) := by
        unfold topG greatV topStep
        rw [if_pos rfl]
        by_cases h : b < f.y
        · rw [if_pos (.inr h), if_pos h]
        · rw [if_neg (by simpa using h), if_neg h]
      rw [this, ih]
  cases l with
  | nil => rfl
  | cons f r =>
    rw [List.foldl_cons]
    have : topG (0, false) f = (f.y, true) := by unfold topG greatV; rw [if_pos rfl, if_pos (.inl rfl)]
    rw [this, hb]
    unfold topL topF
    simp
theorem top1_to {x y u h s : Int} (w : World) :
    Calls Tryz.prog 164 #[.agg #[.int .i64 x, .int .i64 y, .int .i64 u, .int .i64 h, .int .i64 s]] w fun e w' => e = .returned (.tuple #[.int .i64 y, .bool true]) ∧ Below w.heap.size w w' := by
  go_enter Tryz.func164, Tryz.ntmps164
  go_wp2
  go_ret2
  exact ⟨rfl, by go_grown⟩
set_option maxHeartbeats 8000000 in
set_option maxRecDepth 100000 in
theorem greatest_top {l : List Fl} {p : Int} {ok : Bool} (hv : topL l = (p, ok)) (hn : ∀ f ∈ l, f.near) {A : Option Addr} {n c : Nat} {w0 w : World} (h : Rows 7 encFl w0 A n l) (hB : Below w0.heap.size w0 w) :
    Calls Tryz.prog 82 #[.slice A n c, .func (.func 164) #[] #[]] w fun e w' => e = .returned (.tuple #[.int .i64 p, .bool ok]) ∧ Below w.heap.size w w' := by
  have HA := Lib.hid h
  have HL := Lib.hid h.1
  have hnb := h.2.1
  have HV := Lib.hid hv
  have HN := Lib.hid hn
  have HBW := Lib.hid hB
  clear h hv hn hB
  go_enter Tryz.func82, Tryz.ntmps82
  go_wp2_with fail
  go_loopw [6, 7, 9, 10, 11, 14] (fun s' fl' x3 x4 x5 i wr => ∃ (k : Nat) (s : Int) (fl : Bool), i = .int .i64 (k : Int) ∧ s' = .int .i64 s ∧ fl' = .bool fl ∧ k ≤ n ∧ Hid ((l.take k).foldl topG (0, false) = (s, fl)) ∧ Hid (Below w.heap.size w wr)) (fun _ _ _ _ _ i _ => n - (intOf i).toNat)
  case atStart => exact ⟨0, 0, false, rfl, rfl, rfl, Nat.zero_le _, Lib.hid rfl, Lib.hid (Below.refl _ _)⟩
  case round =>
    obtain ⟨k, s, fl, rfl, rfl, rfl, hkn, HF, HB⟩ := hrel
    by_cases hlt : k < n
    · have hlt2 : (k : Int) < (n : Int) := by omega
      obtain ⟨b1, o1, f, rfl, hb1, hf, q0, q1, q2, q3, q4, q5, q6⟩ := fl_at (HA.out.below (below_then HBW.out HB.out)) hlt
      have HST := Lib.hid (foldl_one topG (0, false) hf)
      have HFN := Lib.hid (HN.out f (List.mem_of_getElem? hf))
      have HPL := Lib.hid (placed_to f)
      have HG := Lib.hid (show Below w.heap.size w (wr.alloc (.cells #[.int .i64 f.node, .int .i64 f.side, .int .i64 f.anchor, .int .i64 f.x, .int .i64 f.y, .int .i64 f.w, .int .i64 f.h] 67)) from HB.out.alloc (by have := HB.out.size; omega) _)
      have HBX := Lib.hid (box7 wr f 67)
      obtain ⟨f0, f1, f2, f3, f4, f5, f6⟩ := f
      obtain ⟨⟨x1, x2⟩, ⟨y1, y2⟩, ⟨u1, u2⟩, ⟨h1, h2⟩⟩ := HFN.out
      unfold farB at x1 x2 y1 y2 u1 u2 h1 h2
      simp only at q0 q1 q2 q3 q4 q5 q6 x1 x2 y1 y2 u1 u2 h1 h2
      have hwy : IntKind.i64.wrap (f4 + f6) = f4 + f6 := IntWalk.i64_in _ (by omega)
      have HWY := Lib.hid hwy
      clear hf hwy
      go_wp2_with fail
      refine (HPL.out _).mono ?_
      rintro e w5 ⟨rfl, hb5⟩
      have HB5 := Lib.hid (below_then HG.out hb5)
      clear hb5 HG HPL q0 q1 q2 q3 q4 q5 q6
      go_wp2_with fail
      refine (top1_to _).mono ?_
      rintro e w6 ⟨rfl, hb6⟩
      have HB6 := Lib.hid (below_then HB5.out hb6)
      clear hb6
      cases fl with
      | false =>
        have HS := Lib.hid (show (l.take (k + 1)).foldl topG (0, false) = (f4, true) by rw [HST.out, HF.out]; unfold topG; unfold greatV; rw [if_pos rfl, if_pos (.inl rfl)])
        go_wp2_with fail
        go_roundw
        case rel => exact ⟨k + 1, _, _, by go_num, rfl, rfl, by omega, HS, HB6⟩
        case measure => simp [intOf] <;> omega
      | true =>
        by_cases hbest : s < f4
        · have HS := Lib.hid (show (l.take (k + 1)).foldl topG (0, false) = (f4, true) by rw [HST.out, HF.out]; unfold topG; unfold greatV; rw [if_pos rfl, if_pos (.inr hbest)])
          go_wp2_with fail
          go_roundw
          case rel => exact ⟨k + 1, _, _, by go_num, rfl, rfl, by omega, HS, HB6⟩
          case measure => simp [intOf] <;> omega
        · have hbest2 : f4 ≤ s := by omega
          have HS := Lib.hid (show (l.take (k + 1)).foldl topG (0, false) = (s, true) by rw [HST.out, HF.out]; unfold topG; unfold greatV; rw [if_pos rfl, if_neg (by simpa using hbest)])
          go_wp2_with fail
          go_roundw
          case rel => exact ⟨k + 1, _, _, by go_num, rfl, rfl, by omega, HS, HB6⟩
          case measure => simp [intOf] <;> omega
    · have hge : (n : Int) ≤ (k : Int) := by omega
      have HE := Lib.hid (show (s, fl) = (p, ok) by rw [← HV.out, ← HF.out, List.take_of_length_le (by have := HL.out; omega)]; exact topG_fold _)
      go_wp2_with fail
      go_ret2
      exact ⟨ret_pair HE.out, HB.out⟩
set_option maxHeartbeats 1000000 in
theorem low1_to {x y u h s sides z : Int} {ok : Bool} (hz : andI s sides = z) (hok : (z != 0) = ok) (hw : IntKind.i64.wrap (y + h) = y + h) {w : World} {k : Nat} (hX : Box w k [.int .i64 sides]) :
    Calls Tryz.prog 83 #[.agg #[.int .i64 x, .int .i64 y, .int .i64 u, .int .i64 h, .int .i64 s], .pointer (some ⟨k, 0, none⟩)] w fun e w' => e = .returned (.tuple #[.int .i64 (y + h), .bool ok]) ∧ Below w.heap.size w w' := by
  have hu : bits .and .i64 s sides = z := hz
  have HC := Lib.hid (fun w => bottom_to (x := x) (y := y) (u := u) (h := h) (s := s) hw w)
  have HX := Lib.hid hX
  clear hz hX
  go_enter Tryz.func83, Tryz.ntmps83
  go_wp2_with fail
  generalize hW : w.alloc (.cells #[.int .i64 x, .int .i64 y, .int .i64 u, .int .i64 h, .int .i64 s] 132) = W
  have hF : Box W w.heap.size [.int .i64 x, .int .i64 y, .int .i64 u, .int .i64 h, .int .i64 s] := by rw [← hW]; exact Box.new5 _ _ _ _ _ _ _
  have hBW : Below w.heap.size w W := by rw [← hW]; go_grown
  have jf := OnW.of1 (HX.out.below hBW)
  have HBW := Lib.hid hBW
  have k0 := OnW.cell (W := W) hF.of5.1.1
  have k1 := OnW.cell (W := W) hF.of5.1.2.1
  have k2 := OnW.cell (W := W) hF.of5.1.2.2.1
  have k3 := OnW.cell (W := W) hF.of5.1.2.2.2.1
  have k4 := OnW.cell (W := W) hF.of5.1.2.2.2.2
  clear hW hBW hF
  refine wp_region_on (by kernel_rfl) (by kernel_rfl) ?_
  repeat (go_big_quiet_step (((go_at_call 84; with_reducible exact Calls.on_of (HC.out _)))))
  refine wpQuiet_nil ?_
  intro w5 hw'
  obtain ⟨⟨w6, hOn⟩, hw''⟩ := hw'
  obtain rfl : w5 = w6 := hw''
  go_wp2_with fail
  go_ret2
  exact ⟨rfl, below_then HBW.out hOn⟩
set_option maxHeartbeats 8000000 in
set_option maxRecDepth 100000 in
theorem greatest_low {l : List Fl} {sides p : Int} {ok : Bool} (hv : lowestL l sides = (p, ok)) (hn : ∀ f ∈ l, f.near) {A : Option Addr} {n c : Nat} {w0 w : World} (h : Rows 7 encFl w0 A n l) (hB : Below w0.heap.size w0 w) {m : Nat} (hX : Box w m [.int .i64 sides]) :
    Calls Tryz.prog 82 #[.slice A n c, .func (.func 83) #[] #[.pointer (some ⟨m, 0, none⟩)]] w fun e w' => e = .returned (.tuple #[.int .i64 p, .bool ok]) ∧ Below w.heap.size w w' := by
  have HA := Lib.hid h
  have HL := Lib.hid h.1
  have hnb := h.2.1
  have HV := Lib.hid hv
  have HN := Lib.hid hn
  have HBW := Lib.hid hB
  have HX := Lib.hid hX
  clear hX
  clear h hv hn hB
  go_enter Tryz.func82, Tryz.ntmps82
  go_wp2_with fail
  go_loopw [6, 7, 9, 10, 11, 14] (fun s' fl' x3 x4 x5 i wr => ∃ (k : Nat) (s : Int) (fl : Bool), i = .int .i64 (k : Int) ∧ s' = .int .i64 s ∧ fl' = .bool fl ∧ k ≤ n ∧ Hid ((l.take k).foldl (lowG sides) (0, false) = (s, fl)) ∧ Hid (Below w.heap.size w wr)) (fun _ _ _ _ _ i _ => n - (intOf i).toNat)
  case atStart => exact ⟨0, 0, false, rfl, rfl, rfl, Nat.zero_le _, Lib.hid rfl, Lib.hid (Below.refl _ _)⟩
  case round =>
    obtain ⟨k, s, fl, rfl, rfl, rfl, hkn, HF, HB⟩ := hrel
    by_cases hlt : k < n
    · have hlt2 : (k : Int) < (n : Int) := by omega
      obtain ⟨b1, o1, f, rfl, hb1, hf, q0, q1, q2, q3, q4, q5, q6⟩ := fl_at (HA.out.below (below_then HBW.out HB.out)) hlt
      have HST := Lib.hid (foldl_one (lowG sides) (0, false) hf)
      have HFN := Lib.hid (HN.out f (List.mem_of_getElem? hf))
      have HPL := Lib.hid (placed_to f)
      have HG := Lib.hid (show Below w.heap.size w (wr.alloc (.cells #[.int .i64 f.node, .int .i64 f.side, .int .i64 f.anchor, .int .i64 f.x, .int .i64 f.y, .int .i64 f.w, .int .i64 f.h] 67)) from HB.out.alloc (by have := HB.out.size; omega) _)
      have HBX := Lib.hid (box7 wr f 67)
      obtain ⟨f0, f1, f2, f3, f4, f5, f6⟩ := f
      obtain ⟨⟨x1, x2⟩, ⟨y1, y2⟩, ⟨u1, u2⟩, ⟨h1, h2⟩⟩ := HFN.out
      unfold farB at x1 x2 y1 y2 u1 u2 h1 h2
      simp only at q0 q1 q2 q3 q4 q5 q6 x1 x2 y1 y2 u1 u2 h1 h2
      have hwy : IntKind.i64.wrap (f4 + f6) = f4 + f6 := IntWalk.i64_in _ (by omega)
      have HWY := Lib.hid hwy
      obtain ⟨z, hz⟩ : ∃ z, andI f1 sides = z := ⟨_, rfl⟩
      obtain ⟨v, hv⟩ : ∃ v, (z != 0) = v := ⟨_, rfl⟩
      have HT := Lib.hid (show (andI f1 sides != 0) = v by rw [hz]; exact hv)
      have HZ := Lib.hid hz
      have HVV := Lib.hid hv
      clear hz hv
      clear hf hwy
      go_wp2_with fail
      refine (HPL.out _).mono ?_
      rintro e w5 ⟨rfl, hb5⟩
      have HB5 := Lib.hid (below_then HG.out hb5)
      have HX5 := Lib.hid (HX.out.below HB5.out)
      clear hb5 HG HPL q0 q1 q2 q3 q4 q5 q6
      go_wp2_with fail
      refine (low1_to HZ.out HVV.out HWY.out HX5.out).mono ?_
      rintro e w6 ⟨rfl, hb6⟩
      have HB6 := Lib.hid (below_then HB5.out hb6)
      clear hb6
      cases v with
      | false =>
        have HS := Lib.hid (show (l.take (k + 1)).foldl (lowG sides) (0, false) = (s, fl) by rw [HST.out, HF.out]; unfold lowG; rw [HT.out]; unfold greatV; rw [if_neg (by decide)])
        go_wp2_with fail
        go_roundw
        case rel => exact ⟨k + 1, _, _, by go_num, rfl, rfl, by omega, HS, HB6⟩
        case measure => simp [intOf] <;> omega
      | true =>
        cases fl with
        | false =>
          have HS := Lib.hid (show (l.take (k + 1)).foldl (lowG sides) (0, false) = (f4 + f6, true) by rw [HST.out, HF.out]; unfold lowG; rw [HT.out]; unfold greatV; rw [if_pos rfl, if_pos (.inl rfl)])
          go_wp2_with fail
          go_roundw
          case rel => exact ⟨k + 1, _, _, by go_num, rfl, rfl, by omega, HS, HB6⟩
          case measure => simp [intOf] <;> omega
        | true =>
          by_cases hbest : s < f4 + f6
          · have HS := Lib.hid (show (l.take (k + 1)).foldl (lowG sides) (0, false) = (f4 + f6, true) by rw [HST.out, HF.out]; unfold lowG; rw [HT.out]; unfold greatV; rw [if_pos rfl, if_pos (.inr hbest)])
            go_wp2_with fail
            go_roundw
            case rel => exact ⟨k + 1, _, _, by go_num, rfl, rfl, by omega, HS, HB6⟩
            case measure => simp [intOf] <;> omega
          · have hbest2 : f4 + f6 ≤ s := by omega
            have HS := Lib.hid (show (l.take (k + 1)).foldl (lowG sides) (0, false) = (s, true) by rw [HST.out, HF.out]; unfold lowG; rw [HT.out]; unfold greatV; rw [if_pos rfl, if_neg (by simpa using hbest)])
            go_wp2_with fail
            go_roundw
            case rel => exact ⟨k + 1, _, _, by go_num, rfl, rfl, by omega, HS, HB6⟩
            case measure => simp [intOf] <;> omega
    · have hge : (n : Int) ≤ (k : Int) := by omega
      have HE := Lib.hid (show (s, fl) = (p, ok) by rw [← HV.out, ← HF.out, List.take_of_length_le (by have := HL.out; omega)]; exact lowG_fold _ _)
      go_wp2_with fail
      go_ret2
      exact ⟨ret_pair HE.out, HB.out⟩
theorem Box.new1' (w : World) (a : Value) (t : TypeId) (n : Nat) (h : n = w.heap.size) : Box (w.alloc (.cells #[a] t)) n [a] := by subst h; exact Box.new w [a] t
set_option maxHeartbeats 2000000 in
theorem bof_to {l : List Fl} {y high a b p q : Int} {A : Option Addr} {n c : Nat} {w : World} (hv : bandL l y high (a, b) = (p, q)) (hn : ∀ f ∈ l, f.near) (hy : NearY y) (hh : NearI high) (h : Rows 7 encFl w A n l) :
    Calls Tryz.prog 141 #[.slice A n c, .int .i64 y, .int .i64 high, .agg #[.int .i64 a, .int .i64 b]] w fun e w' => e = .returned (.agg #[.int .i64 p, .int .i64 q]) ∧ Below w.heap.size w w' := by
  have HV := Lib.hid hv
  have HN := Lib.hid hn
  have HY := Lib.hid hy
  have HH := Lib.hid hh
  have HA := Lib.hid h
  clear hv hn hy hh h
  go_enter Tryz.func141, Tryz.ntmps141
  go_wp2_with fail
  generalize hW : ((w.alloc (.cells #[.int .i64 a, .int .i64 b] 112)).alloc (.cells #[.int .i64 0, .int .i64 0] 112)).alloc (.cells #[.int .i64 a, .int .i64 b] 112) = W
  have hX : Box W (w.heap.size + 1 + 1) [.int .i64 a, .int .i64 b] := by rw [← hW]; exact Box.new2' _ _ _ _ _ (by simp)
  have hR : Box W (w.heap.size + 1) [.int .i64 0, .int .i64 0] := by rw [← hW]; exact (Box.new2' _ _ _ _ _ (by simp)).alloc _
  have hB : Below w.heap.size w W := by rw [← hW]; go_grown
  refine (meeting_of HV.out HN.out HY.out HH.out HA.out hB hX (by omega)).mono ?_
  rintro e w5 ⟨rfl, hx5, hsp, hb5⟩
  have hr5 := hsp _ _ (by simp) hR
  have HB5 := Lib.hid hb5
  obtain ⟨d0, d1, d2, d3, d4⟩ := hx5.of2
  obtain ⟨r0, r1, r2, r3, r4⟩ := hr5.of2
  have HR5 := Lib.hid hr5
  clear hX hR hB hW hx5 hsp hb5 hr5
  go_wp2_with fail
  have hY := (HR5.out.set 0 (.int .i64 p) (by simp)).set 1 (.int .i64 q) (by simp)
  have s0 := hY.2.2 0 _ rfl
  have s1 := hY.2.2 1 _ rfl
  exact bodyPost_ret (v := .agg #[.int .i64 p, .int .i64 q]) (by simp [results, Tryz.results141, go_sem, s0, s1]) rfl ⟨rfl, (HB5.out.setCell (by simp) _).setCell (by simp) _⟩
set_option maxHeartbeats 2000000 in
theorem bnext_to {l : List Fl} {y high a b p : Int} {ok : Bool} {A : Option Addr} {n c : Nat} {w : World} (hv : nextL l y high a b = (p, ok)) (hn : ∀ f ∈ l, f.near) (hy : NearY y) (hh : NearI high) (h : Rows 7 encFl w A n l) :
    Calls Tryz.prog 140 #[.slice A n c, .int .i64 y, .int .i64 high, .agg #[.int .i64 a, .int .i64 b]] w fun e w' => e = .returned (.tuple #[.int .i64 p, .bool ok]) ∧ Below w.heap.size w w' := by
  have HV := Lib.hid hv
  have HN := Lib.hid hn
  have HY := Lib.hid hy
  have HH := Lib.hid hh
  have HA := Lib.hid h
  clear hv hn hy hh h
  go_enter Tryz.func140, Tryz.ntmps140
  go_wp2_with fail
  generalize hW : ((w.alloc (.cells #[.int .i64 a, .int .i64 b] 112)).alloc (.cells #[.int .i64 0] 3)).alloc (.cells #[.bool false] 4) = W
  have hI : Box W w.heap.size [.int .i64 a, .int .i64 b] := by rw [← hW]; exact ((Box.new2 _ _ _ _).alloc _).alloc _
  have hN : Box W (w.heap.size + 1) [.int .i64 0] := by rw [← hW]; exact (Box.new1' _ _ _ _ (by simp)).alloc _
  have hF : Box W (w.heap.size + 1 + 1) [.bool false] := by rw [← hW]; exact Box.new1' _ _ _ _ (by simp)
  have hB : Below w.heap.size w W := by rw [← hW]; go_grown
  refine (meeting_next HV.out HN.out HY.out HH.out HA.out hB hI hF hN (by omega) (by omega) (by omega) (by omega)).mono ?_
  rintro e w5 ⟨rfl, hn5, hf5, hsp, hb5⟩
  have HB5 := Lib.hid hb5
  obtain ⟨d0, d1, d2⟩ := hn5.of1
  obtain ⟨r0, r1, r2⟩ := hf5.of1
  clear hI hN hF hB hW hn5 hf5 hsp hb5
  go_wp2_with fail
  have k0 := OnW.cell (W := w5) d0
  have k1 := OnW.cell (W := w5) r0
  refine wp_region_on (by kernel_rfl) (by kernel_rfl) ?_
  repeat (go_big_quiet_step (fail))
  refine wpQuiet_nil ?_
  intro w7 hw'
  obtain ⟨⟨w6, hOn⟩, hw''⟩ := hw'
  obtain rfl : w7 = w6 := hw''
  go_wp2_with fail
  go_ret2
  exact ⟨rfl, HB5.out.trans (Below.mono hOn HB5.out.size)⟩
theorem btop_to {l : List Fl} {p : Int} {ok : Bool} {A : Option Addr} {n c : Nat} {w : World} (hv : topL l = (p, ok)) (hn : ∀ f ∈ l, f.near) (h : Rows 7 encFl w A n l) :
    Calls Tryz.prog 159 #[.slice A n c] w fun e w' => e = .returned (.tuple #[.int .i64 p, .bool ok]) ∧ Below w.heap.size w w' := by
  have HV := Lib.hid hv
  have HN := Lib.hid hn
  have HA := Lib.hid h
  clear hv hn h
  go_enter Tryz.func159, Tryz.ntmps159
  go_wp2_with fail
  refine (greatest_top HV.out HN.out HA.out (Below.refl _ _)).mono ?_
  rintro e w5 ⟨rfl, hb5⟩
  go_wp2_with fail
  go_ret2
  exact ⟨rfl, hb5⟩
theorem blowest_to {l : List Fl} {sides p : Int} {ok : Bool} {A : Option Addr} {n c : Nat} {w : World} (hv : lowestL l sides = (p, ok)) (hn : ∀ f ∈ l, f.near) (h : Rows 7 encFl w A n l) :
    Calls Tryz.prog 43 #[.slice A n c, .int .i64 sides] w fun e w' => e = .returned (.tuple #[.int .i64 p, .bool ok]) ∧ Below w.heap.size w w' := by
  have HV := Lib.hid hv
  have HN := Lib.hid hn
  have HA := Lib.hid h
  clear hv hn h
  go_enter Tryz.func43, Tryz.ntmps43
  go_wp2_with fail
  have hB : Below w.heap.size w (w.alloc (.cells #[.int .i64 sides] 3)) := by go_grown
  refine (greatest_low HV.out HN.out HA.out hB (Box.new1' _ _ _ _ rfl)).mono ?_
  rintro e w5 ⟨rfl, hb5⟩
  go_wp2_with fail
  go_ret2
  exact ⟨rfl, below_then hB hb5⟩
def LnsOwn (w : World) (l : List Ln) (e : Ending) (w' : World) : Prop := ∃ A n c, e = .returned (.slice A n c) ∧ n = l.length ∧ w'.ownsRow w.heap.size 118 5 (.slice A n c) n (l.flatMap encLn) ∧ Below w.heap.size w w'
theorem set_info : (Tryz.prog.info? 118).map (fun i => (i.zero, i.size, i.bytes)) = some (some (.agg #[.int .i64 0, .int .i64 0, .int .i64 0, .int .i64 0, .int .i64 0]), 5, 40) := by kernel_rfl
theorem cells_ln (w : World) (t : TypeId) (x : Ln) (k : Nat) (hk : k = w.heap.size) : Cells (w.alloc (.cells #[.int .i64 x.from_, .int .i64 x.to_, .int .i64 x.x, .int .i64 x.y, .int .i64 x.w] t)) (some ⟨k, 0, none⟩) 1 5 (encLn x) := by
  subst hk
  exact ⟨rfl, by decide, fun _ => ⟨w.heap.size, 0, rfl, by simp, fun j u hu => by
    have := (Box.new w (encLn x) t).2.2 j u hu
    rw [Nat.zero_add]; exact this⟩⟩
theorem flat_snoc (l : List Ln) (x : Ln) : (l ++ [x]).flatMap encLn = l.flatMap encLn ++ encLn x := by simp
theorem mul_one_up (k : Nat) (h : Int) : ((k + 1 : Nat) : Int) * h = (k : Int) * h + h := by push_cast; rw [Int.add_mul, Int.one_mul]
theorem mul_most {k : Nat} {h : Int} (hk : k ≤ 1000) (h0 : 0 ≤ h) (h1 : h ≤ 1099511627776) : 0 ≤ (k : Int) * h ∧ (k : Int) * h ≤ 1099511627776000 := by
  refine ⟨Int.mul_nonneg (by omega) h0, ?_⟩
  have := Int.mul_le_mul (show (k : Int) ≤ 1000 by omega) h1 h0 (by omega)
  omega
set_option maxHeartbeats 8000000 in
set_option maxRecDepth 100000 in
theorem rtext_to {l : List Fl} {ws : List Int} {sp h a b y M : Int} {v : List Ln} (hv : lnsL l ws sp h a b 0 y = v) (hn : ∀ f ∈ l, f.near) (hy : NearI y) (h0 : 0 ≤ h) (h1 : h ≤ 1099511627776) (hM : ∀ f ∈ l, f.y + f.h ≤ M) (hyM : y ≤ M) (hM2 : M ≤ 562949953421312) (ha : NearI a) (hb : NearI b) (hws : Near9 ws sp) {A A2 : Option Addr} {n c m c2 : Nat} (hm : m ≤ 1000) {w : World} (hA : Rows 7 encFl w A n l) (hW : Ints w A2 m ws) :
    Calls Tryz.prog 65 #[.slice A n c, .slice A2 m c2, .int .i64 sp, .int .i64 h, .int .i64 y, .agg #[.int .i64 a, .int .i64 b]] w (LnsOwn w v) := by
  obtain ⟨i0, hi0, hy0, hy1, hy2⟩ := info_parts set_info
  have HH := Lib.hid (show NearI h by unfold NearI farB; omega)
  have HL := Lib.hid hW.1
  have HYL := Lib.hid (show -1125899906842624 ≤ y from hy.1)
  have HLN := Lib.hid (show ∀ (i : Nat) (y1 : Int), i < ws.length → NearY y1 → ∀ W', On w W' → Calls Tryz.prog 93 #[.slice A n c, .slice A2 m c2, .int .i64 sp, .int .i64 h, .int .i64 (i : Int), .int .i64 y1, .agg #[.int .i64 a, .int .i64 b]] W' fun e w' => e = .returned (.agg #[.int .i64 (lineL l ws sp h a b i y1).from_, .int .i64 (lineL l ws sp h a b i y1).to_, .int .i64 (lineL l ws sp h a b i y1).x, .int .i64 (lineL l ws sp h a b i y1).y, .int .i64 (lineL l ws sp h a b i y1).w]) ∧ Below W'.heap.size W' w' from
    fun i y1 hi hy1 W' ho => rline_to rfl hi hn hy1 HH.out ha hb hws hm (hA.on ho) (hW.below (B := w.heap.size) ho rfl))
  have HV := Lib.hid hv
  have HMM := Lib.hid hM
  have H0 := Lib.hid h0
  have H1 := Lib.hid h1
  have HYM := Lib.hid hyM
  have HM2 := Lib.hid hM2
  clear hv hn hy h0 h1 hM hyM hM2 ha hb hws hA hW HH
  go_enter Tryz.func65, Tryz.ntmps65
  go_wp2_with fail
  generalize hW : World.alloc w _ = W
  have HI0 := Lib.hid (show Box W w.heap.size [.int .i64 a, .int .i64 b] by rw [← hW]; exact Box.new2 _ _ _ _)
  have HB0 := Lib.hid (show Below w.heap.size w W by rw [← hW]; go_grown)
  clear hW
  go_loopw [4, 13, 14, 15] (fun yv o i x wr => ∃ (j m3 c1 : Nat) (A1 : Option Addr) (dn : List Ln) (y1 : Int), yv = .int .i64 y1 ∧ o = .slice A1 m3 c1 ∧ i = .int .i64 (j : Int) ∧ j ≤ m ∧ m3 ≤ j ∧ Hid (dn.length = m3) ∧ Hid (dn ++ lnsL l ws sp h a b j y1 = v) ∧ Hid (-1125899906842624 ≤ y1 ∧ y1 ≤ M + (m3 : Int) * h) ∧ Hid (wr.ownsRow (w.heap.size + 1) 118 5 (.slice A1 m3 c1) m3 (dn.flatMap encLn)) ∧ Hid (Box wr w.heap.size [.int .i64 a, .int .i64 b]) ∧ Hid (Below w.heap.size w wr)) (fun _ _ i _ _ => m - (intOf i).toNat)
  case atStart => exact ⟨0, 0, 0, none, [], y, rfl, rfl, rfl, Nat.zero_le _, Nat.le_refl _, Lib.hid rfl, HV, Lib.hid ⟨HYL.out, by have := HYM.out; simp; omega⟩, Lib.hid (owns_nil _ _ _ _), HI0, HB0⟩
  case round =>
    obtain ⟨j, m3, c1, A1, dn, y1, rfl, rfl, rfl, hjm, hmj, HD, HT, HY, HO, HI, HB⟩ := hrel
    by_cases hlt : j < m
    · have hlt2 : (j : Int) < (m : Int) := by omega
      have HJ := Lib.hid (show j < ws.length by have := HL.out; omega)
      have hmm := mul_most (k := m3) (h := h) (by omega) H0.out H1.out
      have HNY := Lib.hid (show NearY y1 by have := HY.out; have := HM2.out; unfold NearY farB; omega)
      obtain ⟨x, hx⟩ : ∃ x, lineL l ws sp h a b j y1 = x := ⟨_, rfl⟩
      have hln := HLN.out j y1 HJ.out HNY.out wr HB.out
      rw [hx] at hln
      obtain ⟨t, ht, ht1, ht2⟩ := lineL_to l ws sp h a b y1 HJ.out
      rw [hx] at ht
      have HT2 := Lib.hid (show (dn ++ [x]) ++ lnsL l ws sp h a b t (x.y + h) = v by
        rw [← HT.out, lnsL_step HJ.out, hx, ht, Int.toNat_natCast, List.append_assoc]; rfl)
      have hxy : x.y = seekE l h (wordI ws j) a b y1 := by rw [← hx]; rfl
      have hge : y1 ≤ x.y := by rw [hxy]; exact seekE_ge _
      have hle : x.y ≤ M + (m3 : Int) * h := by
        rw [hxy]
        exact seekE_le (fun f hf => by have := HMM.out f hf; omega) HY.out.2
      have HXY := Lib.hid (show -1125899906842624 ≤ x.y + h ∧ x.y + h ≤ M + ((m3 + 1 : Nat) : Int) * h by rw [mul_one_up]; have := HY.out; have := H0.out; omega)
      have hw : IntKind.i64.wrap (x.y + h) = x.y + h := IntWalk.i64_in _ (by have := HY.out; have := H0.out; have := H1.out; have := HM2.out; omega)
      have HLN1 := Lib.hid hln
      have htm : t ≤ m := by have := HL.out; omega
      have htj : j < t := ht1
      obtain ⟨x0, x1, x2, x3, x4⟩ := x
      simp only at ht hw HXY HT2 HLN1
      subst ht
      clear hx hln ht1 ht2 hxy hge hle hmm
      obtain ⟨p0, p1, _, _, p4⟩ := HI.out.of2
      go_wp2_with fail
      refine HLN1.out.mono ?_
      rintro e w1 ⟨rfl, hb⟩
      have HO1 := Lib.hid (owns_below HO.out hb)
      have HI1 := Lib.hid (HI.out.below hb)
      have HB1 := Lib.hid (below_then HB.out hb)
      clear hb p0 p1 p4 HO HI HB HLN1
      go_wp2_with ((with_reducible refine stop_dst 31 ?_ ?_); exact rfl)
      refine Stop.intro ?_
      generalize hZ : w1.alloc (.cells #[.int .i64 x0, .int .i64 (t : Int), .int .i64 x2, .int .i64 x3, .int .i64 x4] 118) = Z
      have hal : Below w1.heap.size w1 Z := by rw [← hZ]; exact (Below.refl _ _).alloc (Nat.le_refl _) _
      have HX := Lib.hid (show Box Z w1.heap.size (encLn ⟨x0, (t : Int), x2, x3, x4⟩) by rw [← hZ]; exact Box.new w1 (encLn ⟨x0, (t : Int), x2, x3, x4⟩) _)
      have HO2 := Lib.hid (owns_below (owns_below HO1.out hal) ((Below.refl Z.heap.size Z).alloc (Nat.le_refl _) (.cells #[.int .i64 x0, .int .i64 (t : Int), .int .i64 x2, .int .i64 x3, .int .i64 x4] 118)))
      have HI2 := Lib.hid (HI1.out.below hal)
      have HB2 := Lib.hid (below_then HB1.out hal)
      have HLT := Lib.hid (show ∀ r, (Value.slice A1 m3 c1).ownBlock = some r → r < w1.heap.size from owns_block_lt HO1.out)
      have hz1 := HI2.out.1
      have hzs : w1.heap.size + 1 = Z.heap.size := by rw [← hZ]; simp
      clear hZ hal HO1 HI1 HB1
      refine wpList_append_cells _ rfl (.tmp 28) (.tmp 30) _ rfl (w.heap.size + 1) 118 i0 (.agg #[.int .i64 0, .int .i64 0, .int .i64 0, .int .i64 0, .int .i64 0]) 5 40 Tryz.underlying115 hi0 hy0 hy1 hy2 rfl (by decide) (.slice A1 m3 c1) m3 _ rfl HO2.out _ 1 1 _ rfl (cells_ln Z 118 ⟨x0, (t : Int), x2, x3, x4⟩ (w1.heap.size + 1) hzs) (encLn_one _) (by unfold maxLen; omega) (by omega) (by simp; omega) ?_
      intro A5 c5 w5 hown5 hg5
      have hbl := owns_block HO2.out
      have HX5 := Lib.hid ((HX.out.alloc (.cells #[.int .i64 x0, .int .i64 (t : Int), .int .i64 x2, .int .i64 x3, .int .i64 x4] 118)).grown hg5 (fun r e => by have := HLT.out r e; omega))
      have HI5 := Lib.hid ((HI2.out.alloc (.cells #[.int .i64 x0, .int .i64 (t : Int), .int .i64 x2, .int .i64 x3, .int .i64 x4] 118)).grown hg5 (fun r e => by have := hbl r e; omega))
      have HB5 := Lib.hid ((HB2.out.alloc (by have := HB2.out.size; omega) (.cells #[.int .i64 x0, .int .i64 (t : Int), .int .i64 x2, .int .i64 x3, .int .i64 x4] 118)).grown hg5 (by have := HB2.out.size; simp; omega) (fun r e => by have := hbl r e; omega))
      have HO5 := Lib.hid (show w5.ownsRow (w.heap.size + 1) 118 5 (.slice A5 (m3 + 1) c5) (m3 + 1) ((dn ++ [(⟨x0, (t : Int), x2, x3, x4⟩ : Ln)]).flatMap encLn) by rw [flat_snoc]; exact hown5)
      have HD5 := Lib.hid (show (dn ++ [(⟨x0, (t : Int), x2, x3, x4⟩ : Ln)]).length = m3 + 1 by rw [List.length_append, HD.out]; rfl)
      clear hown5 hg5 hbl HX HO2 HI2 HB2 HLT hz1 hzs
      obtain ⟨⟨k0, k1, k2, k3, k4⟩, _⟩ := HX5.out.of5l
      go_wp2_with fail
      go_roundw
      case rel => exact ⟨t, m3 + 1, c5, A5, dn ++ [(⟨x0, (t : Int), x2, x3, x4⟩ : Ln)], x3 + h, rfl, rfl, rfl, htm, by omega, HD5, HT2, HXY, HO5, HI5, HB5⟩
      case measure => simp [intOf] <;> omega
    · have hge : (m : Int) ≤ (j : Int) := by omega
      have HE := Lib.hid (show dn = v by rw [← HT.out, lnsL_end (by have := HL.out; omega), List.append_nil])
      have HD2 := Lib.hid HD.out
      go_wp2_with fail
      go_ret
      exact ⟨A1, m3, c1, rfl, by rw [← HE.out]; exact HD.out.symm, by rw [← HE.out]; exact owns_mono13 HO.out (by omega), HB.out⟩
def srch (f0 f1 f2 x y f5 f6 : Int) (A : Option Addr) (n c : Nat) (a b : Int) : List Value := [.int .i64 f0, .int .i64 f1, .int .i64 f2, .int .i64 x, .int .i64 y, .int .i64 f5, .int .i64 f6, .slice A n c, .int .i64 a, .int .i64 b]
theorem srch_of {w : World} {m : Nat} {f0 f1 f2 x y f5 f6 : Int} {A : Option Addr} {n c : Nat} {a b : Int} (h : Box w m (srch f0 f1 f2 x y f5 f6 A n c a b)) :
    (w.cell? ⟨m, 0, none⟩ = some (.int .i64 f0) ∧ w.cell? ⟨m, 1, none⟩ = some (.int .i64 f1) ∧ w.cell? ⟨m, 2, none⟩ = some (.int .i64 f2) ∧ w.cell? ⟨m, 3, none⟩ = some (.int .i64 x) ∧ w.cell? ⟨m, 4, none⟩ = some (.int .i64 y) ∧ w.cell? ⟨m, 5, none⟩ = some (.int .i64 f5) ∧ w.cell? ⟨m, 6, none⟩ = some (.int .i64 f6)) ∧
    (w.cell? ⟨m, 7, none⟩ = some (.slice A n c) ∧ w.cell? ⟨m, 8, none⟩ = some (.int .i64 a) ∧ w.cell? ⟨m, 9, none⟩ = some (.int .i64 b)) ∧ (∀ o, w.frozen? ⟨m, o, none⟩ = false) ∧ m < w.heap.size :=
  ⟨⟨h.2.2 0 _ rfl, h.2.2 1 _ rfl, h.2.2 2 _ rfl, h.2.2 3 _ rfl, h.2.2 4 _ rfl, h.2.2 5 _ rfl, h.2.2 6 _ rfl⟩, ⟨h.2.2 7 _ rfl, h.2.2 8 _ rfl, h.2.2 9 _ rfl⟩, h.2.1, h.1⟩
theorem plen_to {a b v : Int} (hv : lenW a b = v) (ha : NearY a) (hb : NearY b) (w : World) : Calls Tryz.prog 137 #[.agg #[.int .i64 a, .int .i64 b]] w fun e w' => e = .returned (.int .i64 v) ∧ Below w.heap.size w w' := by
  obtain ⟨a1, a2⟩ := ha
  obtain ⟨b1, b2⟩ := hb
  unfold farB at a1 a2 b1 b2
  have hw : IntKind.i64.wrap (b - a) = b - a := IntWalk.i64_in _ (by omega)
  have HX := Lib.hid (Box.new2 w (.int .i64 a) (.int .i64 b) 112)
  unfold lenW at hv
  by_cases h : b ≤ a
  · rw [if_pos h] at hv
    have HV := Lib.hid hv
    clear hv
    go_enter Tryz.func137, Tryz.ntmps137
    go_wp2_with fail
    refine (empty_any _ _ _).mono ?_
    rintro e w1 ⟨rfl, hb⟩
    have HB := Lib.hid (below_then (show Below w.heap.size w _ by go_grown) hb)
    clear hb
    go_wp2_with fail
    go_ret
    exact ⟨ret_int HV.out, HB.out⟩
  · rw [if_neg h] at hv
    have HV := Lib.hid hv
    have h2 : a < b := by omega
    clear hv
    go_enter Tryz.func137, Tryz.ntmps137
    go_wp2_with fail
    refine (empty_any _ _ _).mono ?_
    rintro e w1 ⟨rfl, hb⟩
    have HB := Lib.hid (below_then (show Below w.heap.size w _ by go_grown) hb)
    obtain ⟨c0, c1, _, _, _⟩ := (HX.out.below hb).of2
    clear hb
    go_wp2_with fail
    go_ret
    exact ⟨ret_int HV.out, HB.out⟩
set_option maxHeartbeats 2000000 in
theorem band_to {l : List Fl} {f0 f1 f2 x y f5 f6 a b p q : Int} (hv : bandL l y f6 (a, b) = (p, q)) (hn : ∀ f ∈ l, f.near) (hy : NearY y) (hh : NearI f6) {A : Option Addr} {n c m : Nat} {w : World} (h : Rows 7 encFl w A n l) (hX : Box w m (srch f0 f1 f2 x y f5 f6 A n c a b)) :
    Calls Tryz.prog 160 #[.pointer (some ⟨m, 0, none⟩)] w fun e w' => e = .returned (.agg #[.int .i64 p, .int .i64 q]) ∧ Below w.heap.size w w' := by
  obtain ⟨V, hV⟩ : ∃ V, w.alloc (.cells #[.int .i64 0, .int .i64 0] 112) = V := ⟨_, rfl⟩
  have hwV : Below w.heap.size w V := by rw [← hV]; go_grown
  have HR := Lib.hid (show Box V w.heap.size [.int .i64 0, .int .i64 0] by rw [← hV]; exact Box.new2 _ _ _ _)
  have HB := Lib.hid hwV
  have HX := Lib.hid (hX.below hwV)
  have HA := Lib.hid (h.below hwV)
  have HC := Lib.hid (show ∀ p' : OnW V, Calls Tryz.prog 141 #[.slice A n c, .int .i64 y, .int .i64 f6, .agg #[.int .i64 a, .int .i64 b]] p'.w fun e w' => e = .returned (.agg #[.int .i64 p, .int .i64 q]) ∧ Below p'.w.heap.size p'.w w' from fun p' => bof_to hv hn hy hh (HA.out.below p'.h))
  have HVV := Lib.hid hV
  obtain ⟨⟨p0, p1, p2, p3, p4, p5, p6⟩, ⟨p7, p8, p9⟩, p10, p11⟩ := srch_of HX.out
  have k4 := OnW.cell p4
  have k6 := OnW.cell p6
  have k7 := OnW.cell p7
  have k8 := OnW.cell p8
  have k9 := OnW.cell p9
  clear hv hn hy hh h hX hV hwV p0 p1 p2 p3 p4 p5 p6 p7 p8 p9 p10 p11
  go_enter Tryz.func160, Tryz.ntmps160
  go_wp2_with fail
  rw [HVV.out]
  refine wp_region_on_tail 19 (by kernel_rfl) (by kernel_rfl) rfl (by kernel_rfl) ?_
  simp only [headOf, List.take_succ_cons, List.take_zero, List.getElem_toArray, List.getElem_cons_succ, List.getElem_cons_zero]
  repeat (go_big_quiet_step ((first
    | (go_at_call 141; with_reducible exact Calls.on_of (HC.out _)))))
  refine wpQuiet_nil ?_
  intro w5 hw'
  obtain ⟨⟨w6, hOn⟩, hw''⟩ := hw'
  obtain rfl : w5 = w6 := hw''
  have HB5 := Lib.hid (below_then HB.out hOn)
  have HR5 := Lib.hid (HR.out.below hOn)
  obtain ⟨r0, r1, r2, r3, r4⟩ := HR5.out.of2
  clear k4 k6 k7 k8 k9 hOn
  go_wp2_with fail
  have hY := (HR5.out.set 0 (.int .i64 p) (by simp)).set 1 (.int .i64 q) (by simp)
  have s0 := hY.2.2 0 _ rfl
  have s1 := hY.2.2 1 _ rfl
  exact bodyPost_ret (v := .agg #[.int .i64 p, .int .i64 q]) (by simp [results, Tryz.results160, go_sem, s0, s1]) rfl ⟨rfl, (HB5.out.setCell (by simp) _).setCell (by simp) _⟩
set_option maxHeartbeats 2000000 in
theorem begin_to {l : List Fl} {f0 f1 f2 x y0 y t f5 f6 a b : Int} (hv : startY l y = t) (hn : ∀ f ∈ l, f.near) {A : Option Addr} {n c m : Nat} {w0 w : World} (h : Rows 7 encFl w0 A n l) (hB : Below w0.heap.size w0 w) (hX : Box w m (srch f0 f1 f2 x y0 f5 f6 A n c a b)) (hm : w0.heap.size ≤ m) :
    Calls Tryz.prog 142 #[.pointer (some ⟨m, 0, none⟩), .int .i64 y] w fun e w' => e = .returned (.tuple #[]) ∧ Box w' m (srch f0 f1 f2 x t f5 f6 A n c a b) ∧ Below w0.heap.size w0 w' := by
  obtain ⟨⟨tp, ok⟩, htp⟩ : ∃ r, topL l = r := ⟨_, rfl⟩
  unfold startY at hv
  rw [htp] at hv
  simp only at hv
  have HV := Lib.hid hv
  have HTP := Lib.hid htp
  have HN := Lib.hid hn
  have HA := Lib.hid h
  have HX := Lib.hid hX
  have HB := Lib.hid hB
  clear hv htp hn h hX hB
  obtain ⟨⟨p0, p1, p2, p3, p4, p5, p6⟩, ⟨p7, p8, p9⟩, p10, p11⟩ := srch_of HX.out
  go_enter Tryz.func142, Tryz.ntmps142
  go_wp2_with fail
  generalize hW : w.setCell ⟨m, 4, none⟩ (.int .i64 y) = W
  have HX1 := Lib.hid (show Box W m (srch f0 f1 f2 x y f5 f6 A n c a b) by rw [← hW]; exact HX.out.set 4 (.int .i64 y) (by simp [srch]))
  have HB1 := Lib.hid (show Below w0.heap.size w0 W by rw [← hW]; exact HB.out.setCell hm _)
  clear hW p0 p1 p2 p3 p4 p5 p6 p7 p8 p9 p10 p11 HX HB
  refine (btop_to HTP.out HN.out (HA.out.below HB1.out)).mono ?_
  rintro e w1 ⟨rfl, hb⟩
  have HB2 := Lib.hid (below_then HB1.out hb)
  have HX2 := Lib.hid (HX1.out.below hb)
  clear hb HX1 HB1
  obtain ⟨⟨p0, p1, p2, p3, p4, p5, p6⟩, ⟨p7, p8, p9⟩, p10, p11⟩ := srch_of HX2.out
  cases ok with
  | false =>
    have HT := Lib.hid (show y = t by rw [← HV.out]; simp)
    clear HV
    go_wp2_with fail
    go_end0
    exact ⟨rfl, by rw [← HT.out]; exact HX2.out, HB2.out⟩
  | true =>
    have HT := Lib.hid (show max y tp = t by rw [← HV.out]; simp only [true_and]; split <;> omega)
    clear HV
    go_wp2_with fail
    go_end0
    exact ⟨rfl, by rw [← HT.out]; exact HX2.out.set 4 (.int .i64 (max y tp)) (by simp [srch]), HB2.out.setCell hm _⟩
def FlsNew (w : World) (l : List Fl) (e : Ending) (w' : World) : Prop := ∃ A n c, e = .returned (.slice A n c) ∧ n = l.length ∧ Rows 7 encFl w' A n l ∧ Below w.heap.size w w' ∧ ∀ q, A = some q → w.heap.size ≤ q.block
def FlsOwn (w : World) (l : List Fl) (e : Ending) (w' : World) : Prop := ∃ A n c, e = .returned (.slice A n c) ∧ n = l.length ∧ w'.ownsRow w.heap.size 67 7 (.slice A n c) n (l.flatMap encFl) ∧ Below w.heap.size w w'
theorem owns_mono14 {w : World} {base b2 : Nat} {e : TypeId} {size : Nat} {v : Value} {n : Nat} {xs : List Value} (h : w.ownsRow base e size v n xs) (hb : b2 ≤ base) : w.ownsRow b2 e size v n xs := by
  refine ⟨h.1, ?_⟩
  rcases h.2 with h2 | ⟨g, cap, cur, h1, h2, h3⟩
  · exact .inl h2
  · exact .inr ⟨g, cap, cur, h1, by omega, h3⟩
theorem FlsOwn.new {w w' : World} {l : List Fl} {e : Ending} (h : FlsOwn w l e w') : FlsNew w l e w' := by
  obtain ⟨A, n, c, h1, h2, h3, h4⟩ := h
  exact ⟨A, n, c, h1, h2, ownsRow_rows encFl_len (by decide) h3, h4, fun q hq => by subst hq; exact owns_block h3 q.block rfl⟩
theorem fl_info' : (Tryz.prog.info? 67).map (fun i => (i.zero, i.size, i.bytes)) = some (some (.agg #[.int .i64 0, .int .i64 0, .int .i64 0, .int .i64 0, .int .i64 0, .int .i64 0, .int .i64 0]), 7, 56) := by kernel_rfl
theorem fls_one' (l : List Fl) : ∀ u ∈ l.flatMap encFl, u.oneCell' = true := by
  intro u hu
  obtain ⟨f, _, hf⟩ := List.mem_flatMap.1 hu
  exact encFl_one f u hf
theorem box_grown {w w' : World} {b : Nat} {row : Option Nat} {vs : List Value} (h : Box w b vs) (hg : w.grownBy w' row) (hne : some b ≠ row) : Box w' b vs := by
  have hb : w'.heap[b]? = w.heap[b]? := hg.block b h.1 hne
  refine ⟨Nat.lt_of_lt_of_le h.1 hg.size, fun o => ?_, fun j v hv => hg.cell (h.2.2 j v hv) hne⟩
  have := h.2.1 o
  unfold World.frozen? at this ⊢
  simp only [hb]
  exact this
theorem cells_box7 {w : World} {b : Nat} {f : Fl} (h : Box w b (encFl f)) : Cells w (some ⟨b, 0, none⟩) 1 7 (encFl f) :=
  ⟨rfl, by decide, fun _ => ⟨b, 0, rfl, h.1, fun j y hy => by rw [Nat.zero_add]; exact h.2.2 j y hy⟩⟩
theorem cells7 (w : World) (f : Fl) (t : TypeId) : Cells (w.alloc (.cells #[.int .i64 f.node, .int .i64 f.side, .int .i64 f.anchor, .int .i64 f.x, .int .i64 f.y, .int .i64 f.w, .int .i64 f.h] t)) (some ⟨w.heap.size, 0, none⟩) 1 7 (encFl f) := cells_box7 (box7 w f t)
set_option maxHeartbeats 16000000 in
set_option maxRecDepth 100000 in
theorem rput_own {l : List Fl} {f0 f1 f2 f3 f4 f5 f6 y a b x t : Int} (hx : spotX l ⟨f0, f1, f2, f3, f4, f5, f6⟩ y a b = x) (ht : spotY l ⟨f0, f1, f2, f3, f4, f5, f6⟩ y a b = t) (hn : ∀ g ∈ l, g.near) (hf : (⟨f0, f1, f2, f3, f4, f5, f6⟩ : Fl).near) (hy : NearI y) (ha : NearI a) (hb : NearI b) {A : Option Addr} {n c : Nat} (hn2 : n ≤ 1000) {w : World} (h : Rows 7 encFl w A n l) :
    Calls Tryz.prog 67 #[.slice A n c, .agg #[.int .i64 f0, .int .i64 f1, .int .i64 f2, .int .i64 f3, .int .i64 f4, .int .i64 f5, .int .i64 f6], .int .i64 y, .agg #[.int .i64 a, .int .i64 b]] w (FlsOwn w (l ++ [⟨f0, f1, f2, x, t, f5, f6⟩])) := by
  have HA := Lib.hid h
  have HL := Lib.hid h.1
  have HSP := Lib.hid (fun (v : World) (hs : Rows 7 encFl v A n l) => rspot_to (c := c) hx ht hn hf hy ha hb hn2 hs)
  obtain ⟨i0, hi0, hz0, hz1, hz2⟩ := info_parts fl_info'
  have HD0 := Lib.hid (show Box ((w.alloc (.cells #[.int .i64 f0, .int .i64 f1, .int .i64 f2, .int .i64 f3, .int .i64 f4, .int .i64 f5, .int .i64 f6] 67)).alloc (.cells #[.int .i64 a, .int .i64 b] 112)) w.heap.size (encFl ⟨f0, f1, f2, f3, f4, f5, f6⟩) from (box7 w ⟨f0, f1, f2, f3, f4, f5, f6⟩ _).alloc _)
  clear h hx ht hn hf hy ha hb
  go_enter Tryz.func67, Tryz.ntmps67
  go_wp2_with fail
  refine (HSP.out _ (HA.out.below (show Below w.heap.size w _ by go_grown))).mono ?_
  rintro e w3 ⟨rfl, hb⟩
  have HB3 := Lib.hid (below_then (show Below w.heap.size w _ by go_grown) hb)
  have HD3 := Lib.hid (HD0.out.below hb)
  clear hb HD0
  obtain ⟨⟨p0, p1, p2, p3, p4, p5, p6⟩, hBl⟩ := HD3.out.of7
  have p7 := HD3.out.2.1
  go_wp2_with fail
  clear p0 p1 p2 p3 p4 p5 p6 p7
  generalize hW : (w3.setCell ⟨w.heap.size, 3, none⟩ (.int .i64 x)).setCell ⟨w.heap.size, 4, none⟩ (.int .i64 t) = W
  have HB := Lib.hid (show Below w.heap.size w W by rw [← hW]; exact (HB3.out.setCell (Nat.le_refl _) _).setCell (Nat.le_refl _) _)
  have HD := Lib.hid (show Box W w.heap.size (encFl ⟨f0, f1, f2, x, t, f5, f6⟩) by rw [← hW]; exact (HD3.out.set 3 (.int .i64 x) (by rw [encFl_len]; decide)).set 4 (.int .i64 t) (by rw [List.length_set, encFl_len]; decide))
  clear hW
  obtain ⟨⟨p0, p1, p2, p3, p4, p5, p6⟩, hBl2⟩ := HD.out.of7
  simp only at p0 p1 p2 p3 p4 p5 p6
  have k0 := On.cell p0
  have k1 := On.cell p1
  have k2 := On.cell p2
  have k3 := On.cell p3
  have k4 := On.cell p4
  have k5 := On.cell p5
  have k6 := On.cell p6
  have hC : ∀ V, On W V → Cells V A n 7 (l.flatMap encFl) := fun V hV => (HA.out.below (below_then HB.out hV)).cells encFl_len (by decide)
  clear p0 p1 p2 p3 p4 p5 p6
  refine wp_region_held_tail 6 (S := fun W' => On W W') (by kernel_rfl) (by kernel_rfl) rfl (On.refl _).drew (fun h0 => ?_)
  simp only [headOf, List.take_succ_cons, List.take_zero, List.getElem_toArray, List.getElem_cons_succ, List.getElem_cons_zero]
  refine wpAnyH_take (i := 1) (v := ?_) rfl (by kernel_rfl) (by kernel_rfl) (by kernel_rfl) (fun _ _ _ h => h) (Or.inl ⟨by rfl, ?_⟩) h0 ?_
  rotate_left
  · intro w hSw; (try dsimp only at hSw); go_simp; with_reducible rfl
  try simp only [Act.put, List.setIfInBounds_toArray, List.set_cons_zero, List.set_cons_succ]
  refine wpAnyH_take (i := 3) (v := ?_) rfl (by kernel_rfl) (by kernel_rfl) (by kernel_rfl) (fun _ _ _ h => h) (Or.inl ⟨by rfl, ?_⟩) h0 ?_
  rotate_left
  · intro w hSw; (try dsimp only at hSw); go_simp; with_reducible rfl
  try simp only [Act.put, List.setIfInBounds_toArray, List.set_cons_zero, List.set_cons_succ]
  refine wpAnyH_ready (rs := [0, 4]) (by kernel_rfl) (by simp) ?_
  refine AllReadyH.cons rfl (fun K hK => ?_) (AllReadyH.cons rfl (fun K hK => ?_) AllReadyH.nil)
  · go_simp
    refine hK.out _ _ (On.alloc h0 _) (fun h1 => ?_)
    clear hK K
    try simp only [Act.put, List.setIfInBounds_toArray, List.set_cons_zero, List.set_cons_succ]
    have hO : (W.alloc (.cells #[] 67)).drew.ownsRow W.heap.size 67 7 (.slice (some ⟨W.heap.size, 0, none⟩) 0 0) 0 [] := owns_below (World.ownsRow_made W #[] 0 (Nat.le_refl _) (by decide) rfl) (Below.refl _ _).drew
    refine wpAnyH_ready (rs := [2, 4]) (by kernel_rfl) (by simp) ?_
    refine AllReadyH.cons rfl (fun K hK => ?_) (AllReadyH.cons rfl (fun K hK => ?_) AllReadyH.nil)
    · refine step_append_cells _ rfl (.tmp 19) (.tmp 20) _ rfl W.heap.size 67 i0 (.agg #[.int .i64 0, .int .i64 0, .int .i64 0, .int .i64 0, .int .i64 0, .int .i64 0, .int .i64 0]) 7 56 Tryz.underlying25 hi0 hz0 hz1 hz2 rfl (by decide) _ 0 [] rfl hO A n c _ rfl (hC _ h1) (fls_one' l) (by unfold maxLen; omega) (by omega) (Below.size h1) ?_
      intro A2 c2 w2 hown2 hg2
      simp only [Nat.zero_add, List.nil_append] at hown2 ⊢
      have hb2 : On W w2 := Below.grown h1 hg2 (Below.size h1) (fun r e => by injection e with e; simp only at e; omega)
      refine hK.out _ _ hb2 (fun h2 => ?_)
      clear hK K
      try simp only [Act.put, List.setIfInBounds_toArray, List.set_cons_zero, List.set_cons_succ]
      refine wpAnyH_ready (rs := [4]) (by kernel_rfl) (by simp) ?_
      refine AllReadyH.cons rfl (fun K hK => ?_) AllReadyH.nil
      go_simp
      refine hK.out _ _ (On.alloc h2 _) (fun h4 => ?_)
      clear hK K
      try simp only [Act.put, List.setIfInBounds_toArray, List.set_cons_zero, List.set_cons_succ]
      have hO4 := owns_below hown2 ((Below.refl w2.heap.size w2).alloc (Nat.le_refl _) (.cells #[.int .i64 f0, .int .i64 f1, .int .i64 f2, .int .i64 x, .int .i64 t, .int .i64 f5, .int .i64 f6] 67))
      refine wpAnyH_ready (rs := [5]) (by kernel_rfl) (by simp) ?_
      refine AllReadyH.cons rfl (fun K hK => ?_) AllReadyH.nil
      refine step_append_cells _ rfl (.tmp 21) (.tmp 23) _ rfl W.heap.size 67 i0 (.agg #[.int .i64 0, .int .i64 0, .int .i64 0, .int .i64 0, .int .i64 0, .int .i64 0, .int .i64 0]) 7 56 Tryz.underlying25 hi0 hz0 hz1 hz2 rfl (by decide) _ n _ rfl hO4 _ 1 1 _ rfl (cells7 w2 ⟨f0, f1, f2, x, t, f5, f6⟩ 67) (encFl_one ⟨f0, f1, f2, x, t, f5, f6⟩) (by unfold maxLen; omega) (by omega) (Below.size h4) ?_
      intro A5 c5 w5 hown5 hg5
      have hb5 : On W w5 := Below.grown h4 hg5 (Below.size h4) (fun r e => owns_block hO4 r e)
      refine hK.out _ _ hb5 (fun h5 => ?_)
      clear hK K
      try simp only [Act.put, List.setIfInBounds_toArray, List.set_cons_zero, List.set_cons_succ]
      refine wpAnyH_done (by kernel_rfl) ?_ _
      show wpList _ _ _ _ _ _
      have HE := Lib.hid (show FlsOwn w (l ++ [⟨f0, f1, f2, x, t, f5, f6⟩]) (.returned (.slice A5 (n + 1) c5)) w5 from ⟨A5, n + 1, c5, rfl, by rw [List.length_append, HL.out]; rfl, owns_mono14 (by rw [List.flatMap_append]; exact hown5) HB.out.size, below_then HB.out hb5⟩)
      clear hown5 hg5 hb5
      go_wp2_with fail
      go_ret
      exact HE.out
    · go_simp
      refine hK.out _ _ (On.alloc h1 _) (fun h4 => ?_)
      clear hK K
      try simp only [Act.put, List.setIfInBounds_toArray, List.set_cons_zero, List.set_cons_succ]
      have hX : Box ((W.alloc (.cells #[] 67)).alloc (.cells #[.int .i64 f0, .int .i64 f1, .int .i64 f2, .int .i64 x, .int .i64 t, .int .i64 f5, .int .i64 f6] 67)).drew (W.heap.size + 1) (encFl ⟨f0, f1, f2, x, t, f5, f6⟩) := (show Box ((W.alloc (.cells #[] 67)).alloc (.cells #[.int .i64 f0, .int .i64 f1, .int .i64 f2, .int .i64 x, .int .i64 t, .int .i64 f5, .int .i64 f6] 67)) (W.heap.size + 1) (encFl ⟨f0, f1, f2, x, t, f5, f6⟩) by have := box7 (W.alloc (.cells #[] 67)) ⟨f0, f1, f2, x, t, f5, f6⟩ 67; simpa using this).drew
      have hO4 : ((W.alloc (.cells #[] 67)).alloc (.cells #[.int .i64 f0, .int .i64 f1, .int .i64 f2, .int .i64 x, .int .i64 t, .int .i64 f5, .int .i64 f6] 67)).drew.ownsRow W.heap.size 67 7 (.slice (some ⟨W.heap.size, 0, none⟩) 0 0) 0 [] := owns_below (owns_below (World.ownsRow_made W #[] 0 (Nat.le_refl _) (by decide) rfl) ((Below.refl _ _).alloc (Nat.le_refl _) _)) (Below.refl _ _).drew
      refine wpAnyH_ready (rs := [2]) (by kernel_rfl) (by simp) ?_
      refine AllReadyH.cons rfl (fun K hK => ?_) AllReadyH.nil
      refine step_append_cells _ rfl (.tmp 19) (.tmp 20) _ rfl W.heap.size 67 i0 (.agg #[.int .i64 0, .int .i64 0, .int .i64 0, .int .i64 0, .int .i64 0, .int .i64 0, .int .i64 0]) 7 56 Tryz.underlying25 hi0 hz0 hz1 hz2 rfl (by decide) _ 0 [] rfl hO4 A n c _ rfl (hC _ h4) (fls_one' l) (by unfold maxLen; omega) (by omega) (Below.size h4) ?_
      intro A2 c2 w2 hown2 hg2
      simp only [Nat.zero_add, List.nil_append] at hown2 ⊢
      have hb2 : On W w2 := Below.grown h4 hg2 (Below.size h4) (fun r e => by injection e with e; simp only at e; omega)
      refine hK.out _ _ hb2 (fun h2 => ?_)
      clear hK K
      try simp only [Act.put, List.setIfInBounds_toArray, List.set_cons_zero, List.set_cons_succ]
      have hX2 := box_grown hX hg2 (fun e => by injection e with e; simp only at e; omega)
      refine wpAnyH_ready (rs := [5]) (by kernel_rfl) (by simp) ?_
      refine AllReadyH.cons rfl (fun K hK => ?_) AllReadyH.nil
      refine step_append_cells _ rfl (.tmp 21) (.tmp 23) _ rfl W.heap.size 67 i0 (.agg #[.int .i64 0, .int .i64 0, .int .i64 0, .int .i64 0, .int .i64 0, .int .i64 0, .int .i64 0]) 7 56 Tryz.underlying25 hi0 hz0 hz1 hz2 rfl (by decide) _ n _ rfl hown2 _ 1 1 _ rfl (cells_box7 hX2) (encFl_one ⟨f0, f1, f2, x, t, f5, f6⟩) (by unfold maxLen; omega) (by omega) (Below.size h2) ?_
      intro A5 c5 w5 hown5 hg5
      have hb5 : On W w5 := Below.grown h2 hg5 (Below.size h2) (fun r e => owns_block hown2 r e)
      refine hK.out _ _ hb5 (fun h5 => ?_)
      clear hK K
      try simp only [Act.put, List.setIfInBounds_toArray, List.set_cons_zero, List.set_cons_succ]
      refine wpAnyH_done (by kernel_rfl) ?_ _
      show wpList _ _ _ _ _ _
      have HE := Lib.hid (show FlsOwn w (l ++ [⟨f0, f1, f2, x, t, f5, f6⟩]) (.returned (.slice A5 (n + 1) c5)) w5 from ⟨A5, n + 1, c5, rfl, by rw [List.length_append, HL.out]; rfl, owns_mono14 (by rw [List.flatMap_append]; exact hown5) HB.out.size, below_then HB.out hb5⟩)
      clear hown5 hg5 hb5
      go_wp2_with fail
      go_ret
      exact HE.out
  · go_simp
    refine hK.out _ _ (On.alloc h0 _) (fun h4 => ?_)
    clear hK K
    try simp only [Act.put, List.setIfInBounds_toArray, List.set_cons_zero, List.set_cons_succ]
    refine wpAnyH_ready (rs := [0]) (by kernel_rfl) (by simp) ?_
    refine AllReadyH.cons rfl (fun K hK => ?_) AllReadyH.nil
    go_simp
    refine hK.out _ _ (On.alloc h4 _) (fun h1 => ?_)
    clear hK K
    try simp only [Act.put, List.setIfInBounds_toArray, List.set_cons_zero, List.set_cons_succ]
    have hX : Box ((W.alloc (.cells #[.int .i64 f0, .int .i64 f1, .int .i64 f2, .int .i64 x, .int .i64 t, .int .i64 f5, .int .i64 f6] 67)).alloc (.cells #[] 67)).drew W.heap.size (encFl ⟨f0, f1, f2, x, t, f5, f6⟩) := ((box7 W ⟨f0, f1, f2, x, t, f5, f6⟩ 67).alloc _).drew
    have hO4 : ((W.alloc (.cells #[.int .i64 f0, .int .i64 f1, .int .i64 f2, .int .i64 x, .int .i64 t, .int .i64 f5, .int .i64 f6] 67)).alloc (.cells #[] 67)).drew.ownsRow W.heap.size 67 7 (.slice (some ⟨W.heap.size + 1, 0, none⟩) 0 0) 0 [] := owns_below (show ((W.alloc (.cells #[.int .i64 f0, .int .i64 f1, .int .i64 f2, .int .i64 x, .int .i64 t, .int .i64 f5, .int .i64 f6] 67)).alloc (.cells #[] 67)).ownsRow W.heap.size 67 7 (.slice (some ⟨W.heap.size + 1, 0, none⟩) 0 0) 0 [] by have := World.ownsRow_made (W.alloc (.cells #[.int .i64 f0, .int .i64 f1, .int .i64 f2, .int .i64 x, .int .i64 t, .int .i64 f5, .int .i64 f6] 67)) (base := W.heap.size) (e := 67) (size := 7) #[] 0 (by simp) (by decide) rfl; simpa using this) (Below.refl _ _).drew
    refine wpAnyH_ready (rs := [2]) (by kernel_rfl) (by simp) ?_
    refine AllReadyH.cons rfl (fun K hK => ?_) AllReadyH.nil
    refine step_append_cells _ rfl (.tmp 19) (.tmp 20) _ rfl W.heap.size 67 i0 (.agg #[.int .i64 0, .int .i64 0, .int .i64 0, .int .i64 0, .int .i64 0, .int .i64 0, .int .i64 0]) 7 56 Tryz.underlying25 hi0 hz0 hz1 hz2 rfl (by decide) _ 0 [] rfl hO4 A n c _ rfl (hC _ h1) (fls_one' l) (by unfold maxLen; omega) (by omega) (Below.size h1) ?_
    intro A2 c2 w2 hown2 hg2
    simp only [Nat.zero_add, List.nil_append] at hown2 ⊢
    have hb2 : On W w2 := Below.grown h1 hg2 (Below.size h1) (fun r e => by injection e with e; simp only at e; omega)
    refine hK.out _ _ hb2 (fun h2 => ?_)
    clear hK K
    try simp only [Act.put, List.setIfInBounds_toArray, List.set_cons_zero, List.set_cons_succ]
    have hX2 := box_grown hX hg2 (fun e => by injection e with e; simp only at e; omega)
    refine wpAnyH_ready (rs := [5]) (by kernel_rfl) (by simp) ?_
    refine AllReadyH.cons rfl (fun K hK => ?_) AllReadyH.nil
    refine step_append_cells _ rfl (.tmp 21) (.tmp 23) _ rfl W.heap.size 67 i0 (.agg #[.int .i64 0, .int .i64 0, .int .i64 0, .int .i64 0, .int .i64 0, .int .i64 0, .int .i64 0]) 7 56 Tryz.underlying25 hi0 hz0 hz1 hz2 rfl (by decide) _ n _ rfl hown2 _ 1 1 _ rfl (cells_box7 hX2) (encFl_one ⟨f0, f1, f2, x, t, f5, f6⟩) (by unfold maxLen; omega) (by omega) (Below.size h2) ?_
    intro A5 c5 w5 hown5 hg5
    have hb5 : On W w5 := Below.grown h2 hg5 (Below.size h2) (fun r e => owns_block hown2 r e)
    refine hK.out _ _ hb5 (fun h5 => ?_)
    clear hK K
    try simp only [Act.put, List.setIfInBounds_toArray, List.set_cons_zero, List.set_cons_succ]
    refine wpAnyH_done (by kernel_rfl) ?_ _
    show wpList _ _ _ _ _ _
    have HE := Lib.hid (show FlsOwn w (l ++ [⟨f0, f1, f2, x, t, f5, f6⟩]) (.returned (.slice A5 (n + 1) c5)) w5 from ⟨A5, n + 1, c5, rfl, by rw [List.length_append, HL.out]; rfl, owns_mono14 (by rw [List.flatMap_append]; exact hown5) HB.out.size, below_then HB.out hb5⟩)
    clear hown5 hg5 hb5
    go_wp2_with fail
    go_ret
    exact HE.out
set_option maxHeartbeats 4000000 in
theorem stand_to {l : List Fl} {f0 f1 f2 x y t f5 f6 a b p q : Int} (hv : bandL l y f6 (a, b) = (p, q)) (ht : (if f1 = 1 then p else max p (q - f5)) = t) (hn : ∀ f ∈ l, f.near) (hy : NearY y) (h5 : NearI f5) (hh : NearI f6) (ha : NearI a) (hb : NearI b) {A : Option Addr} {n c m : Nat} {w0 w : World} (h : Rows 7 encFl w0 A n l) (hB : Below w0.heap.size w0 w) (hX : Box w m (srch f0 f1 f2 x y f5 f6 A n c a b)) (hm : w0.heap.size ≤ m) :
    Calls Tryz.prog 144 #[.pointer (some ⟨m, 0, none⟩)] w fun e w' => e = .returned (.tuple #[]) ∧ Box w' m (srch f0 f1 f2 t y f5 f6 A n c a b) ∧ Below w0.heap.size w0 w' := by
  have hqb := (bandL_bd hn y f6 (a, b) ⟨ha.y, hb.y⟩).2
  rw [hv] at hqb
  obtain ⟨q1, q2⟩ := hqb
  obtain ⟨w1', w2'⟩ := h5
  unfold farB at q1 q2 w1' w2'
  have hqw : IntKind.i64.wrap (q - f5) = q - f5 := IntWalk.i64_in _ (by simp only at q1 q2; omega)
  have HT := Lib.hid ht
  have HX := Lib.hid hX
  have HB := Lib.hid hB
  have HC := Lib.hid (band_to hv hn hy hh (h.below hB) hX)
  clear hv ht hn hy hh ha hb h hB hX q1 q2 w1' w2'
  go_enter Tryz.func144, Tryz.ntmps144
  go_wp2_with fail
  refine HC.out.mono ?_
  rintro e w1 ⟨rfl, hb⟩
  have HB1 := Lib.hid (below_then HB.out hb)
  have HX1 := Lib.hid ((HX.out.below hb).alloc (.cells #[.int .i64 p, .int .i64 q] 112))
  have HS := Lib.hid (Box.new2 w1 (.int .i64 p) (.int .i64 q) 112)
  have hms : m ≠ w1.heap.size := by
    have := (HX.out.below hb).1
    omega
  clear hb HC HX HB
  obtain ⟨⟨p0, p1, p2, p3, p4, p5, p6⟩, ⟨p7, p8, p9⟩, p10, p11⟩ := srch_of HX1.out
  obtain ⟨s0, s1, s2, s3, s4⟩ := HS.out.of2
  by_cases hs : f1 = 1
  · have hsb : (f1 == 1) = true := by simpa using hs
    have hsn : (f1 != 1) = false := by simpa using hs
    have HT2 := Lib.hid (show p = t by rw [← HT.out, if_pos hs])
    clear hs HT
    go_wp2_with fail
    go_end0
    exact ⟨rfl, by rw [← HT2.out]; exact HX1.out.set 3 (.int .i64 p) (by simp [srch]), (HB1.out.alloc HB1.out.size _).setCell hm _⟩
  · have hsb : (f1 == 1) = false := by simpa using hs
    have hsn : (f1 != 1) = true := by simpa using hs
    have HT2 := Lib.hid (show max p (q - f5) = t by rw [← HT.out, if_neg hs])
    clear hs HT
    go_wp2_with fail
    generalize hW : (w1.alloc (.cells #[.int .i64 p, .int .i64 q] 112)).setCell ⟨m, 3, none⟩ (.int .i64 p) = W
    have HX2 := Lib.hid (show Box W m (srch f0 f1 f2 p y f5 f6 A n c a b) by rw [← hW]; exact HX1.out.set 3 (.int .i64 p) (by simp [srch]))
    have HS2 := Lib.hid (show Box W w1.heap.size [.int .i64 p, .int .i64 q] by rw [← hW]; exact HS.out.set_other hms 3 (.int .i64 p))
    have HB2 := Lib.hid (show Below w0.heap.size w0 W by rw [← hW]; exact (HB1.out.alloc HB1.out.size _).setCell hm _)
    clear hW p0 p1 p2 p3 p4 p5 p6 p7 p8 p9 p10 p11 s0 s1 s2 s3 s4 HX1 HS HB1
    have k5 := OnW.cell (srch_of HX2.out).1.2.2.2.2.2.1
    obtain ⟨j0, j1⟩ := OnW.of2 HS2.out
    refine wp_region_on_tail 15 (by kernel_rfl) (by kernel_rfl) rfl (by kernel_rfl) ?_
    simp only [headOf, List.take_succ_cons, List.take_zero, List.getElem_toArray, List.getElem_cons_succ, List.getElem_cons_zero]
    repeat (go_big_quiet_step (fail))
    refine wpQuiet_nil ?_
    intro w5 hw'
    obtain ⟨⟨w6, hOn⟩, hw''⟩ := hw'
    obtain rfl : w5 = w6 := hw''
    have HB5 := Lib.hid (below_then HB2.out hOn)
    have HX5 := Lib.hid (HX2.out.below hOn)
    clear k5 j0 j1 hOn HB2 HX2 HS2
    obtain ⟨⟨p0, p1, p2, p3, p4, p5, p6⟩, ⟨p7, p8, p9⟩, p10, p11⟩ := srch_of HX5.out
    go_wp2_with fail
    go_end0
    exact ⟨rfl, by rw [← HT2.out]; exact HX5.out.set 3 (.int .i64 (max p (q - f5))) (by simp [srch]), HB5.out.setCell hm _⟩
def cntL (s : Sm) (A : Option Addr) (k c : Nat) : List Value := [.int .i64 s.depth, .int .i64 s.pieces, .int .i64 s.nodes, .int .i64 s.heights, .slice A k c]
structure Cnt (base D : Nat) (w : World) (s : Sm) (A : Option Addr) (k c : Nat) (es : List Int) : Prop where
  blk : Blk w D 83 (cntL s A k c)
  row : w.ownsRow base 3 1 (.slice A k c) k (es.map (Value.int .i64))
theorem Cnt.len {base D : Nat} {w : World} {s : Sm} {A : Option Addr} {k c : Nat} {es : List Int} (h : Cnt base D w s A k c es) : es.length = k := by
  have := h.row.1
  simpa using this
theorem Cnt.ints {base D : Nat} {w : World} {s : Sm} {A : Option Addr} {k c : Nat} {es : List Int} (h : Cnt base D w s A k c es) : Ints w A k es := (ownsRow_cells h.row).ints
theorem Cnt.on {base D : Nat} {w w' : World} {s : Sm} {A : Option Addr} {k c : Nat} {es : List Int} (h : Cnt base D w s A k c es) (hb : On w w') : Cnt base D w' s A k c es := ⟨h.blk.on hb, owns_below h.row hb⟩
theorem Cnt.cap {base D : Nat} {w : World} {s : Sm} {A : Option Addr} {k c : Nat} {es : List Int} (h : Cnt base D w s A k c es) : k ≤ c ∧ c ≤ 9223372036854775807 := by
  rcases h.row.2 with ⟨h1, h2⟩ | ⟨g, cap, cur, h1, _, _, h2, h3, _⟩
  · injection h1 with _ h1 h3; omega
  · injection h1 with _ _ h1
    unfold maxLen at h3
    omega
structure OnlyAt (D : Nat) (w w' : World) : Prop where
  below : Below D w w'
  size : w'.heap.size = w.heap.size
  block : ∀ k, k ≠ D → w'.heap[k]? = w.heap[k]?
theorem OnlyAt.refl (D : Nat) (w : World) : OnlyAt D w w := ⟨Below.refl _ _, rfl, fun _ _ => rfl⟩
theorem OnlyAt.drewN {D : Nat} {w w' : World} (h : OnlyAt D w w') (n : Nat) : OnlyAt D w (w'.drewN n) := ⟨below_drewN h.below n, h.size, h.block⟩
theorem OnlyAt.drew {D : Nat} {w w' : World} (h : OnlyAt D w w') : OnlyAt D w w'.drew := ⟨h.below.drew, h.size, h.block⟩
theorem OnlyAt.set {D : Nat} {w w' : World} (h : OnlyAt D w w') (j : Nat) (v : Value) : OnlyAt D w (w'.setCell ⟨D, j, none⟩ v) :=
  ⟨h.below.setCell (Nat.le_refl _) v, by simp [h.size], fun k hk => (Below.heap_setCell _ _ _ _ hk).trans (h.block k hk)⟩
theorem OnlyAt.blk {D g : Nat} {w w' : World} {t : TypeId} {vs : List Value} (h : OnlyAt D w w') (hg : g ≠ D) (hb : Blk w g t vs) : Blk w' g t vs := (h.block g hg).trans hb
theorem owns_only {D base : Nat} {w w' : World} {e t : TypeId} {size : Nat} {v : Value} {n : Nat} {xs vs : List Value} (h : w.ownsRow base e size v n xs) (ho : OnlyAt D w w') (hD : Blk w D t vs) (ht : e ≠ t) : w'.ownsRow base e size v n xs := by
  refine ⟨h.1, ?_⟩
  rcases h.2 with h2 | ⟨g, cap, cur, h1, h2, h3, h4⟩
  · exact .inl h2
  · refine .inr ⟨g, cap, cur, h1, h2, (ho.block g (fun e => ?_)).trans h3, h4⟩
    subst e
    rw [show w.heap[g]? = _ from hD] at h3
    injection h3 with h3
    injection h3 with _ h3 _
    exact ht h3.symm
theorem owns_take {base : Nat} {w : World} {e : TypeId} {A : Option Addr} {n c : Nat} {xs : List Value} (h : w.ownsRow base e 1 (.slice A n c) n xs) {k : Nat} (hk : k ≤ n) : w.ownsRow base e 1 (.slice A k c) k (xs.take k) := by
  have hl := h.1
  refine ⟨by rw [List.length_take]; omega, ?_⟩
  rcases h.2 with ⟨h1, h2⟩ | ⟨g, cap, cur, h1, h2, h3, h4, h5, h6, h7⟩
  · injection h1 with h1 _ h3
    subst h1 h3
    obtain rfl : k = 0 := by omega
    exact .inl ⟨rfl, rfl⟩
  · injection h1 with h1 _ h8
    subst h1 h8
    refine .inr ⟨g, c, cur, rfl, h2, h3, by omega, h5, h6, ?_⟩
    rw [← h7, List.take_take]
    congr 1
    omega
theorem Cnt.below {base D : Nat} {w w' : World} {s : Sm} {A : Option Addr} {k c : Nat} {es : List Int} (h : Cnt base D w s A k c es) (hb : Below w.heap.size w w') : Cnt base D w' s A k c es := h.on hb
theorem pend_any (base D : Nat) (w : World) (s : Sm) (A : Option Addr) (k c : Nat) (es : List Int) (z : Int) (h : Cnt base D w s A (k + 1) c es) (hz : es[k]? = some z) : Calls Tryz.prog 70 #[.pointer (some ⟨D, 0, none⟩)] w fun e w' => e = .returned (.int .i64 z) ∧ ∃ q, w' = w.drewN q := by
  have hI := h.ints
  obtain ⟨b1, o1, rfl, hc1⟩ := hI.at_ (Nat.lt_succ_self k)
  rw [show es[k]?.getD 0 = z by rw [hz]; rfl] at hc1
  have c4 := h.blk.box.2.2 4 _ rfl
  have hcap := h.cap
  have hk : k + 1 ≤ 9223372036854775807 := by omega
  clear h hI hz hcap
  go_enter Tryz.func70, Tryz.ntmps70
  go_wp2_with fail
  go_quiet (fail)
  go_wp2_with fail
  go_ret
  exact ⟨rfl, _, rfl⟩
theorem pend_to {base D : Nat} {w : World} {s : Sm} {A : Option Addr} {k c : Nat} {es : List Int} {z : Int} (h : Cnt base D w s A (k + 1) c es) (hz : es[k]? = some z) : Calls Tryz.prog 70 #[.pointer (some ⟨D, 0, none⟩)] w fun e w' => e = .returned (.int .i64 z) ∧ ∃ q, w' = w.drewN q := pend_any base D w s A k c es z h hz
theorem Cnt.drewN {base D : Nat} {w : World} {s : Sm} {A : Option Addr} {k c : Nat} {es : List Int} (h : Cnt base D w s A k c es) (q : Nat) : Cnt base D (w.drewN q) s A k c es := h.on (below_drewN (Below.refl _ _) q)
set_option maxHeartbeats 4000000 in
theorem pleave_any (base D : Nat) (w : World) (s : Sm) (A : Option Addr) (c : Nat) (ks : List Int) (i z : Int) (m : Nat) (h : Cnt base D w s A (ks.length + m) c (ks ++ List.replicate m i)) (hz : ks.getLast? = some z) (hne : z ≠ i) :
    Calls Tryz.prog 68 #[.pointer (some ⟨D, 0, none⟩), .int .i64 i] w fun e w' => e = .returned (.tuple #[]) ∧ Cnt base D w' s A ks.length c ks ∧ OnlyAt D w w' := by
  have H := Lib.hid h
  have HZ := Lib.hid hz
  have HN := Lib.hid hne
  clear h hz hne
  go_enter Tryz.func68, Tryz.ntmps68
  go_wp2_with fail
  go_loopg [] m (fun k wr => k ≤ m ∧ Cnt base D wr s A (ks.length + k) c (ks ++ List.replicate k i) ∧ OnlyAt D w wr)
  case atStart => exact ⟨Nat.le_refl _, H.out, OnlyAt.refl _ _⟩
  case round =>
    obtain ⟨hk, hC, hO⟩ := hrel
    have HC := Lib.hid hC
    have HO := Lib.hid hO
    clear hC hO
    cases gk with
    | zero =>
      obtain ⟨j, hj⟩ : ∃ j, ks.length = j + 1 := ⟨ks.length - 1, by
        have : ks ≠ [] := fun e => by rw [e] at HZ; cases HZ.out
        have := List.length_pos_iff.2 this
        omega⟩
      have hC := HC.out
      simp only [Nat.add_zero, List.replicate_zero, List.append_nil] at hC
      have HC1 := Lib.hid hC
      have hC2 : Cnt base D wr s A (j + 1) c ks := by rw [← hj]; exact hC
      have hz2 : ks[j]? = some z := by rw [← HZ.out, List.getLast?_eq_getElem?, hj]; rfl
      have HC2 := Lib.hid hC2
      have HZ2 := Lib.hid hz2
      have hzi : (z == i) = false := by simpa using HN.out
      clear hC hC2 hz2 hj
      go_wp2_with fail
      refine (pend_to HC2.out HZ2.out).mono ?_
      rintro e w1 ⟨rfl, q, rfl⟩
      go_wp2_with fail
      go_returns
      exact ⟨rfl, HC1.out.drewN q, HO.out.drewN q⟩
    | succ g =>
      obtain ⟨r, hr⟩ : ∃ r, ks.length + g = r := ⟨_, rfl⟩
      have hC2 : Cnt base D wr s A (r + 1) c (ks ++ List.replicate (g + 1) i) := by rw [← hr]; exact HC.out
      have hz2 : (ks ++ List.replicate (g + 1) i)[r]? = some i := by
        rw [List.getElem?_append_right (by omega), List.getElem?_replicate]
        rw [if_pos (by omega)]
      have HC2 := Lib.hid hC2
      have HZ2 := Lib.hid hz2
      have HR := Lib.hid hr
      clear hC2 hz2 hr
      go_wp2_with fail
      refine (pend_to HC2.out HZ2.out).mono ?_
      rintro e w1 ⟨rfl, q, rfl⟩
      have hC3 := HC2.out.drewN q
      have hO3 := HO.out.drewN q
      generalize wr.drewN q = V at hC3 hO3
      have c4 := hC3.blk.box.2.2 4 _ rfl
      have f4 := hC3.blk.box.2.1 4
      have hcap := hC3.cap
      have hlt := hC3.blk.box.1
      obtain ⟨hc1, hc2⟩ := hcap
      have HC3 := Lib.hid hC3
      have HO3 := Lib.hid hO3
      clear hC3 hO3
      go_wp2_with fail
      go_region
      go_wp2_with fail
      go_roundg g
      case rel =>
        have hO4 : OnlyAt D V (V.setCell ⟨D, 4, none⟩ (.slice A r c)).drew := ((OnlyAt.refl D V).set 4 _).drew
        refine ⟨by omega, ⟨?_, ?_⟩, (HO3.out.set 4 _).drew⟩
        · rw [HR.out]
          exact (HC3.out.blk.set 4 (.slice A r c)).drew
        · have h1 := owns_take HC3.out.row (Nat.le_succ r)
          have h2 := owns_only h1 hO4 HC3.out.blk (by decide)
          have e : ((ks ++ List.replicate (g + 1) i).map (Value.int .i64)).take r = (ks ++ List.replicate g i).map (Value.int .i64) := by
            rw [← List.map_take]
            congr 1
            rw [← HR.out, List.take_length_add_append, List.take_replicate]
            congr 2
            omega
          rw [e] at h2
          rw [HR.out]
          exact h2
      case measure => omega
theorem one_bad {l : List Nd} {k : Nat} {x : Nd} (hx : l[k]? = some x) (h : oneB x = false) : docB l = false := by
  unfold docB
  have : l.all oneB = false := by
    rw [List.all_eq_false]
    exact ⟨x, List.mem_of_getElem? hx, by rw [h]; simp⟩
  rw [this]; rfl
theorem one_good {l : List Nd} (h : ∀ (j : Nat) (x : Nd), j < l.length → l[j]? = some x → oneB x = true) : docB l = forestB l := by
  unfold docB
  have : l.all oneB = true := by
    rw [List.all_eq_true]
    intro x hx
    obtain ⟨j, hj, rfl⟩ := List.getElem_of_mem hx
    exact h j _ hj (List.getElem?_eq_getElem hj)
  rw [this]; rfl
set_option maxHeartbeats 4000000 in
set_option maxRecDepth 100000 in
theorem vIs_to {l : List Nd} {v : Bool} (hv : docB l = v) {A : Option Addr} {n c : Nat} {w : World} (h : Sees w A n l) : Calls Tryz.prog 90 #[.slice A n c] w fun e w' => e = .returned (.bool v) ∧ Below w.heap.size w w' := by
  have hla := h.len
  have hbd := h.bound
  have HA := Lib.hid h
  have HV := Lib.hid hv
  clear h hv
  go_enter Tryz.func90, Tryz.ntmps90
  go_wp2_with fail
  go_loopw [3] (fun i wr => ∃ k : Nat, k ≤ n ∧ i = .int .i64 k ∧ (∀ (j : Nat) (x : Nd), j < k → l[j]? = some x → oneB x = true) ∧ On w wr) (fun i _ => n - (intOf i).toNat)
  case atStart => exact ⟨0, by omega, rfl, fun j x hj => by omega, On.refl w⟩
  case round =>
    obtain ⟨k, hk, rfl, hall, hon⟩ := hrel
    have HL := Lib.hid hall
    have HO := Lib.hid hon
    clear hall hon
    by_cases hlt : k < n
    · obtain ⟨b1, o1, m1, x1, rfl, hb1, e1, r1, s1⟩ := (HA.out.on HO.out).at_ hlt
      have hk2 : (k : Int) < (n : Int) := by omega
      have R1 := Lib.hid (range_on r1)
      have S1 := Lib.hid s1
      have E1 := Lib.hid e1
      obtain ⟨u, hu⟩ : ∃ u, oneB x1 = u := ⟨_, rfl⟩
      have HU := Lib.hid hu
      clear r1 s1 e1 hu
      go_wp2_with ((with_reducible refine stop_load 40 (.tmp 12) ?_ ?_); exact rfl; refine Stop.intro ?_; refine wpList_load_mid rfl 40 (.tmp 12) rfl b1 (o1 + k * 20) rfl (encM m1) _ (R1.out wr (On.refl wr)) Tryz.underlying40 rfl (by kernel_rfl) ?_)
      refine (vone_to HU.out _ S1.out).mono ?_
      rintro e w5 ⟨rfl, hb5⟩
      have HO5 := Lib.hid (below_then HO.out hb5)
      clear hb5
      cases u with
      | false =>
        have HW := Lib.hid (show v = false by rw [← HV.out]; exact one_bad E1.out HU.out)
        go_wp2_with fail
        go_ret
        exact ⟨ret_bool HW.out.symm, HO5.out⟩
      | true =>
        go_wp2_with fail
        go_roundw
        case rel => exact ⟨k + 1, by omega, by go_num, fun j x hj hx => by
          by_cases e : j = k
          · subst e
            have := E1.out
            rw [this] at hx
            injection hx with hx
            subst hx
            exact HU.out
          · exact HL.out j x (by omega) hx, HO5.out⟩
        case measure => simp [intOf]; omega
    · have hk2 : (n : Int) ≤ (k : Int) := by omega
      have HW := Lib.hid (show forestB l = v by rw [← HV.out]; exact (one_good (fun j x hj => HL.out j x (by omega))).symm)
      go_wp2_with fail
      refine (vrows_all HW.out (HA.out.on HO.out)).mono ?_
      rintro e w5 ⟨rfl, hb5⟩
      have HO5 := Lib.hid (below_then HO.out hb5)
      clear hb5
      go_wp2_with fail
      go_ret
      exact ⟨rfl, HO5.out⟩
theorem vplus_any (a b : Int) (w : World) (ha : 0 ≤ a ∧ a ≤ 1099511627777) (hb : 0 ≤ b ∧ b ≤ 4611686018427387904) : Calls Tryz.prog 91 #[.int .i64 a, .int .i64 b] w fun e w' => e = .returned (.int .i64 (min (a + b) 1099511627777)) ∧ w = w' := by
  obtain ⟨a1, a2⟩ := ha
  obtain ⟨b1, b2⟩ := hb
  go_enter Tryz.func91, Tryz.ntmps91
  go_wp2_with fail
  go_ret
  exact ⟨rfl, rfl⟩
theorem vplus_on {a b c : Int} (hc : min (a + b) 1099511627777 = c) (w : World) (ha : 0 ≤ a ∧ a ≤ 1099511627777) (hb : 0 ≤ b ∧ b ≤ 4611686018427387904) : Calls Tryz.prog 91 #[.int .i64 a, .int .i64 b] w fun e w' => e = .returned (.int .i64 c) ∧ Below w.heap.size w w' := by
  subst hc
  exact (vplus_any a b w ha hb).mono fun e w' ⟨h, k⟩ => ⟨h, by rw [← k]; exact Below.refl _ _⟩
end Go.Proofs.YtipmdhfinlkceaaGreat
namespace Go.Proofs.YtipmdhfinlkceaaGreat
open Go.RowKit Go.Shelf
attribute [local go_sem] Oper.semAt_some
theorem wide_deep9 (k : Nat) : Fence.wide.depth.isSome = true → 1 ≤ k := fun h => by cases h
theorem boxed_kept9 {B k : Nat} {t : TypeId} {v : Value} {X Y : World} {row : Option Nat} (hs : Boxed X k t v) (hg : X.grownBy Y row) (hr : ∀ r, row = some r → B ≤ r ∧ ∃ o : Obj, X.heap[r]? = some o ∧ o.isCells = false) : Boxed Y k t v :=
  hs.kept hg (fun e' => by
    obtain ⟨_, o, ho, hc⟩ := hr k e'.symm
    rw [show X.heap[k]? = _ from hs] at ho; cases ho; cases hc)
theorem grown_of_below9 {w w' : World} (h : Below w.heap.size w w') (row : Option Nat) : w.grownBy w' row := ⟨h.os, h.tape, h.output, h.size, fun k hk _ => h.block k hk⟩
def leftN (zs : List Int) (a : Int) : Nat := if 0 ≤ a ∧ a < (zs.length : Int) then zs.length - a.toNat else 0
def wideK (zs : List Int) (sp a : Int) : Nat → Int
  | 0 => -sp
  | k + 1 => wideN zs sp a.toNat (a.toNat + (k + 1))
abbrev K9 := { k : Nat // k ≤ 10000 }
def enc9 (zs : List Int) (sp a : Int) (x : K9) : Array Value := #[.int .i64 (a + ((x.1 : Nat) : Int) + 1), .int .i64 (wideK zs sp a (x.1 + 1))]
theorem wideK_step {zs : List Int} {sp a : Int} {k : Nat} (h0 : 0 ≤ a) (h : a.toNat + k < zs.length) : wideK zs sp a (k + 1) = wideK zs sp a k + (sp + wordI zs (a.toNat + k)) := by
  cases k with
  | zero =>
    show wideN zs sp a.toNat (a.toNat + 1) = -sp + (sp + wordI zs (a.toNat + 0))
    rw [wideN_one (by omega), Nat.add_zero]; omega
  | succ k =>
    show wideN zs sp a.toNat (a.toNat + (k + 1 + 1)) = wideN zs sp a.toNat (a.toNat + (k + 1)) + (sp + wordI zs (a.toNat + (k + 1)))
    rw [show a.toNat + (k + 1 + 1) = a.toNat + (k + 1) + 1 by omega, wideN_step (by omega) (by omega)]; omega
theorem wideK_bd {zs : List Int} {sp : Int} (h : Near9 zs sp) (hl : zs.length ≤ 10000) (a : Int) (k : Nat) : -35184372088832 ≤ wideK zs sp a k ∧ wideK zs sp a k ≤ 20000 * 35184372088832 := by
  cases k with
  | zero =>
    have h1 := h.1
    unfold farN at h1
    show -35184372088832 ≤ -sp ∧ -sp ≤ 20000 * 35184372088832
    omega
  | succ k =>
    have h1 := wideN_bd h a.toNat (a.toNat + (k + 1))
    have h2 : 2 * (zs.length : Int) * farN ≤ 20000 * farN := Int.mul_le_mul_of_nonneg_right (by omega) (by unfold farN; omega)
    unfold farN at *
    show -35184372088832 ≤ wideN zs sp a.toNat (a.toNat + (k + 1)) ∧ wideN zs sp a.toNat (a.toNat + (k + 1)) ≤ 20000 * 35184372088832
    omega
def Reads9 (zs : List Int) (sp a : Int) (A : Option Addr) (m c b : Nat) (V : World) : Prop := V.cell? ⟨b, 0, none⟩ = some (.slice A m c) ∧ V.cell? ⟨b + 1, 0, none⟩ = some (.int .i64 sp) ∧ V.cell? ⟨b + 2, 0, none⟩ = some (.int .i64 a) ∧ Ints V A m zs
set_option maxRecDepth 100000 in
set_option maxHeartbeats 4000000 in
theorem ends1_in (n l b : Nat) {zs : List Int} {sp a : Int} (hn : Near9 zs sp) {A : Option Addr} {m c : Nat} (hm : m ≤ 10000) (ha : I64w a) (hl : zs.length = m)
    (G : World → Prop) (Kp : World → World → Prop) (hG : ∀ V, G V → Reads9 zs sp a A m c b V) (hGd : ∀ V, G V → G V.drew) (hGK : ∀ X Y, G X → Kp X Y → G Y)
    (J Jx : List K9 → World → Prop) (W : World) (hW : G W) (hJ : AbidesFrom W.heap.size J)
    (hY : ∀ pre x W1, J pre W1 → pre.length < 10001 → YieldAt Fence.wide (n - 1) Tryz.prog l (enc9 zs sp a x) W1 fun e W' =>
      (e = .returned (.bool true) ∧ J (pre ++ [x]) W' ∧ Kp W1 W') ∨ (e = .returned (.bool false) ∧ Jx (pre ++ [x]) W'))
    (h0 : J [] W) :
    CallsIn Fence.wide n Tryz.prog 161 #[.func (.yield l) #[] #[], .pointer (some ⟨b + 2, 0, none⟩), .pointer (some ⟨b, 0, none⟩), .pointer (some ⟨b + 1, 0, none⟩)] W fun e W' => (∃ v, e = .returned v) ∧
      ((∃ xs : List K9, xs.map (·.1) = List.range (leftN zs a) ∧ J xs W') ∨ (∃ pre : List K9, (∃ q, q < leftN zs a ∧ pre.map (·.1) = List.range (q + 1)) ∧ Jx pre W')) := by
  have HG := Lib.hid hG
  have HGd := Lib.hid hGd
  have HGK := Lib.hid hGK
  have HY := Lib.hid hY
  have HJ := Lib.hid hJ
  have HL := Lib.hid hl
  have HN := Lib.hid hn
  obtain ⟨c0, c1, c2, _⟩ := hG W hW
  obtain ⟨ha1, ha2⟩ := ha
  obtain ⟨⟨sp0, sp1⟩, _⟩ := id hn
  unfold farN at sp1
  clear hG hGd hGK hY hJ hn hl
  refine callsIn_of_wp Tryz.func161 rfl trivial ?_ rfl
  simp only [Tryz.ntmps161, List.size_toArray, List.length_cons, List.length_nil, Nat.reduceAdd, Nat.reduceSub, Array.replicate_succ, Array.replicate_zero, List.push_toArray, List.append_toArray, List.nil_append, List.cons_append]
  by_cases h1 : a < 0
  · have HE := Lib.hid (show leftN zs a = 0 by unfold leftN; rw [if_neg (by omega)])
    gi_wp2
    refine bodyPost_ret (results_none rfl _ _ _) rfl ?_
    exact ⟨⟨_, rfl⟩, .inl ⟨[], by rw [HE.out]; rfl, h0⟩⟩
  by_cases h2 : (m : Int) ≤ a
  · have HE := Lib.hid (show leftN zs a = 0 by unfold leftN; rw [if_neg (by have := HL.out; omega)])
    gi_wp2
    refine bodyPost_ret (results_none rfl _ _ _) rfl ?_
    exact ⟨⟨_, rfl⟩, .inl ⟨[], by rw [HE.out]; rfl, h0⟩⟩
  obtain ⟨i, rfl⟩ : ∃ i : Nat, a = (i : Int) := ⟨a.toNat, by omega⟩
  have him : i < m := by omega
  have HE := Lib.hid (show leftN zs (i : Int) = m - i by unfold leftN; rw [if_pos (by have := HL.out; omega), Int.toNat_natCast, HL.out])
  have HJ0 := Lib.hid h0
  have HW := Lib.hid hW
  have hd0 : decide ((i : Int) < 0) = false := decide_eq_false (by omega)
  have hd1 : decide ((m : Int) ≤ (i : Int)) = false := decide_eq_false (by omega)
  have hd2 : decide (m ≤ i) = false := decide_eq_false (by omega)
  clear h0 hW h1 h2
  gi_wp2
  gi_loopw [5, 6] (fun t i' wr => ∃ (k : Nat) (z : Int) (pre : List K9), t = .int .i64 z ∧ i' = .int .i64 ((i + k + 1 : Nat) : Int) ∧ i + k ≤ m ∧ Hid (z = wideK zs sp (i : Int) k) ∧ Hid (pre.map (·.1) = List.range k) ∧ Hid (J pre wr) ∧ Hid (G wr)) (fun _ i' _ => m + 1 - (intOf i').toNat)
  case atStart => exact ⟨0, _, [], rfl, by go_num, by omega, Lib.hid (by show _ = -sp; go_num), Lib.hid rfl, HJ0, HW⟩
  case round =>
    obtain ⟨k, z, pre, rfl, rfl, hkm, HZ, HP, HJp, HO⟩ := hrel
    obtain ⟨c0, c1, c2, hints⟩ := HG.out wr HO.out
    have HI := Lib.hid hints
    have hzb := wideK_bd HN.out (by rw [HL.out]; omega) (i : Int) k
    rw [← HZ.out] at hzb
    obtain ⟨hz0, hz1⟩ := hzb
    clear hints
    by_cases hlt : i + k < m
    · have hlt2 : ((i + k + 1 : Nat) : Int) ≤ (m : Int) := by omega
      obtain ⟨b', off, rfl, hc⟩ := HI.out.at_ (show i + k < m by omega)
      obtain ⟨u, hu⟩ : ∃ u, zs[i + k]?.getD 0 = u := ⟨_, rfl⟩
      rw [hu] at hc
      have hub := word_bd HN.out (i + k)
      unfold wordI at hub
      rw [hu] at hub
      obtain ⟨hu0, hu1⟩ := hub
      unfold farN at hu1
      have HZ2 := Lib.hid (show z + (sp + u) = wideK zs sp (i : Int) (k + 1) by rw [wideK_step (by omega) (by rw [HL.out]; omega), HZ.out, Int.toNat_natCast]; unfold wordI; rw [hu])
      have hlen : pre.length < 10001 := by
        have h1 := congrArg List.length HP.out
        rw [List.length_map, List.length_range] at h1; omega
      obtain ⟨kx, hkx⟩ : ∃ x : K9, x.1 = k := ⟨⟨k, by omega⟩, rfl⟩
      have hbd : Below wr.heap.size wr wr.drew := Below.drew (Below.refl _ _)
      have HOd := Lib.hid (HGd.out wr HO.out)
      obtain ⟨fn, tmps, assign, body, hy, hR⟩ := HY.out pre kx wr.drew (HJ.out pre wr wr.drew none HJp.out (grown_of_below9 hbd none) (fun r e => by cases e)) hlen
      have henc : enc9 zs sp (i : Int) kx = #[.int .i64 ((i : Int) + (k : Int) + 1), .int .i64 (z + (sp + u))] := by
        unfold enc9; rw [hkx, ← HZ2.out]
      rw [henc] at hy
      have HP2 := Lib.hid (show (pre ++ [kx]).map (·.1) = List.range (k + 1) by rw [List.map_append, HP.out, List.range_succ]; simp [hkx])
      clear hu hkx hlen hbd
      gi_wp2_with (fail)
      gi_region
      gi_wp2_with (fail)
      refine ⟨wide_deep9 _, ?_⟩
      refine hR.mono ?_
      rintro e W3 (⟨rfl, hJ4, hk4⟩ | ⟨rfl, hx4⟩)
      · have HJ4 := Lib.hid hJ4
        have HO4 := Lib.hid (HGK.out _ _ HOd.out hk4)
        clear hJ4 hk4 hy hR c0 c1 c2 hc
        gi_wp2_with (fail)
        go_roundw
        case rel => exact ⟨k + 1, z + (sp + u), pre ++ [kx], rfl, by go_num, by omega, HZ2, HP2, HJ4, HO4⟩
        case measure => simp [intOf] <;> omega
      · gi_wp2
        refine bodyPost_ret (results_none rfl _ _ _) rfl ?_
        exact ⟨⟨_, rfl⟩, .inr ⟨pre ++ [kx], ⟨k, by rw [HE.out]; omega, HP2.out⟩, hx4⟩⟩
    · have hge : (m : Int) < ((i + k + 1 : Nat) : Int) := by omega
      gi_wp2
      go_end0
      exact ⟨⟨_, rfl⟩, .inl ⟨pre, by rw [HP.out, HE.out, show k = m - i by omega], HJp.out⟩⟩
theorem ends_stops (b : Nat) (w0 : World) {zs : List Int} {sp a : Int} (hn : Near9 zs sp) {A : Option Addr} {m c : Nat} (hm : m ≤ 10000) (ha : I64w a) (hl : zs.length = m)
    (G : World → Prop) (Kp : World → World → Prop) (hG : ∀ V, G V → Reads9 zs sp a A m c b V) (hGd : ∀ V, G V → G V.drew) (hGK : ∀ X Y, G X → Kp X Y → G Y) (hG0 : ∀ V, On w0 V → G V) (n : Nat) :
    SeqStopsK Fence.wide n Tryz.prog 161 #[.pointer (some ⟨b + 2, 0, none⟩), .pointer (some ⟨b, 0, none⟩), .pointer (some ⟨b + 1, 0, none⟩)] (enc9 zs sp a) Kp (fun xs => xs.map (·.1) = List.range (leftN zs a)) (fun pre => ∃ q, q < leftN zs a ∧ pre.map (·.1) = List.range (q + 1)) 10001 w0 :=
  fun l J Jx W hW hJ hJx hY h0 => ends1_in n l b hn hm ha hl G Kp hG hGd hGK J Jx W (hG0 W hW) hJ hY h0
theorem ends_in (A : Option Addr) (m c : Nat) (sp a : Int) (w : World) : Calls Tryz.prog 152 #[.slice A m c, .int .i64 sp, .int .i64 a] w fun e w' => e = .returned (.func (.func 161) #[] #[.pointer (some ⟨w.heap.size + 2, 0, none⟩), .pointer (some ⟨w.heap.size, 0, none⟩), .pointer (some ⟨w.heap.size + 1, 0, none⟩)]) ∧ w' = ((w.alloc (.cells #[.slice A m c] 33)).alloc (.cells #[.int .i64 sp] 3)).alloc (.cells #[.int .i64 a] 3) := by
  go_enter Tryz.func152, Tryz.ntmps152
  go_wp2_with fail
  go_ret
  exact ⟨rfl, rfl⟩
theorem three_boxes (w : World) (u v x : Value) (t1 t2 t3 : TypeId) (V : World) (hV : V = ((w.alloc (.cells #[u] t1)).alloc (.cells #[v] t2)).alloc (.cells #[x] t3)) : V.heap[w.heap.size]? = some (.cells #[u] t1) ∧ V.heap[w.heap.size + 1]? = some (.cells #[v] t2) ∧ V.heap[w.heap.size + 2]? = some (.cells #[x] t3) ∧ On w V ∧ V.heap.size = w.heap.size + 3 := by
  subst hV
  refine ⟨(Below.heap_alloc _ _ _ (by simp; omega)).trans ((Below.heap_alloc _ _ _ (by simp)).trans (World.alloc_heap_new w _)), (Below.heap_alloc _ _ _ (by simp)).trans ?_, ?_, (((Below.refl _ w).alloc (Nat.le_refl _) _).alloc (by simp) _).alloc (by simp; omega) _, by simp⟩
  · have := World.alloc_heap_new (w.alloc (.cells #[u] t1)) (.cells #[v] t2)
    rwa [World.size_alloc] at this
  · have := World.alloc_heap_new ((w.alloc (.cells #[u] t1)).alloc (.cells #[v] t2)) (.cells #[x] t3)
    rwa [World.size_alloc, World.size_alloc] at this
end Go.Proofs.YtipmdhfinlkceaaGreat
namespace Go.Proofs.YtipmdhfinlkceaaGreat
open Go.RowKit Go.Shelf
attribute [local go_sem] Oper.semAt_some
def lineK (zs : List Int) (sp a : Int) (pre : List K9) : List Value :=
  match pre.getLast? with
  | none => [.int .i64 0, .int .i64 0, .int .i64 0]
  | some k => [.int .i64 a, .int .i64 (a + ((k.1 : Nat) : Int) + 1), .int .i64 (wideK zs sp a (k.1 + 1))]
def TakB (w : World) (wd a : Int) (W : World) : Prop := Boxed W w.heap.size 3 (.int .i64 wd) ∧ Boxed W (w.heap.size + 1) 3 (.int .i64 a) ∧ BoxN W (w.heap.size + 2) 165 [.int .i64 0, .int .i64 0, .int .i64 0] ∧ Below w.heap.size w W
def TakI (w : World) (zs : List Int) (sp wd a : Int) (pre : List K9) (W : World) : Prop := (∀ k ∈ pre, k.1 = 0 ∨ wideK zs sp a (k.1 + 1) ≤ wd) ∧ TakB w wd a W ∧ BoxN W (w.heap.size + 3) 165 (lineK zs sp a pre)
def TakX (w : World) (zs : List Int) (sp wd a : Int) (c0 c : Code) (pre : List K9) (W : World) : Prop := c = c0 ∧ ∃ (p : List K9) (k : K9), pre = p ++ [k] ∧ k.1 ≠ 0 ∧ wd < wideK zs sp a (k.1 + 1) ∧ TakI w zs sp wd a p W
theorem takB_own {w : World} {wd a : Int} {B : Nat} (hB : w.heap.size ≤ B) {X Y : World} {row : Option Nat} (h : TakB w wd a X) (hg : X.grownBy Y row) (hr : ∀ r, row = some r → B ≤ r ∧ ∃ o : Obj, X.heap[r]? = some o ∧ o.isCells = false) : TakB w wd a Y :=
  ⟨boxed_kept9 h.1 hg hr, boxed_kept9 h.2.1 hg hr, h.2.2.1.own hg hr, ownFrom_below (β := Unit) (w₀ := w) (Nat.le_refl _) hB () X Y row h.2.2.2 hg hr⟩
theorem takI_own {w : World} {zs : List Int} {sp wd a : Int} {B : Nat} (hB : w.heap.size ≤ B) : OwnFrom B (TakI w zs sp wd a) := fun pre X Y row ⟨h0, h1, h2⟩ hg hr =>
  ⟨h0, takB_own hB h1 hg hr, h2.own hg hr⟩
theorem takX_own {w : World} {zs : List Int} {sp wd a : Int} {B : Nat} {c0 : Code} (hB : w.heap.size ≤ B) (c : Code) : OwnFrom B (TakX w zs sp wd a c0 c) := fun pre X Y row ⟨h0, p, k, h1, h2, h3, h4⟩ hg hr =>
  ⟨h0, p, k, h1, h2, h3, takI_own hB p X Y row h4 hg hr⟩
theorem lineK_last (zs : List Int) (sp a : Int) (pre : List K9) (k : K9) : lineK zs sp a (pre ++ [k]) = [.int .i64 a, .int .i64 (a + ((k.1 : Nat) : Int) + 1), .int .i64 (wideK zs sp a (k.1 + 1))] := by
  unfold lineK; rw [List.getLast?_concat]
theorem lineK_three (zs : List Int) (sp a : Int) (pre : List K9) : ∃ l0 l1 l2 : Int, lineK zs sp a pre = [.int .i64 l0, .int .i64 l1, .int .i64 l2] := by
  unfold lineK; split
  · exact ⟨_, _, _, rfl⟩
  · exact ⟨_, _, _, rfl⟩
theorem line_is {zs : List Int} {sp wd a x y z : Int} (hv : takeI zs sp wd a = (x, y, z)) (hn : Near9 zs sp) {pre : List K9} {q : Nat} (hq : q ≤ leftN zs a) (hp : pre.map (·.1) = List.range q) (h1 : ∀ k ∈ pre, k.1 = 0 ∨ wideK zs sp a (k.1 + 1) ≤ wd)
    (hstop : q = leftN zs a ∨ (q ≠ 0 ∧ q < leftN zs a ∧ wd < wideK zs sp a (q + 1))) : lineK zs sp a pre = [.int .i64 x, .int .i64 y, .int .i64 z] := by
  by_cases ha : 0 ≤ a ∧ a < (zs.length : Int)
  · have hl : leftN zs a = zs.length - a.toNat := by unfold leftN; rw [if_pos ha]
    obtain ⟨i, rfl⟩ : ∃ i : Nat, a = (i : Int) := ⟨a.toNat, by omega⟩
    rw [Int.toNat_natCast] at hl
    have hi : i < zs.length := by omega
    rw [takeI_nat hi] at hv
    cases q with
    | zero => rcases hstop with h | h <;> omega
    | succ q =>
      obtain ⟨p, k, rfl⟩ : ∃ p k, pre = p ++ [k] := by
        rcases List.eq_nil_or_concat pre with h | ⟨p, k, h⟩
        · subst h; rw [List.range_succ] at hp; exact absurd (congrArg List.length hp) (by simp)
        · exact ⟨p, k, by simpa using h⟩
      have hk : k.1 = q := by
        rw [List.map_append, List.range_succ] at hp
        have := List.append_inj_right' hp rfl
        simpa using this
      have hlt : LineTo zs sp wd i (i + (q + 1)) := by
        refine ⟨by omega, by omega, ?_⟩
        rcases h1 k (by simp) with h | h
        · left; omega
        · right; rw [hk] at h; exact h
      have hfu : Full zs sp wd i (i + (q + 1)) := by
        intro h
        rcases hstop with h2 | ⟨_, _, h2⟩
        · omega
        · exact h2
      have he : i + (q + 1) = endP zs sp wd i := full_one hn hlt hfu (endP_spec hi).1 (endP_spec hi).2
      unfold takeN at hv
      rw [← he] at hv
      injection hv with e1 hv
      injection hv with e2 e3
      rw [lineK_last, hk, ← e1, ← e2, ← e3]
      congr 3
  · have hl : leftN zs a = 0 := by unfold leftN; rw [if_neg ha]
    rw [takeI_bad (by omega)] at hv
    injection hv with e1 hv
    injection hv with e2 e3
    have : pre = [] := by
      obtain rfl : q = 0 := by omega
      exact List.map_eq_nil_iff.1 hp
    subst this e1 e2 e3
    rfl
def TakG (w : World) (sp a : Int) (A : Option Addr) (m c D : Nat) (V : World) : Prop := Below w.heap.size w V ∧ Boxed V D 33 (.slice A m c) ∧ Boxed V (D + 1) 3 (.int .i64 sp) ∧ Boxed V (D + 2) 3 (.int .i64 a)
theorem takG_reads {w : World} {zs : List Int} {sp a : Int} {A : Option Addr} {m c D : Nat} (hA : Ints w A m zs) {V : World} (h : TakG w sp a A m c D V) : Reads9 zs sp a A m c D V := ⟨h.2.1.cell, h.2.2.1.cell, h.2.2.2.cell, hA.below h.1 rfl⟩
theorem takG_drew {w : World} {sp a : Int} {A : Option Addr} {m c D : Nat} {V : World} (h : TakG w sp a A m c D V) : TakG w sp a A m c D V.drew := ⟨h.1.drew, h.2.1, h.2.2.1, h.2.2.2⟩
theorem takG_on {w w2 : World} {sp a : Int} {A : Option Addr} {m c D : Nat} (h : TakG w sp a A m c D w2) {V : World} (hb : On w2 V) : TakG w sp a A m c D V := ⟨below_then h.1 hb, (hb.block _ h.2.1.lt).trans h.2.1, (hb.block _ h.2.2.1.lt).trans h.2.2.1, (hb.block _ h.2.2.2.lt).trans h.2.2.2⟩
theorem takG_put {w W : World} {sp a : Int} {A : Option Addr} {m c D l : Nat} {o o' : Obj} (hl : w.heap.size ≤ l) (ho : W.heap[l]? = some o) (hc : o.isCells = false) (hw : o.isWalk = false) (h : TakG w sp a A m c D W) : TakG w sp a A m c D (W.putObj l o') := by
  have hne : ∀ {n : Nat} {t : TypeId} {v : Value}, Boxed W n t v → some n ≠ some l := fun {n t v} hb e => by
    injection e with e
    subst e
    rw [show W.heap[n]? = _ from hb] at ho; cases ho; cases hc
  exact ⟨belowK_b (Nat.le_refl _) W l o o' hl ho hc hw |> h.1.trans, h.2.1.kept (grownBy_putObj' _ _ _) (hne h.2.1), h.2.2.1.kept (grownBy_putObj' _ _ _) (hne h.2.2.1), h.2.2.2.kept (grownBy_putObj' _ _ _) (hne h.2.2.2)⟩
theorem takG_set {w W : World} {sp a : Int} {A : Option Addr} {m c D n : Nat} (hn : w.heap.size ≤ n) (hD : n < D) (j : Nat) (v : Value) (h : TakG w sp a A m c D W) : TakG w sp a A m c D (W.setCell ⟨n, j, none⟩ v) :=
  ⟨h.1.setCell hn _, h.2.1.kept (grownBy_setCellN W n j v) (fun e => by cases e; omega), h.2.2.1.kept (grownBy_setCellN W n j v) (fun e => by cases e; omega), h.2.2.2.kept (grownBy_setCellN W n j v) (fun e => by cases e; omega)⟩
set_option maxRecDepth 100000 in
set_option maxHeartbeats 4000000 in
theorem ptake_in {zs : List Int} {sp wd a x y z : Int} (hv : takeI zs sp wd a = (x, y, z)) (hn : Near9 zs sp) (ha : I64w a) (hwd : I64w wd) {A : Option Addr} {m c : Nat} (hm : m ≤ 10000) {w : World} (h : Ints w A m zs) :
    CallsIn Fence.wide 9 Tryz.prog 136 #[.slice A m c, .int .i64 sp, .int .i64 wd, .int .i64 a] w fun e w' => e = .returned (.agg #[.int .i64 x, .int .i64 y, .int .i64 z]) ∧ Below w.heap.size w w' := by
  have HA := Lib.hid h
  have HV := Lib.hid hv
  have HN := Lib.hid hn
  have HIa := Lib.hid ha
  have HIb := Lib.hid hwd
  clear h hv hn ha hwd
  refine callsIn_of_wp_marks Tryz.func136 rfl trivial ?_ rfl
  simp only [Tryz.ntmps136, List.size_toArray, List.length_cons, List.length_nil, Nat.reduceAdd, Nat.reduceSub, Array.replicate_succ, Array.replicate_zero, List.push_toArray, List.append_toArray, List.nil_append, List.cons_append]
  gi_wp2_with ((refine ⟨trivial, ?_⟩; gi_at_call 152; refine (callsIn_wide.2 (ends_in _ _ _ _ _ _)).mono ?_; rintro e w2 ⟨rfl, hw2⟩; have HW2 := Lib.hid hw2; clear hw2))
  have hw2 := HW2.out
  clear HW2
  obtain ⟨W1, hW1⟩ : ∃ W1, (((w.alloc (.cells #[.int .i64 wd] 3)).alloc (.cells #[.int .i64 a] 3)).alloc (.cells #[.int .i64 0, .int .i64 0, .int .i64 0] 165)).alloc (.cells #[.int .i64 0, .int .i64 0, .int .i64 0] 165) = W1 := ⟨_, rfl⟩
  rw [hW1] at hw2
  have hs1 : W1.heap.size = w.heap.size + 4 := by rw [← hW1]; simp
  have hB1 : Below w.heap.size w W1 := by rw [← hW1]; exact ((((Below.refl _ w).alloc (Nat.le_refl _) _).alloc (by simp) _).alloc (by simp; omega) _).alloc (by simp; omega) _
  have k0 : Boxed W1 w.heap.size 3 (.int .i64 wd) := by rw [← hW1]; exact (((Boxed.new w 3 (.int .i64 wd)).alloc _).alloc _).alloc _
  have k1 : Boxed W1 (w.heap.size + 1) 3 (.int .i64 a) := by
    rw [← hW1]
    have := Boxed.new (w.alloc (.cells #[.int .i64 wd] 3)) 3 (.int .i64 a)
    rw [World.size_alloc] at this
    exact (this.alloc _).alloc _
  have k2 : BoxN W1 (w.heap.size + 2) 165 [.int .i64 0, .int .i64 0, .int .i64 0] := by
    rw [← hW1]
    have := BoxN.new ((w.alloc (.cells #[.int .i64 wd] 3)).alloc (.cells #[.int .i64 a] 3)) 165 [.int .i64 0, .int .i64 0, .int .i64 0]
    rw [World.size_alloc, World.size_alloc] at this
    exact this.alloc _
  have k3 : BoxN W1 (w.heap.size + 3) 165 [.int .i64 0, .int .i64 0, .int .i64 0] := by
    rw [← hW1]
    have := BoxN.new (((w.alloc (.cells #[.int .i64 wd] 3)).alloc (.cells #[.int .i64 a] 3)).alloc (.cells #[.int .i64 0, .int .i64 0, .int .i64 0] 165)) 165 [.int .i64 0, .int .i64 0, .int .i64 0]
    rw [World.size_alloc, World.size_alloc, World.size_alloc] at this
    exact this
  obtain ⟨g1, g2, g3, g4, g5⟩ := three_boxes W1 _ _ _ _ _ _ w2 hw2
  have hB2 : Below w.heap.size w w2 := below_then hB1 g4
  have hT0 : TakI w zs sp wd a [] w2 := ⟨by simp, ⟨(g4.block w.heap.size (by omega)).trans k0, (g4.block (w.heap.size + 1) (by omega)).trans k1, k2.below g4 (by omega), hB2⟩, k3.below g4 (by omega)⟩
  rw [show w.heap.size + 1 + 1 + 1 + 1 = W1.heap.size by omega]
  have hG2 : TakG w sp a A m c W1.heap.size w2 := ⟨hB2, g1, g2, g3⟩
  have HST := Lib.hid (ends_stops W1.heap.size w2 HN.out hm HIa.out HA.out.1 (TakG w sp a A m c W1.heap.size) (fun X Y => TakG w sp a A m c W1.heap.size X → TakG w sp a A m c W1.heap.size Y) (fun V h => takG_reads HA.out h) (fun V h => takG_drew h) (fun X Y h k => k h) (fun V h => takG_on hG2 h))
  have hz1 : w.heap.size + 4 ≤ W1.heap.size := by omega
  have hz2 : W1.heap.size + 3 ≤ w2.heap.size := by omega
  clear hw2 hB1 g1 g2 g3 g4 g5 hs1 k0 k1 k2 k3 hW1
  rw [show w.heap.size + 1 + 1 + 1 = w.heap.size + 3 by omega, show w.heap.size + 1 + 1 = w.heap.size + 2 by omega]
  refine wpIn_rangeFunc_ownF (F := Fence.wide) rfl (by omega) (gf := 161) (lb := #[.pointer (some ⟨W1.heap.size + 2, 0, none⟩), .pointer (some ⟨W1.heap.size, 0, none⟩), .pointer (some ⟨W1.heap.size + 1, 0, none⟩)]) rfl trivial (enters_of Tryz.func161 (by kernel_rfl) rfl)
    (HST.out 8) (fun h k g => k (h g)) (fun W l o o' hl ho hc hw g => takG_put (by have := hG2.1.size; omega) ho hc hw g) (Below.refl _ _) (fun _ => rfl) (TakI w zs sp wd a) (TakX w zs sp wd a (.exit 0)) (takI_own (by omega)) (fun c => takX_own (by omega) c) hT0
    (fun x => { tmps := #[.slice A m c, .int .i64 sp, .int .i64 wd, .int .i64 a, undef, undef, .pointer (some ⟨w.heap.size, 0, none⟩), .pointer (some ⟨w.heap.size + 1, 0, none⟩), .pointer (some ⟨w.heap.size + 2, 0, none⟩), .pointer (some ⟨w.heap.size + 3, 0, none⟩), .int .i64 (a + ((x.1 : Nat) : Int) + 1), .int .i64 (wideK zs sp a (x.1 + 1)), .slice A m c, .int .i64 sp, .int .i64 a, .func (.func 161) #[] #[.pointer (some ⟨W1.heap.size + 2, 0, none⟩), .pointer (some ⟨W1.heap.size, 0, none⟩), .pointer (some ⟨W1.heap.size + 1, 0, none⟩)], .int .i64 (a + ((x.1 : Nat) : Int) + 1), .int .i64 (wideK zs sp a (x.1 + 1)), undef, undef, undef, undef, undef, undef, undef, undef, undef, undef, undef, undef, undef, undef], defers := [] }) ?assign ?body ?done ?stop
  case assign =>
    intro l x W K hK
    unfold enc9
    gi_wp2
    exact hK
  case body =>
    rintro l pre ⟨k, hk⟩ W hI _
    have HI := Lib.hid hI
    obtain ⟨hno, ⟨hv, hv1, hv2, hB⟩, hL⟩ := hI
    obtain ⟨l0, l1, l2, hl⟩ := lineK_three zs sp a pre
    rw [hl] at hL
    have hc := hv.cell
    have hc1 := hv1.cell
    have q0 := hL.cell (j := 0) rfl
    have q1 := hL.cell (j := 1) rfl
    have q2 := hL.cell (j := 2) rfl
    have f0 := hL.frozen 0
    have f1 := hL.frozen 1
    have f2 := hL.frozen 2
    show Code.wpIn _ _ _ _ _ _ _
    dsimp only
    obtain ⟨z', hz⟩ : ∃ z, wideK zs sp a (k + 1) = z := ⟨_, rfl⟩
    obtain ⟨x', hx⟩ : ∃ x, a + ((k : Nat) : Int) + 1 = x := ⟨_, rfl⟩
    rw [hz, hx]
    have HZ := Lib.hid hz
    have HX := Lib.hid hx
    have HNO := Lib.hid hno
    have hK : ∀ V, V = ((W.setCell ⟨w.heap.size + 3, 0, none⟩ (.int .i64 a)).setCell ⟨w.heap.size + 3, 1, none⟩ (.int .i64 x')).setCell ⟨w.heap.size + 3, 2, none⟩ (.int .i64 z') → (k = 0 ∨ z' ≤ wd) → KeepsOthers W V ∧ (TakG w sp a A m c W1.heap.size W → TakG w sp a A m c W1.heap.size V) ∧ TakI w zs sp wd a (pre ++ [⟨k, hk⟩]) V := by
      rintro V rfl hkz
      refine ⟨((KeepsOthers.setCell _ _ _).trans (KeepsOthers.setCell _ _ _)).trans (KeepsOthers.setCell _ _ _), fun g => takG_set (by omega) (by omega) _ _ (takG_set (by omega) (by omega) _ _ (takG_set (by omega) (by omega) _ _ g)), ?_, ⟨((hv.kept (grownBy_setCellN _ _ _ _) (by simp)).kept (grownBy_setCellN _ _ _ _) (by simp)).kept (grownBy_setCellN _ _ _ _) (by simp), ((hv1.kept (grownBy_setCellN _ _ _ _) (by simp)).kept (grownBy_setCellN _ _ _ _) (by simp)).kept (grownBy_setCellN _ _ _ _) (by simp), ((hv2.other (by omega) _).other (by omega) _).other (by omega) _, ((hB.setCell (by simp) _).setCell (by simp) _).setCell (by simp) _⟩, ?_⟩
      · intro y hy
        rcases List.mem_append.1 hy with h | h
        · exact HNO.out y h
        · rw [List.mem_singleton] at h
          subst h
          show k = 0 ∨ wideK zs sp a (k + 1) ≤ wd
          rw [HZ.out]; exact hkz
      · rw [lineK_last]
        show BoxN _ _ _ [.int .i64 a, .int .i64 (a + ((k : Nat) : Int) + 1), .int .i64 (wideK zs sp a (k + 1))]
        rw [HZ.out, HX.out]
        exact ((hL.set 0 _).set 1 _).set 2 _
    have HK := Lib.hid hK
    clear hz hx hno hK hl
    by_cases hk0 : k = 0
    · subst hk0
      have hwr : IntKind.i64.wrap (x' - a) = 1 := by rw [← HX.out]; rw [show a + ((0 : Nat) : Int) + 1 - a = 1 by omega]; rfl
      gi_wp2
      exact HK.out _ rfl (.inl trivial)
    · obtain ⟨k, rfl⟩ : ∃ j, k = j + 1 := ⟨k - 1, by omega⟩
      have hwr : IntKind.i64.wrap (x' - a) = (k : Int) + 2 := by rw [← HX.out]; rw [show a + ((k + 1 : Nat) : Int) + 1 - a = (k : Int) + 2 by omega]; exact IntWalk.i64_in _ (by omega)
      by_cases hzw : z' ≤ wd
      · gi_wp2
        exact HK.out _ rfl (.inr hzw)
      · have hzw2 : wd < z' := by omega
        gi_wp2
        refine ⟨KeepsOthers.refl _, ?_⟩
        exact ⟨rfl, pre, ⟨k + 1, hk⟩, rfl, by simp, by show wd < wideK zs sp a (k + 1 + 1); rw [HZ.out]; exact hzw2, HI.out⟩
  case done =>
    rintro D xs W hD hxs ⟨hno, ⟨hv, hv1, hv2, hB⟩, hL⟩ hK
    rw [line_is HV.out HN.out (Nat.le_refl _) hxs hno (.inl rfl)] at hL
    clear hxs hno
    have q0 := hL.cell (j := 0) rfl
    have q1 := hL.cell (j := 1) rfl
    have q2 := hL.cell (j := 2) rfl
    have s0 := hv2.cell (j := 0) rfl
    have s1 := hv2.cell (j := 1) rfl
    have s2 := hv2.cell (j := 2) rfl
    have f0 := hv2.frozen 0
    have f1 := hv2.frozen 1
    have f2 := hv2.frozen 2
    gi_wp2
    have hD0 : w.heap.size + 2 ≠ D := by omega
    have hY := ((hv2.set 0 (.int .i64 x)).set 1 (.int .i64 y)).set 2 (.int .i64 z)
    have hBY : Below w.heap.size w (((W.setCell ⟨w.heap.size + 2, 0, none⟩ (.int .i64 x)).setCell ⟨w.heap.size + 2, 1, none⟩ (.int .i64 y)).setCell ⟨w.heap.size + 2, 2, none⟩ (.int .i64 z)) := ((hB.setCell (by simp) _).setCell (by simp) _).setCell (by simp) _
    generalize hV : ((W.setCell ⟨w.heap.size + 2, 0, none⟩ (.int .i64 x)).setCell ⟨w.heap.size + 2, 1, none⟩ (.int .i64 y)).setCell ⟨w.heap.size + 2, 2, none⟩ (.int .i64 z) = V at hY hBY ⊢
    have e0 : V.heap[D]? = some (.deferred (some [])) := by
      rw [← hV]
      exact (Below.heap_setCell _ _ _ D (by simpa using hD0.symm)).trans ((Below.heap_setCell _ _ _ D (by simpa using hD0.symm)).trans ((Below.heap_setCell _ _ _ D (by simpa using hD0.symm)).trans hK))
    have hYp := hY.kept (grownBy_putObj' V D (.deferred none)) (fun e => hD0 (by cases e; rfl))
    have r0 := hYp.cell (j := 0) rfl
    have r1 := hYp.cell (j := 1) rfl
    have r2 := hYp.cell (j := 2) rfl
    refine ⟨by simp, .inl ⟨_, _, rfl, run_takeDeferred e0, ?_⟩⟩
    refine ⟨.agg #[.int .i64 x, .int .i64 y, .int .i64 z], by simp [results, Tryz.results136, go_sem, r0, r1, r2], ?_⟩
    exact ⟨rfl, hBY.grown (grownBy_putObj' _ _ _) (by have := hBY.size; omega) (fun k e => by cases e; omega)⟩
  case stop =>
    rintro D c2 pre W hD ⟨q, hq1, hq2⟩ ⟨rfl, p, k, rfl, hk0, hkw, hno, ⟨hv, hv1, hv2, hB⟩, hL⟩ hK
    rw [List.map_append, List.range_succ] at hq2
    have e1 : k.1 = q := by simpa using List.append_inj_right' hq2 rfl
    have e2 : p.map (·.1) = List.range q := List.append_inj_left' hq2 rfl
    rw [line_is HV.out HN.out (Nat.le_of_lt hq1) e2 hno (.inr ⟨by omega, hq1, by rw [← e1]; exact hkw⟩)] at hL
    clear hq1 hq2 e1 e2 hkw hk0 hno
    have q0 := hL.cell (j := 0) rfl
    have q1 := hL.cell (j := 1) rfl
    have q2 := hL.cell (j := 2) rfl
    have s0 := hv2.cell (j := 0) rfl
    have s1 := hv2.cell (j := 1) rfl
    have s2 := hv2.cell (j := 2) rfl
    have f0 := hv2.frozen 0
    have f1 := hv2.frozen 1
    have f2 := hv2.frozen 2
    gi_wp2
    have hD0 : w.heap.size + 2 ≠ D := by omega
    have hY := ((hv2.set 0 (.int .i64 x)).set 1 (.int .i64 y)).set 2 (.int .i64 z)
    have hBY : Below w.heap.size w (((W.setCell ⟨w.heap.size + 2, 0, none⟩ (.int .i64 x)).setCell ⟨w.heap.size + 2, 1, none⟩ (.int .i64 y)).setCell ⟨w.heap.size + 2, 2, none⟩ (.int .i64 z)) := ((hB.setCell (by simp) _).setCell (by simp) _).setCell (by simp) _
    generalize hV : ((W.setCell ⟨w.heap.size + 2, 0, none⟩ (.int .i64 x)).setCell ⟨w.heap.size + 2, 1, none⟩ (.int .i64 y)).setCell ⟨w.heap.size + 2, 2, none⟩ (.int .i64 z) = V at hY hBY ⊢
    have e0 : V.heap[D]? = some (.deferred (some [])) := by
      rw [← hV]
      exact (Below.heap_setCell _ _ _ D (by simpa using hD0.symm)).trans ((Below.heap_setCell _ _ _ D (by simpa using hD0.symm)).trans ((Below.heap_setCell _ _ _ D (by simpa using hD0.symm)).trans hK))
    have hYp := hY.kept (grownBy_putObj' V D (.deferred none)) (fun e => hD0 (by cases e; rfl))
    have r0 := hYp.cell (j := 0) rfl
    have r1 := hYp.cell (j := 1) rfl
    have r2 := hYp.cell (j := 2) rfl
    refine ⟨by simp, .inl ⟨_, _, rfl, run_takeDeferred e0, ?_⟩⟩
    refine ⟨.agg #[.int .i64 x, .int .i64 y, .int .i64 z], by simp [results, Tryz.results136, go_sem, r0, r1, r2], ?_⟩
    exact ⟨rfl, hBY.grown (grownBy_putObj' _ _ _) (by have := hBY.size; omega) (fun k e => by cases e; omega)⟩
theorem ptake9_to {zs : List Int} {sp wd a x y z : Int} (hv : takeI zs sp wd a = (x, y, z)) (hn : Near9 zs sp) (ha : I64w a) (hwd : I64w wd) {A : Option Addr} {m c : Nat} (hm : m ≤ 10000) {w : World} (h : Ints w A m zs) :
    Calls Tryz.prog 136 #[.slice A m c, .int .i64 sp, .int .i64 wd, .int .i64 a] w fun e w' => e = .returned (.agg #[.int .i64 x, .int .i64 y, .int .i64 z]) ∧ Below w.heap.size w w' := callsIn_wide.1 (ptake_in hv hn ha hwd hm h)
end Go.Proofs.YtipmdhfinlkceaaGreat
namespace Go.Proofs.YtipmdhfinlkceaaGreat
open Go.RowKit
theorem cells_fl15 (w : World) (t : TypeId) (x0 x1 x2 x3 x4 x5 x6 : Int) (k : Nat) (hk : k = w.heap.size) : Cells (w.alloc (.cells #[.int .i64 x0, .int .i64 x1, .int .i64 x2, .int .i64 x3, .int .i64 x4, .int .i64 x5, .int .i64 x6] t)) (some ⟨k, 0, none⟩) 1 7 (encFl ⟨x0, x1, x2, x3, x4, x5, x6⟩) := by
  subst hk
  exact ⟨rfl, by decide, fun _ => ⟨w.heap.size, 0, rfl, by simp, fun j u hu => by
    have := (Box.new w (encFl ⟨x0, x1, x2, x3, x4, x5, x6⟩) t).2.2 j u hu
    rw [Nat.zero_add]; exact this⟩⟩
theorem filt_take {l : List Fl} {p : Fl → Bool} {j : Nat} {y : Fl} (hy : l[j]? = some y) : (l.take (j + 1)).filter p = (l.take j).filter p ++ (if p y then [y] else []) := by
  rw [List.take_add_one, hy, List.filter_append]
  simp only [Option.toList_some, List.filter_cons, List.filter_nil]
set_option maxHeartbeats 4000000 in
set_option maxRecDepth 100000 in
theorem anchored_to {l : List Fl} {a b : Int} {A : Option Addr} {n c : Nat} {w : World} (h : Rows 7 encFl w A n l) (hn : n ≤ 10000000) :
    Calls Tryz.prog 9 #[.slice A n c, .int .i64 a, .int .i64 b] w fun e w' => ∃ A' n' c', e = .returned (.slice A' n' c') ∧ n' = (l.filter (anchB a b)).length ∧ Below w.heap.size w w' := by
  have HA := Lib.hid h
  have HL := Lib.hid h.1
  obtain ⟨i0, hi0, hy0, hy1, hy2⟩ := info_parts fl_info'
  clear h
  go_enter Tryz.func9, Tryz.ntmps9
  go_wp2_with fail
  go_loopw [7, 12] (fun o i wr => ∃ (j m3 c1 : Nat) (A1 : Option Addr) (dn : List Fl), o = .slice A1 m3 c1 ∧ i = .int .i64 (j : Int) ∧ j ≤ n ∧ m3 ≤ j ∧ Hid (dn.length = m3) ∧ Hid (dn = (l.take j).filter (anchB a b)) ∧ Hid (wr.ownsRow w.heap.size 67 7 (.slice A1 m3 c1) m3 (dn.flatMap encFl)) ∧ Hid (Below w.heap.size w wr)) (fun _ i _ => n - (intOf i).toNat)
  case atStart => exact ⟨0, 0, 0, none, [], rfl, rfl, Nat.zero_le _, Nat.le_refl _, Lib.hid rfl, Lib.hid rfl, Lib.hid (owns_nil _ _ _ _), Lib.hid (Below.refl _ _)⟩
  case round =>
    obtain ⟨j, m3, c1, A1, dn, rfl, rfl, hjn, hmj, HD, HT, HO, HB⟩ := hrel
    by_cases hlt : j < n
    · have hlt2 : (j : Int) < (n : Int) := by omega
      obtain ⟨bb, off, y, rfl, hbl, hy, hc⟩ := (HA.out.on HB.out).at_ hlt
      have k0 := hc 0 _ rfl
      have k1 := hc 1 _ rfl
      have k2 := hc 2 _ rfl
      have k3 := hc 3 _ rfl
      have k4 := hc 4 _ rfl
      have k5 := hc 5 _ rfl
      have k6 := hc 6 _ rfl
      have HF := Lib.hid (filt_take (p := anchB a b) hy)
      obtain ⟨p0, p1, p2, p3, p4, p5, p6⟩ := y
      simp only [Nat.add_zero] at k0 k1 k2 k3 k4 k5 k6
      have hal : Below wr.heap.size wr (wr.alloc (.cells #[.int .i64 p0, .int .i64 p1, .int .i64 p2, .int .i64 p3, .int .i64 p4, .int .i64 p5, .int .i64 p6] 67)) := (Below.refl _ _).alloc (Nat.le_refl _) _
      have HOn := Lib.hid (owns_below HO.out hal)
      have HBn := Lib.hid (below_then HB.out hal)
      clear hc hy hal
      by_cases h1 : a ≤ p2
      · by_cases h2 : p2 < b
        · have HT2 := Lib.hid (show dn ++ [(⟨p0, p1, p2, p3, p4, p5, p6⟩ : Fl)] = (l.take (j + 1)).filter (anchB a b) by
            rw [HF.out, ← HT.out]
            unfold anchB
            simp only
            rw [decide_eq_true h1, decide_eq_true h2]
            rfl)
          go_wp2_with ((with_reducible refine stop_dst 29 ?_ ?_); exact rfl)
          refine Stop.intro ?_
          generalize hZ : wr.alloc (.cells #[.int .i64 p0, .int .i64 p1, .int .i64 p2, .int .i64 p3, .int .i64 p4, .int .i64 p5, .int .i64 p6] 67) = Z at HOn HBn ⊢
          have hzs : wr.heap.size + 1 = Z.heap.size := by rw [← hZ]; simp
          have HO2 := Lib.hid (owns_below HOn.out ((Below.refl Z.heap.size Z).alloc (Nat.le_refl _) (.cells #[.int .i64 p0, .int .i64 p1, .int .i64 p2, .int .i64 p3, .int .i64 p4, .int .i64 p5, .int .i64 p6] 67)))
          refine wpList_append_cells _ rfl (.tmp 26) (.tmp 28) _ rfl w.heap.size 67 i0 (.agg #[.int .i64 0, .int .i64 0, .int .i64 0, .int .i64 0, .int .i64 0, .int .i64 0, .int .i64 0]) 7 56 Tryz.underlying25 hi0 hy0 hy1 hy2 rfl (by decide) (.slice A1 m3 c1) m3 _ rfl HO2.out _ 1 1 _ rfl (cells_fl15 Z 67 p0 p1 p2 p3 p4 p5 p6 _ hzs) (encFl_one _) (by unfold maxLen; omega) (by omega) (by have := HBn.out.size; simp; omega) ?_
          intro A5 c5 w5 hown5 hg5
          have hbl2 := owns_block HO2.out
          have HB5 := Lib.hid ((HBn.out.alloc (by have := HBn.out.size; omega) (.cells #[.int .i64 p0, .int .i64 p1, .int .i64 p2, .int .i64 p3, .int .i64 p4, .int .i64 p5, .int .i64 p6] 67)).grown hg5 (by have := HBn.out.size; simp; omega) (fun r e => by have := hbl2 r e; omega))
          have HO5 := Lib.hid (show w5.ownsRow w.heap.size 67 7 (.slice A5 (m3 + 1) c5) (m3 + 1) ((dn ++ [(⟨p0, p1, p2, p3, p4, p5, p6⟩ : Fl)]).flatMap encFl) by rw [List.flatMap_append, List.flatMap_singleton]; exact hown5)
          have HD5 := Lib.hid (show (dn ++ [(⟨p0, p1, p2, p3, p4, p5, p6⟩ : Fl)]).length = m3 + 1 by rw [List.length_append, HD.out]; rfl)
          clear hown5 hg5 hbl2 HO2 HOn HBn hzs hZ k0 k1 k2 k3 k4 k5 k6
          go_wp2_with fail
          go_roundw
          case rel => exact ⟨j + 1, m3 + 1, c5, A5, _, rfl, by go_num, by omega, by omega, HD5, HT2, HO5, HB5⟩
          case measure => simp [intOf] <;> omega
        · have h3 : b ≤ p2 := by omega
          have HT2 := Lib.hid (show dn = (l.take (j + 1)).filter (anchB a b) by
            rw [HF.out, ← HT.out]
            unfold anchB
            simp only
            rw [decide_eq_false h2, Bool.and_false]
            simp)
          go_wp2_with fail
          go_roundw
          case rel => exact ⟨j + 1, m3, c1, A1, dn, rfl, by go_num, by omega, by omega, HD, HT2, HOn, HBn⟩
          case measure => simp [intOf] <;> omega
      · have h3 : p2 < a := by omega
        have HT2 := Lib.hid (show dn = (l.take (j + 1)).filter (anchB a b) by
          rw [HF.out, ← HT.out]
          unfold anchB
          simp only
          rw [decide_eq_false h1, Bool.false_and]
          simp)
        go_wp2_with fail
        go_roundw
        case rel => exact ⟨j + 1, m3, c1, A1, dn, rfl, by go_num, by omega, by omega, HD, HT2, HOn, HBn⟩
        case measure => simp [intOf] <;> omega
    · obtain rfl : j = n := by omega
      have HE := Lib.hid (show m3 = (l.filter (anchB a b)).length by rw [← HD.out, HT.out, List.take_of_length_le (by have := HL.out; omega)])
      go_wp2_with fail
      go_ret
      exact ⟨A1, m3, c1, rfl, HE.out, HB.out⟩
def yAt (m : Nat) (w : World) : Int := match w.cell? ⟨m, 4, none⟩ with
  | some (.int _ z) => z
  | _ => 0
theorem yAt_of {w : World} {m : Nat} {f0 f1 f2 x y f5 f6 : Int} {A : Option Addr} {n c : Nat} {a b : Int} (h : Box w m (srch f0 f1 f2 x y f5 f6 A n c a b)) : yAt m w = y := by
  unfold yAt
  rw [(srch_of h).1.2.2.2.2.1]
set_option maxHeartbeats 8000000 in
theorem down_to11 {l : List Fl} {f0 f1 f2 x y t f5 f6 a b : Int} (hv : seekE l f6 f5 a b y = t) (hn : ∀ f ∈ l, f.near) (hy : NearY y) (hh : NearI f6) (ha : NearI a) (hb : NearI b) {A : Option Addr} {n c m : Nat} {w0 w : World} (h : Rows 7 encFl w0 A n l) (hB : Below w0.heap.size w0 w) (hX : Box w m (srch f0 f1 f2 x y f5 f6 A n c a b)) (hm : w0.heap.size ≤ m) :
    Calls Tryz.prog 143 #[.pointer (some ⟨m, 0, none⟩)] w fun e w' => e = .returned (.tuple #[]) ∧ Box w' m (srch f0 f1 f2 x t f5 f6 A n c a b) ∧ Below w0.heap.size w0 w' := by
  have HV := Lib.hid hv
  have HN := Lib.hid hn
  have HY := Lib.hid hy
  have HH := Lib.hid hh
  have HAY := Lib.hid ha.y
  have HBY := Lib.hid hb.y
  have HA := Lib.hid h
  have HB := Lib.hid hB
  have HX := Lib.hid hX
  clear hv hn hy hh ha hb h hB hX
  go_enter Tryz.func143, Tryz.ntmps143
  go_wp2_with fail
  go_loopw [2, 3] (fun nx ok wr => ∃ z, Hid (NearY z) ∧ Hid (seekE l f6 f5 a b z = t) ∧ Hid (Box wr m (srch f0 f1 f2 x z f5 f6 A n c a b)) ∧ Hid (Below w0.heap.size w0 wr)) (fun _ _ wr => cntA l (yAt m wr))
  case atStart => exact ⟨y, HY, HV, HX, HB⟩
  case round =>
    obtain ⟨z, HZ, HSK, HD, HB⟩ := hrel
    obtain ⟨⟨p, q⟩, hb1⟩ : ∃ r, bandL l z f6 (a, b) = r := ⟨_, rfl⟩
    obtain ⟨v, hv⟩ : ∃ v, lenW p q = v := ⟨_, rfl⟩
    have hbd := bandL_bd HN.out z f6 (a, b) ⟨HAY.out, HBY.out⟩
    rw [hb1] at hbd
    have HC1 := Lib.hid (show ∀ p' : OnW wr, Calls Tryz.prog 160 #[.pointer (some ⟨m, 0, none⟩)] p'.w fun e w' => e = .returned (.agg #[.int .i64 p, .int .i64 q]) ∧ Below p'.w.heap.size p'.w w' from fun p' => band_to hb1 HN.out HZ.out HH.out (HA.out.below (below_then HB.out p'.h)) (HD.out.below p'.h))
    have HC2 := Lib.hid (show ∀ p' : OnW wr, Calls Tryz.prog 137 #[.agg #[.int .i64 p, .int .i64 q]] p'.w fun e w' => e = .returned (.int .i64 v) ∧ Below p'.w.heap.size p'.w w' from fun p' => plen_to hv hbd.1 hbd.2 _)
    have hfz : fitsF l f6 f5 a b z = decide (f5 ≤ v) := by unfold fitsF; rw [hb1]; simp only; rw [hv]
    have k5 := OnW.cell (srch_of HD.out).1.2.2.2.2.2.1
    clear hb1 hv hbd
    by_cases hfit : f5 ≤ v
    · have HT := Lib.hid (show z = t by rw [← HSK.out, seekE_fits (by rw [hfz]; exact decide_eq_true hfit)])
      clear hfz
      go_wp2_with fail
      refine wp_region_on (by kernel_rfl) (by kernel_rfl) ?_
      repeat (go_big_quiet_step ((first
        | (go_at_call 160; with_reducible exact Calls.on_of (HC1.out _))
        | (go_at_call 137; with_reducible exact Calls.on_of (HC2.out _)))))
      refine wpQuiet_nil ?_
      intro w5 hw'
      obtain ⟨⟨w6, hOn⟩, hw''⟩ := hw'
      obtain rfl : w5 = w6 := hw''
      have HB5 := Lib.hid (below_then HB.out hOn)
      have HD5 := Lib.hid (HD.out.below hOn)
      clear hOn k5
      go_wp2_with fail
      go_end0
      exact ⟨rfl, by rw [← HT.out]; exact HD5.out, HB5.out⟩
    · have hfit2 : v < f5 := by omega
      have HNF := Lib.hid (show fitsF l f6 f5 a b z = false by rw [hfz]; exact decide_eq_false hfit)
      obtain ⟨⟨u, ok⟩, hnx⟩ : ∃ r, nextL l z f6 a b = r := ⟨_, rfl⟩
      have HNX := Lib.hid hnx
      have HUY := Lib.hid (show NearY u by have := nextL_bd HN.out z f6 a b; rw [hnx] at this; exact this)
      clear hnx hfz hfit
      go_wp2_with fail
      refine wp_region_on (by kernel_rfl) (by kernel_rfl) ?_
      repeat (go_big_quiet_step ((first
        | (go_at_call 160; with_reducible exact Calls.on_of (HC1.out _))
        | (go_at_call 137; with_reducible exact Calls.on_of (HC2.out _)))))
      refine wpQuiet_nil ?_
      intro w5 hw'
      obtain ⟨⟨w6, hOn⟩, hw''⟩ := hw'
      obtain rfl : w5 = w6 := hw''
      have HB5 := Lib.hid (below_then HB.out hOn)
      have HD5 := Lib.hid (HD.out.below hOn)
      clear hOn k5
      go_wp2_with fail
      have HC3 := Lib.hid (show ∀ p' : OnW w5, Calls Tryz.prog 140 #[.slice A n c, .int .i64 z, .int .i64 f6, .agg #[.int .i64 a, .int .i64 b]] p'.w fun e w' => e = .returned (.tuple #[.int .i64 u, .bool ok]) ∧ Below p'.w.heap.size p'.w w' from fun p' => bnext_to HNX.out HN.out HZ.out HH.out (HA.out.below (below_then HB5.out p'.h)))
      obtain ⟨⟨p0, p1, p2, p3, p4, p5, p6⟩, ⟨p7, p8, p9⟩, p10, p11⟩ := srch_of HD5.out
      have k4 := OnW.cell p4
      have k6 := OnW.cell p6
      have k7 := OnW.cell p7
      have k8 := OnW.cell p8
      have k9 := OnW.cell p9
      clear p0 p1 p2 p3 p4 p5 p6 p7 p8 p9 p10 p11
      refine wp_region_on (by kernel_rfl) (by kernel_rfl) ?_
      repeat (go_big_quiet_step ((first
        | (go_at_call 140; with_reducible exact Calls.on_of (HC3.out _)))))
      refine wpQuiet_nil ?_
      intro w7 hw'
      obtain ⟨⟨w8, hOn⟩, hw''⟩ := hw'
      obtain rfl : w7 = w8 := hw''
      have HB7 := Lib.hid (below_then HB5.out hOn)
      have HD7 := Lib.hid (HD5.out.below hOn)
      clear hOn k4 k6 k7 k8 k9 HB5 HD5 HC1 HC2 HC3
      cases ok with
      | false =>
        have HT := Lib.hid (show z = t by rw [← HSK.out, seekE_none HNF.out (by rw [HNX.out])])
        go_wp2_with fail
        exact bodyPost_ret (v := .tuple #[]) (by simp [results, Tryz.results143, go_sem]) rfl ⟨rfl, by rw [← HT.out]; exact HD7.out, HB7.out⟩
      | true =>
        have HS2 := Lib.hid (show seekE l f6 f5 a b u = t by
          have := seekE_next HNF.out (by rw [HNX.out])
          rw [HNX.out] at this
          rw [← this]; exact HSK.out)
        have HCN := Lib.hid (show cntA l u < cntA l z by
          have := cnt_next (l := l) (y := z) (h := f6) (a := a) (b := b) (by rw [HNX.out])
          rw [HNX.out] at this; exact this)
        obtain ⟨⟨p0, p1, p2, p3, p4, p5, p6⟩, ⟨p7, p8, p9⟩, p10, p11⟩ := srch_of HD7.out
        go_wp2_with fail
        have HD8 := Lib.hid (show Box (w7.setCell ⟨m, 4, none⟩ (.int .i64 u)) m (srch f0 f1 f2 x u f5 f6 A n c a b) from HD7.out.set 4 (.int .i64 u) (by simp [srch]))
        go_roundw
        case rel => exact ⟨u, HUY, HS2, HD8, Lib.hid (HB7.out.setCell hm _)⟩
        case measure => rw [yAt_of HD8.out, yAt_of HD.out]; exact HCN.out
end Go.Proofs.YtipmdhfinlkceaaGreat
