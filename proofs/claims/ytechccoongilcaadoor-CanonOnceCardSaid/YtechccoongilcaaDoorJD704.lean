import Derived.RangeFuncNested
import Derived.RangeFuncBound
import Derived.RangeFuncCalls
import Derived.RangeFuncLeaves
import Derived.Shelf.Abstract
import Derived.Shelf.RegionOpen
import Derived.WalkKit
import Derived.OwnWalkIn
import Derived.TacticsInMore
import Derived.LoopNIn
import Derived.LoopIn
import Derived.Test.YtechccoongilcaaDoorJD703
/- The program's package lex: the iterator over the pieces of a script. -/
namespace Go.Proofs.YtechccoongilcaaDoor
open Go.RowKit Go.Shelf
set_option linter.unusedVariables false
set_option linter.unusedSimpArgs false
attribute [local go_sem] Oper.semAt_some
theorem wide_depth (k : Nat) : Fence.wide.depth.isSome = true → 1 ≤ k := fun h => by cases h
theorem run_next_at {P : Program} {W : World} {r : Nat} {s : ByteArray} {pos : Nat} (hr : W.heap[r]? = some (.stringIter s pos)) (h : pos < s.size) (ty : TypeId) :
    (Instr.next (.pointer (some ⟨r, 0, none⟩)) true ty).run P W = .ok (.tuple #[.bool true, .int .i64 pos, .int .i32 (Utf8.decode s pos).1]) (W.putObj r (.stringIter s (pos + (Utf8.decode s pos).2))) := by
  simp only [Instr.next, getObj, setObj, Sem.run_bind, Sem.run, hr, Result.andThen, h, if_true]
  simp [goInt]; rfl
theorem run_next_stop {P : Program} {W : World} {r : Nat} {s : ByteArray} {pos : Nat} (hr : W.heap[r]? = some (.stringIter s pos)) (h : ¬ pos < s.size) (ty : TypeId) :
    (Instr.next (.pointer (some ⟨r, 0, none⟩)) true ty).run P W = .ok (.tuple #[.bool false]) W := by
  simp [Instr.next, getObj, Sem.run, hr, h]
theorem iterPos_at {W : World} {r : Nat} {s : ByteArray} {pos : Nat} (hr : W.heap[r]? = some (.stringIter s pos)) : W.iterPos r = pos := by simp [World.iterPos, hr]
abbrev PieceS (s : ByteArray) := { p : Nat × Nat // PieceOk s p }
def encP (s : ByteArray) (x : PieceS s) : Array Value := #[.int .i64 (x.1.1 : Int), .string (s.extract x.1.1 x.1.2)]
/-- what a round keeps for the iterator: the walks, and the block b. -/
def KeepB (b : Nat) (W W' : World) : Prop := KeepsWalks W W' ∧ ∀ o, W.heap[b]? = some o → o.isCells = true → W'.heap[b]? = some o
theorem KeepB.trans {b : Nat} {A B C : World} (h : KeepB b A B) (k : KeepB b B C) : KeepB b A C := ⟨h.1.trans k.1, fun o ho hc => k.2 o (h.2 o ho hc) hc⟩
theorem KeepB.putObj {b : Nat} {w : World} (W : World) (l : Nat) (o o' : Obj) (hl : w.heap.size ≤ l) (h : W.heap[l]? = some o) (hc : o.isCells = false) (hw : o.isWalk = false) : KeepB b W (W.putObj l o') :=
  ⟨KeepsWalks.putObj _ h hw, fun q hq hqc => by
    have hne : b ≠ l := fun e => by subst e; rw [h] at hq; cases hq; rw [hc] at hqc; cases hqc
    exact (World.putObj_heap_other hne).trans hq⟩
theorem pieces_in (s : ByteArray) (w : World) : Calls Tryd.prog 52 #[.string s] w fun e w' => e = .returned (.func (.func 73) #[] #[.pointer (some ⟨w.heap.size, 0, none⟩)]) ∧ w' = w.alloc (.cells #[.string s] 9) := by
  go_enter Tryd.func52, Tryd.ntmps52
  go_wp2
  go_ret
  exact ⟨rfl, rfl⟩
set_option maxRecDepth 100000 in
set_option maxHeartbeats 4000000 in
theorem pieces1_in (n l b : Nat) (s : ByteArray) (hs : s.size ≤ 600000) (hw : textB s = none) (J Jx : List (PieceS s) → World → Prop) (W : World) (hJ : AbidesFrom W.heap.size J)
    (hY : ∀ pre x W1, J pre W1 → pre.length < s.size + 2 → YieldAt Fence.wide (n - 1) Tryd.prog l (encP s x) W1 fun e W' =>
      (e = .returned (.bool true) ∧ J (pre ++ [x]) W' ∧ KeepB b W1 W') ∨ (e = .returned (.bool false) ∧ Jx (pre ++ [x]) W'))
    (hb : W.heap[b]? = some (.cells #[.string s] 9)) (h0 : J [] W) :
    CallsIn Fence.wide n Tryd.prog 73 #[.func (.yield l) #[] #[], .pointer (some ⟨b, 0, none⟩)] W fun e W' => (∃ v, e = .returned v) ∧
      ((∃ xs : List (PieceS s), xs.map (·.1) = piecesB s ∧ J xs W') ∨ (∃ pre : List (PieceS s), pre.map (·.1) <+: piecesB s ∧ Jx pre W')) := by
  have hwhole := pieces_whole hw
  have hplen := pieces_len s
  refine callsIn_of_wp Tryd.func73 rfl trivial ?_ rfl
  simp only [Tryd.ntmps73, List.size_toArray, List.length_cons, List.length_nil, Nat.reduceAdd, Nat.reduceSub, Array.replicate_succ, Array.replicate_zero, List.push_toArray, List.append_toArray, List.nil_append, List.cons_append]
  have hc : W.cell? ⟨b, 0, none⟩ = some (.string s) := by simp [World.cell?, hb]
  have HPL := Lib.hid hplen
  have HWH := Lib.hid hwhole.1
  have HY := Lib.hid hY
  have HTx := Lib.hid (show textF s (s.size + 1) 0 = none from hw)
  have HPs := Lib.hid (show piecesF s (s.size + 1) 0 0 .white = piecesB s from rfl)
  have HJ := Lib.hid hJ
  have hbl : b < W.heap.size := (Array.getElem?_eq_some_iff.1 hb).1
  have h0' : J [] (W.iter s 0) := hJ [] W _ none h0 (World.grownBy_alloc W _ none) (fun r e => by cases e)
  have hit0 := World.iter_heap W s 0
  have hb0 : (W.iter s 0).heap[b]? = some (.cells #[.string s] 9) := (Below.heap_alloc W _ b hbl).trans hb
  clear hwhole hplen hJ hw
  gi_wp2
  gi_loopw [3, 4, 5, 6] (fun from_ more at_ c wr => ∃ (k f fr : Nat) (m : More) (pre : List (PieceS s)), from_ = .int .i64 fr ∧ more = m.fn ∧ k ≤ s.size ∧ s.size ≤ k + f ∧ fr ≤ k ∧ textF s f k = none ∧ pre.map (·.1) ++ piecesF s f k fr m = piecesB s ∧ J pre wr ∧ wr.heap[W.heap.size]? = some (.stringIter s k) ∧ wr.heap[b]? = some (.cells #[.string s] 9)) (fun _ _ _ _ wr => s.size - wr.iterPos W.heap.size)
  case atStart => exact ⟨0, s.size + 1, 0, .white, [], rfl, rfl, by omega, by omega, by omega, HTx.out, by simpa using HPs.out, h0', hit0, hb0⟩
  case round =>
    obtain ⟨k, f, fr, m, pre, rfl, rfl, hk, hf, hfr, ht, hps, hj, hit, hbx⟩ := hrel
    have HT := Lib.hid ht
    have HP := Lib.hid hps
    clear ht hps
    clear hY h0' hit0 hb0 hb h0 hc
    by_cases hlt : k < s.size
    · have hnx := fun ty => run_next_at (P := Tryd.prog) hit hlt ty
      have hTT := HT.out
      obtain ⟨f', rfl⟩ : ∃ f', f = f' + 1 := ⟨f - 1, by omega⟩
      have hPP := HP.out
      rw [piecesF, if_pos hlt] at hPP
      rw [textF, if_pos hlt] at hTT
      by_cases hz : sizeB s k = 0
      · rw [if_pos hz] at hTT; exact absurd hTT (by simp)
      rw [if_neg hz] at hTT
      obtain ⟨hd, hp⟩ := (decode_size s k hlt).2 hz
      have hin := sizeB_in (s := s) (k := k) (by omega)
      rw [hd] at hnx
      obtain ⟨c, hcc⟩ : ∃ c, runeB s k (sizeB s k) = c := ⟨_, rfl⟩
      obtain ⟨z, hzz⟩ : ∃ z, sizeB s k = z := ⟨_, rfl⟩
      rw [hcc] at hnx hp hPP
      rw [hzz] at hnx hz hin hTT hPP
      simp only [Int.toNat_of_nonneg hp] at hnx
      have HT2 := Lib.hid hTT
      have hrl := (Array.getElem?_eq_some_iff.1 hit).1
      obtain ⟨W2, hW2⟩ : ∃ W2, wr.putObj W.heap.size (.stringIter s (k + z)) = W2 := ⟨_, rfl⟩
      rw [hW2] at hnx
      have hit2 : W2.heap[W.heap.size]? = some (.stringIter s (k + z)) := by rw [← hW2]; exact World.putObj_heap_same hrl
      have hb2 : W2.heap[b]? = some (.cells #[.string s] 9) := by rw [← hW2]; exact (World.putObj_heap_other (by omega)).trans hbx
      have hj2 : J pre W2 := by rw [← hW2]; exact HJ.out pre wr _ _ hj (grownBy_putObj' wr _ _) (fun r e => by cases e; exact ⟨Nat.le_refl _, _, hit, rfl⟩)
      have hpos := iterPos_at hit
      have hpos2 := iterPos_at hit2
      clear hTT hd hcc hzz hW2 hrl hit hbx hj HT HP
      rcases hg : m.goes c with _ | _
      · rw [hg] at hPP
        simp only [Bool.false_eq_true, if_false] at hPP
        have hmem : PieceOk s (fr, k) := HWH.out _ (by rw [← hPP]; simp)
        have hlen : pre.length < s.size + 2 := by
          have := congrArg List.length hPP
          have h2 := HPL.out
          simp at this; omega
        obtain ⟨fn, tmps, assign, body, hy, hR⟩ := HY.out pre ⟨(fr, k), hmem⟩ W2 hj2 hlen
        have hc2 : W2.cell? ⟨b, 0, none⟩ = some (.string s) := by simp [World.cell?, hb2]
        have HP2 := Lib.hid hPP
        dsimp only [encP] at hy
        clear hPP hlen
        cases m
        all_goals
          simp only [More.fn, More.goes] at hg ⊢
          gi_wp2_with (first
            | (refine ⟨trivial, wide_depth _, ?_⟩; gi_at_call 74; refine (callsIn_wide.2 (white_any _ _)).mono ?_; rintro e w' ⟨rfl, rfl⟩)
            | (refine ⟨trivial, wide_depth _, ?_⟩; gi_at_call 77; refine (callsIn_wide.2 (digit_any _ _)).mono ?_; rintro e w' ⟨rfl, rfl⟩)
            | (refine ⟨trivial, wide_depth _, ?_⟩; gi_at_call 87; refine (callsIn_wide.2 (hash_any _ _)).mono ?_; rintro e w' ⟨rfl, rfl⟩)
            | (refine ⟨trivial, wide_depth _, ?_⟩; gi_at_call 88; refine (callsIn_wide.2 (sgn_any _ _)).mono ?_; rintro e w' ⟨rfl, rfl⟩))
          refine ⟨wide_depth _, ?_⟩
          refine hR.mono ?_
          rintro e W3 (⟨rfl, hJ3, hk3⟩ | ⟨rfl, hx3⟩)
          · have hit3 := hk3.1.same _ _ hit2 rfl
            have hb3 := hk3.2 _ hb2 rfl
            have hpos3 := iterPos_at hit3
            clear hit2 hb2 hj2 hc2 hy hR hk3 hnx
            gi_wp2_with (refine ⟨trivial, wide_depth _, ?_⟩; gi_at_call 75; refine (callsIn_wide.2 (behind_any _ _)).mono ?_; rintro e w' ⟨rfl, rfl⟩)
            go_roundw
            case rel => exact ⟨k + z, f', k, More.behind c, pre ++ [⟨(fr, k), hmem⟩], rfl, rfl, by omega, by omega, by omega, HT2.out, by simpa using HP2.out, hJ3, hit3, hb3⟩
            case measure => rw [hpos, hpos3]; omega
          · gi_wp2
            refine bodyPost_ret (results_none rfl _ _ _) rfl ?_
            exact ⟨⟨_, rfl⟩, .inr ⟨pre ++ [⟨(fr, k), hmem⟩], ⟨_, by simpa using HP2.out⟩, hx3⟩⟩
      · rw [hg] at hPP
        simp only [if_true] at hPP
        have HP2 := Lib.hid hPP
        clear hPP
        cases m
        all_goals
          simp only [More.fn, More.goes] at hg ⊢
          first
            | contradiction
            | (gi_wp2_with (first
            | (refine ⟨trivial, wide_depth _, ?_⟩; gi_at_call 74; refine (callsIn_wide.2 (white_any _ _)).mono ?_; rintro e w' ⟨rfl, rfl⟩)
            | (refine ⟨trivial, wide_depth _, ?_⟩; gi_at_call 77; refine (callsIn_wide.2 (digit_any _ _)).mono ?_; rintro e w' ⟨rfl, rfl⟩)
            | (refine ⟨trivial, wide_depth _, ?_⟩; gi_at_call 87; refine (callsIn_wide.2 (hash_any _ _)).mono ?_; rintro e w' ⟨rfl, rfl⟩)
            | (refine ⟨trivial, wide_depth _, ?_⟩; gi_at_call 88; refine (callsIn_wide.2 (sgn_any _ _)).mono ?_; rintro e w' ⟨rfl, rfl⟩))
               go_roundw
               case rel => exact ⟨k + z, f', fr, _, pre, rfl, rfl, by omega, by omega, by omega, HT2.out, HP2.out, hj2, hit2, hb2⟩
               case measure => rw [hpos, hpos2]; omega)
    · have hnx := fun ty => run_next_stop (P := Tryd.prog) hit hlt ty
      have hks : k = s.size := by omega
      have hPP := HP.out
      have hpl : piecesF s f k fr m = [(fr, s.size)] := by
        cases f with
        | zero => rfl
        | succ f => rw [piecesF, if_neg hlt]
      rw [hpl] at hPP
      have hmem : PieceOk s (fr, s.size) := HWH.out _ (by rw [← hPP]; simp)
      have hlen : pre.length < s.size + 2 := by
        have := congrArg List.length hPP
        have h2 := HPL.out
        simp at this; omega
      obtain ⟨fn, tmps, assign, body, hy, hR⟩ := HY.out pre ⟨(fr, s.size), hmem⟩ wr hj hlen
      have hc2 : wr.cell? ⟨b, 0, none⟩ = some (.string s) := by simp [World.cell?, hbx]
      have HP2 := Lib.hid hPP
      dsimp only [encP] at hy
      have hfs : fr ≤ s.size := by omega
      clear hPP hlen HP hpl hit hbx hj
      gi_wp2
      refine ⟨wide_depth _, ?_⟩
      refine hR.mono ?_
      rintro e W3 (⟨rfl, hJ3, hk3⟩ | ⟨rfl, hx3⟩)
      · gi_wp2
        go_end0
        exact ⟨⟨_, rfl⟩, .inl ⟨pre ++ [⟨(fr, s.size), hmem⟩], by simpa using HP2.out, hJ3⟩⟩
      · gi_wp2
        go_end0
        exact ⟨⟨_, rfl⟩, .inr ⟨pre ++ [⟨(fr, s.size), hmem⟩], ⟨[], by simpa using HP2.out⟩, hx3⟩⟩
/-- the iterator over the pieces of s, as its callers take it. -/
theorem pieces_stops (n b : Nat) (s : ByteArray) (hs : s.size ≤ 600000) (hw : textB s = none) (w : World) (hb : w.heap[b]? = some (.cells #[.string s] 9)) :
    SeqStopsK Fence.wide n Tryd.prog 73 #[.pointer (some ⟨b, 0, none⟩)] (encP s) (KeepB b) (fun xs => xs.map (·.1) = piecesB s) (fun pre => pre.map (·.1) <+: piecesB s) (s.size + 2) w := fun l J Jx W hW hJ hJx hY h0 =>
  pieces1_in n l b s hs hw J Jx W hJ hY ((hW.block b (Array.getElem?_eq_some_iff.1 hb).1).trans hb) h0
end Go.Proofs.YtechccoongilcaaDoor
