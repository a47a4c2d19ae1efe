import Derived.Test.YtdjnaejblgheoaaGreatRows
import Derived.Test.YtdjnaejblgheoaaGreatJO00
import Derived.Test.YtdjnaejblgheoaaGreatJO01
import Derived.BigQuiet
import Derived.Deep.QuietTactic
import Derived.Lib.MinMax
import Derived.OwnWalk
import Derived.Deep.WholeRow
import Derived.DeepKeys
import Derived.WalkKit
import Derived.ProofKit
import Derived.OpenShut
import Derived.Handy
import Derived.Lib.Hide
import Derived.Maps.AppendAt
import Derived.Lib.SmallJoins
import Derived.Deep.MidRow
import Derived.RangeFuncBox
import Derived.RangeFuncNested
import Derived.RangeFuncBound
import Derived.RangeFuncCalls
import Derived.RangeFuncLeaves
import Derived.Shelf.Abstract
import Derived.Shelf.RegionOpen
import Derived.OwnWalkIn
import Derived.TacticsInMore
import Derived.LoopNIn
import Derived.LoopIn
import Derived.BigRegionIn
/- The document's answers for package bands: whether a float meets a strip, the band of a strip. -/
namespace Go.Proofs.YtdjnaejblgheoaaGreat
open Go.RowKit
set_option linter.unusedVariables false
set_option linter.unusedSimpArgs false
theorem fl_at {w : World} {A : Option Addr} {n : Nat} {l : List Fl} (h : Rows 7 encFl w A n l) {i : Nat} (hi : i < n) :
    ∃ b off f, A = some ⟨b, off, none⟩ ∧ b < w.heap.size ∧ l[i]? = some f ∧ (w.cell? ⟨b, off + i * 7, none⟩ = some (.int .i64 f.node) ∧ w.cell? ⟨b, off + i * 7 + 1, none⟩ = some (.int .i64 f.side) ∧ w.cell? ⟨b, off + i * 7 + 2, none⟩ = some (.int .i64 f.anchor) ∧
      w.cell? ⟨b, off + i * 7 + 3, none⟩ = some (.int .i64 f.x) ∧ w.cell? ⟨b, off + i * 7 + 4, none⟩ = some (.int .i64 f.y) ∧ w.cell? ⟨b, off + i * 7 + 5, none⟩ = some (.int .i64 f.w) ∧ w.cell? ⟨b, off + i * 7 + 6, none⟩ = some (.int .i64 f.h)) := by
  obtain ⟨b, off, f, h1, h2, h3, h4⟩ := h.at_ hi
  exact ⟨b, off, f, h1, h2, h3, h4 0 _ rfl, h4 1 _ rfl, h4 2 _ rfl, h4 3 _ rfl, h4 4 _ rfl, h4 5 _ rfl, h4 6 _ rfl⟩
theorem Box.of7 {w : World} {n : Nat} {f : Fl} (h : Box w n (encFl f)) : (w.cell? ⟨n, 0, none⟩ = some (.int .i64 f.node) ∧ w.cell? ⟨n, 1, none⟩ = some (.int .i64 f.side) ∧ w.cell? ⟨n, 2, none⟩ = some (.int .i64 f.anchor) ∧ w.cell? ⟨n, 3, none⟩ = some (.int .i64 f.x) ∧
    w.cell? ⟨n, 4, none⟩ = some (.int .i64 f.y) ∧ w.cell? ⟨n, 5, none⟩ = some (.int .i64 f.w) ∧ w.cell? ⟨n, 6, none⟩ = some (.int .i64 f.h)) ∧ n < w.heap.size :=
  ⟨⟨h.2.2 0 _ rfl, h.2.2 1 _ rfl, h.2.2 2 _ rfl, h.2.2 3 _ rfl, h.2.2 4 _ rfl, h.2.2 5 _ rfl, h.2.2 6 _ rfl⟩, h.1⟩
theorem box7 (w : World) (f : Fl) (t : TypeId) : Box (w.alloc (.cells #[.int .i64 f.node, .int .i64 f.side, .int .i64 f.anchor, .int .i64 f.x, .int .i64 f.y, .int .i64 f.w, .int .i64 f.h] t)) w.heap.size (encFl f) := Box.new w (encFl f) t
end Go.Proofs.YtdjnaejblgheoaaGreat
/- The document's answers for package bands: the band of a strip. -/
namespace Go.Proofs.YtdjnaejblgheoaaGreat
open Go.RowKit
set_option linter.unusedVariables false
set_option linter.unusedSimpArgs false
end Go.Proofs.YtdjnaejblgheoaaGreat
/- The document's answers for package lex: one byte, and the size of a character. -/
namespace Go.Proofs.YtdjnaejblgheoaaGreat
open Go.RowKit
set_option linter.unusedVariables false
set_option linter.unusedSimpArgs false
theorem in_any (s : ByteArray) (k : Nat) (a b : Int) (w : World) (hk : k ≤ 1000000) (hs : s.size ≤ 1000000) : Calls Tryz.prog 119 #[.string s, .int .i64 k, .int .u8 a, .int .u8 b] w fun e w' => e = .returned (.bool (inB s k a b)) ∧ w = w' := by
  by_cases h1 : k < s.size
  · have hb := bAt_get s k h1
    have h2 : (k : Int) < (s.size : Int) := by omega
    by_cases h3 : a ≤ bAt s k
    all_goals
      go_enter Tryz.func119, Tryz.ntmps119
      go_wp2
      go_ret
      exact ⟨ret_bool (by rw [inB_at h1]; first | (simp [h3]; done) | (rw [decide_eq_false (show ¬ a ≤ bAt s k by omega)]; rfl)), rfl⟩
  · have h2 : (s.size : Int) ≤ (k : Int) := by omega
    go_enter Tryz.func119, Tryz.ntmps119
    go_wp2
    go_ret
    exact ⟨ret_bool (inB_ge h1 a b).symm, rfl⟩
theorem in_at {s : ByteArray} {x : Int} {k : Nat} (hx : x = (k : Int)) (a b : Int) (w : World) (hk : k ≤ 1000000) (hs : s.size ≤ 1000000) : Calls Tryz.prog 119 #[.string s, .int .i64 x, .int .u8 a, .int .u8 b] w fun e w' => e = .returned (.bool (inB s k a b)) ∧ w = w' := by
  subst hx; exact in_any s k a b w hk hs
theorem more_any (s : ByteArray) (k n : Nat) (w : World) (hk : k ≤ 900000) (hn : n ≤ 3) (hs : s.size ≤ 1000000) : Calls Tryz.prog 140 #[.string s, .int .i64 k, .int .i64 n] w fun e w' => e = .returned (.bool (moreB s k n)) ∧ w = w' := by
  go_enter Tryz.func140, Tryz.ntmps140
  go_wp2_with fail
  go_loopw [7] (fun i wr => ∃ j : Nat, j ≤ n ∧ i = .int .i64 j ∧ moreB s k j = true ∧ wr = w) (fun i _ => n - (intOf i).toNat)
  case atStart => exact ⟨0, by omega, rfl, rfl, rfl⟩
  case round =>
    obtain ⟨j, hj, rfl, hm, rfl⟩ := hrel
    have HM := Lib.hid hm
    clear hm
    by_cases hlt : j < n
    · obtain ⟨v, hv⟩ : ∃ v, inB s (k + j) 128 191 = v := ⟨_, rfl⟩
      cases v
      · have HN := Lib.hid (moreB_no (i := k) hlt hv)
        go_wp2_with (go_at_call 119; refine (in_at (k := k + j) (by omega) _ _ _ (by omega) hs).mono ?_; rintro e w' ⟨rfl, rfl⟩)
        go_ret
        exact ⟨ret_bool HN.out.symm, rfl⟩
      · have HN := Lib.hid (show moreB s k (j + 1) = true by show (moreB s k j && inB s (k + j) 128 191) = true; rw [HM.out, hv]; rfl)
        go_wp2_with (go_at_call 119; refine (in_at (k := k + j) (by omega) _ _ _ (by omega) hs).mono ?_; rintro e w' ⟨rfl, rfl⟩)
        go_roundw
        case rel => exact ⟨j + 1, by omega, by go_num, HN.out, by first | rfl | trivial⟩
        case measure => simp [intOf]; omega
    · obtain rfl : j = n := by omega
      go_wp2_with fail
      go_ret
      exact ⟨ret_bool HM.out.symm, rfl⟩
theorem more_at {s : ByteArray} {x y : Int} {k n : Nat} (hx : x = (k : Int)) (hy : y = (n : Int)) (w : World) (hk : k ≤ 900000) (hn : n ≤ 3) (hs : s.size ≤ 1000000) : Calls Tryz.prog 140 #[.string s, .int .i64 x, .int .i64 y] w fun e w' => e = .returned (.bool (moreB s k n)) ∧ w = w' := by
  subst hx hy; exact more_any s k n w hk hn hs
theorem in_k1 (s : ByteArray) (k : Nat) (a b : Int) (w : World) (hk : k ≤ 800000) (hs : s.size ≤ 1000000) : Calls Tryz.prog 119 #[.string s, .int .i64 ((k : Int) + 1), .int .u8 a, .int .u8 b] w fun e w' => e = .returned (.bool (inB s (k + 1) a b)) ∧ w = w' := in_at (by omega) a b w (by omega) hs
theorem more_k1_1 (s : ByteArray) (k : Nat) (w : World) (hk : k ≤ 800000) (hs : s.size ≤ 1000000) : Calls Tryz.prog 140 #[.string s, .int .i64 ((k : Int) + 1), .int .i64 1] w fun e w' => e = .returned (.bool (moreB s (k + 1) 1)) ∧ w = w' := more_at (by omega) (by omega) w (by omega) (by omega) hs
theorem more_k1_2 (s : ByteArray) (k : Nat) (w : World) (hk : k ≤ 800000) (hs : s.size ≤ 1000000) : Calls Tryz.prog 140 #[.string s, .int .i64 ((k : Int) + 1), .int .i64 2] w fun e w' => e = .returned (.bool (moreB s (k + 1) 2)) ∧ w = w' := more_at (by omega) (by omega) w (by omega) (by omega) hs
theorem more_k1_3 (s : ByteArray) (k : Nat) (w : World) (hk : k ≤ 800000) (hs : s.size ≤ 1000000) : Calls Tryz.prog 140 #[.string s, .int .i64 ((k : Int) + 1), .int .i64 3] w fun e w' => e = .returned (.bool (moreB s (k + 1) 3)) ∧ w = w' := more_at (by omega) (by omega) w (by omega) (by omega) hs
theorem more_k2_1 (s : ByteArray) (k : Nat) (w : World) (hk : k ≤ 800000) (hs : s.size ≤ 1000000) : Calls Tryz.prog 140 #[.string s, .int .i64 ((k : Int) + 2), .int .i64 1] w fun e w' => e = .returned (.bool (moreB s (k + 2) 1)) ∧ w = w' := more_at (by omega) (by omega) w (by omega) (by omega) hs
theorem more_k2_2 (s : ByteArray) (k : Nat) (w : World) (hk : k ≤ 800000) (hs : s.size ≤ 1000000) : Calls Tryz.prog 140 #[.string s, .int .i64 ((k : Int) + 2), .int .i64 2] w fun e w' => e = .returned (.bool (moreB s (k + 2) 2)) ∧ w = w' := more_at (by omega) (by omega) w (by omega) (by omega) hs
theorem more_k2_3 (s : ByteArray) (k : Nat) (w : World) (hk : k ≤ 800000) (hs : s.size ≤ 1000000) : Calls Tryz.prog 140 #[.string s, .int .i64 ((k : Int) + 2), .int .i64 3] w fun e w' => e = .returned (.bool (moreB s (k + 2) 3)) ∧ w = w' := more_at (by omega) (by omega) w (by omega) (by omega) hs
end Go.Proofs.YtdjnaejblgheoaaGreat
/- Tokens in memory; what a reader of scripts answers. -/
namespace Go.Proofs.YtdjnaejblgheoaaGreat
open Go.RowKit
set_option linter.unusedVariables false
set_option linter.unusedSimpArgs false
def encT (t : Tok) : List Value := [.int .i64 t.kind, .int .i32 t.sign, .int .i64 t.n, .int .i64 t.at_]
theorem encT_len (t : Tok) : (encT t).length = 4 := rfl
theorem toks_at {w : World} {A : Option Addr} {n : Nat} {zs : List Tok} (h : Rows 4 encT w A n zs) {i : Nat} (hi : i < n) :
    ∃ b off x y u v, A = some ⟨b, off, none⟩ ∧ b < w.heap.size ∧ zs[i]? = some ⟨x, y, u, v⟩ ∧ w.cell? ⟨b, off + i * 4, none⟩ = some (.int .i64 x) ∧ w.cell? ⟨b, off + i * 4 + 1, none⟩ = some (.int .i32 y) ∧ w.cell? ⟨b, off + i * 4 + 2, none⟩ = some (.int .i64 u) ∧ w.cell? ⟨b, off + i * 4 + 3, none⟩ = some (.int .i64 v) := by
  obtain ⟨b, off, ⟨x, y, u, v⟩, h1, h2, h3, h4⟩ := h.at_ hi
  exact ⟨b, off, x, y, u, v, h1, h2, h3, h4 0 _ rfl, h4 1 _ rfl, h4 2 _ rfl, h4 3 _ rfl⟩
theorem tok_info : (Tryz.prog.info? 145).map (fun i => (i.zero, i.size, i.bytes)) = some (some (.agg #[.int .i64 0, .int .i32 0, .int .i64 0, .int .i64 0]), 4, 32) := by kernel_rfl
def LexPost (w : World) (s : ByteArray) (e : Ending) (w' : World) : Prop :=
  (∃ toks A n c, lexB s = (some toks, 0) ∧ e = .returned (.tuple #[.slice A n c, .int .i64 0, .int .i64 0]) ∧ Rows 4 encT w' A n toks ∧ (n ≤ s.size ∧ n ≤ c ∧ ∀ p, A = some p → p.block < w'.heap.size) ∧ Below w.heap.size w w') ∨
  (∃ k : Nat, lexB s = (none, k) ∧ e = .returned (.tuple #[.slice none 0 0, .int .i64 (k : Int), .int .i64 1]) ∧ k < s.size ∧ Below w.heap.size w w')
theorem owns_cap {w : World} {base : Nat} {e : TypeId} {size : Nat} {A : Option Addr} {n c : Nat} {xs : List Value} (h : w.ownsRow base e size (.slice A n c) n xs) : n ≤ c := by
  rcases h.2 with ⟨h1, h2⟩ | ⟨g, cap, cur, h1, _, _, h2, _⟩
  · omega
  · injection h1 with _ _ h1; omega
theorem owns_at {w : World} {base : Nat} {e : TypeId} {size : Nat} {A : Option Addr} {n c : Nat} {xs : List Value} (h : w.ownsRow base e size (.slice A n c) n xs) : ∀ p, A = some p → p.block < w.heap.size := by
  intro p hp
  subst hp
  rcases h.2 with ⟨h1, h2⟩ | ⟨g, cap, cur, h1, _, h2, _⟩
  · injection h1 with h1; cases h1
  · injection h1 with h1; injection h1 with h1; subst h1
    exact (Array.getElem?_eq_some_iff.1 h2).1
theorem tok_cells (w : World) (a b c d : Int) (t : TypeId) (n : Nat) (hn : n = w.heap.size) : Cells (w.alloc (.cells #[.int .i64 a, .int .i32 b, .int .i64 c, .int .i64 d] t)) (some ⟨n, 0, none⟩) 1 4 [.int .i64 a, .int .i32 b, .int .i64 c, .int .i64 d] := by
  subst hn
  refine ⟨rfl, by decide, fun _ => ⟨_, _, rfl, by simp, fun j u hu => ?_⟩⟩
  rw [Nat.zero_add]; exact (Box.new w [.int .i64 a, .int .i32 b, .int .i64 c, .int .i64 d] t).2.2 j u hu
theorem tok_cell4 (a b c d : Int) : ∀ u ∈ ([.int .i64 a, .int .i32 b, .int .i64 c, .int .i64 d] : List Value), u.oneCell' = true := by
  intro u hu; simp at hu; rcases hu with rfl | rfl | rfl | rfl <;> rfl
theorem toks_snoc (out : List Tok) (t : Tok) : (out ++ [t]).flatMap encT = out.flatMap encT ++ encT t := by rw [List.flatMap_append]; simp
end Go.Proofs.YtdjnaejblgheoaaGreat
/- The document's answers for package margin: a pen behind one step. (Written by program: tools/drafts/genmargin13.py.) -/
namespace Go.Proofs.YtdjnaejblgheoaaGreat
open Go.RowKit
set_option linter.unusedVariables false
set_option linter.unusedSimpArgs false
theorem wrap_far {a : Int} (h : -4611686018427387904 ≤ a ∧ a ≤ 4611686018427387904) : IntKind.i64.wrap a = a := IntWalk.i64_in _ (by omega)
end Go.Proofs.YtdjnaejblgheoaaGreat
/- Steps in memory; a pen and a row of places that are answered. -/
namespace Go.Proofs.YtdjnaejblgheoaaGreat
open Go.RowKit
set_option linter.unusedVariables false
set_option linter.unusedSimpArgs false
theorem owns_set13 {w : World} {base : Nat} {e : TypeId} {size : Nat} {v : Value} {n : Nat} {xs : List Value} (h : w.ownsRow base e size v n xs) {m : Nat} (hm : m < base) (j : Nat) (u : Value) : (w.setCell ⟨m, j, none⟩ u).ownsRow base e size v n xs := by
  refine ⟨h.1, ?_⟩
  rcases h.2 with h2 | ⟨g, cap, cur, h1, h2, h3, h4⟩
  · exact .inl h2
  · exact .inr ⟨g, cap, cur, h1, h2, (Below.heap_setCell _ _ _ _ (fun e => by simp at e; omega)).trans h3, h4⟩
theorem owns_mono13 {w : World} {base b2 : Nat} {e : TypeId} {size : Nat} {v : Value} {n : Nat} {xs : List Value} (h : w.ownsRow base e size v n xs) (hb : b2 ≤ base) : w.ownsRow b2 e size v n xs := by
  refine ⟨h.1, ?_⟩
  rcases h.2 with h2 | ⟨g, cap, cur, h1, h2, h3⟩
  · exact .inl h2
  · exact .inr ⟨g, cap, cur, h1, by omega, h3⟩
end Go.Proofs.YtdjnaejblgheoaaGreat
/- A style as cells. -/
namespace Go.Proofs.YtdjnaejblgheoaaGreat
open Go.RowKit
set_option linter.unusedVariables false
set_option linter.unusedSimpArgs false
def encS12 (s : Sty) : List Value := [.int .i64 s.top, .int .i64 s.bottom, .int .i64 s.padTop, .int .i64 s.padBottom, .int .i64 s.inset, .int .i64 s.orphans, .int .i64 s.widows, .int .i64 s.head, .int .i64 s.before, .int .i64 s.after, .int .i64 s.inside, .int .i64 s.clear]
end Go.Proofs.YtdjnaejblgheoaaGreat
/- Nodes in memory; what a reader of nodes answers. -/
namespace Go.Proofs.YtdjnaejblgheoaaGreat
open Go.RowKit
set_option linter.unusedVariables false
set_option linter.unusedSimpArgs false
structure NdM where
  kind : Int
  size : Int
  sty : Sty
  line : Int
  space : Int
  A : Option Addr
  n : Nat
  c : Nat
  side : Int
  w : Int
  h : Int
def encM (m : NdM) : List Value := [.int .i64 m.kind, .int .i64 m.size, .int .i64 m.sty.top, .int .i64 m.sty.bottom, .int .i64 m.sty.padTop, .int .i64 m.sty.padBottom, .int .i64 m.sty.inset, .int .i64 m.sty.orphans, .int .i64 m.sty.widows, .int .i64 m.sty.head, .int .i64 m.sty.before, .int .i64 m.sty.after, .int .i64 m.sty.inside, .int .i64 m.sty.clear,
  .int .i64 m.line, .int .i64 m.space, .slice m.A m.n m.c, .int .i64 m.side, .int .i64 m.w, .int .i64 m.h]
theorem encM_len (m : NdM) : (encM m).length = 20 := rfl
theorem encM_one (m : NdM) : ∀ u ∈ encM m, u.oneCell' = true := by
  intro u hu
  simp only [encM, List.mem_cons, List.not_mem_nil, or_false] at hu
  rcases hu with h | h | h | h | h | h | h | h | h | h | h | h | h | h | h | h | h | h | h | h <;> subst h <;> rfl
theorem encMs_one (zs : List NdM) : ∀ u ∈ zs.flatMap encM, u.oneCell' = true := by
  intro u hu
  obtain ⟨m, _, hm⟩ := List.mem_flatMap.1 hu
  exact encM_one m u hm
/-- the node x lies there as m; its words in a row of their own, from block base on. -/
def Holds (base : Nat) (w : World) (m : NdM) (x : Nd) : Prop := (x.kind = m.kind ∧ x.size = m.size ∧ x.sty = m.sty ∧ x.line = m.line ∧ x.space = m.space ∧ x.side = m.side ∧ x.w = m.w ∧ x.h = m.h) ∧ w.ownsRow base 3 1 (.slice m.A m.n m.c) m.n (x.words.map (Value.int .i64))
def Holds2 (base : Nat) (w : World) (zs : List NdM) (l : List Nd) : Prop := zs.length = l.length ∧ ∀ (i : Nat) (m : NdM) (x : Nd), zs[i]? = some m → l[i]? = some x → Holds base w m x
theorem Holds2.below {base : Nat} {w w' : World} {zs : List NdM} {l : List Nd} (h : Holds2 base w zs l) (hb : Below w.heap.size w w') : Holds2 base w' zs l :=
  ⟨h.1, fun i m x h1 h2 => ⟨(h.2 i m x h1 h2).1, owns_below (h.2 i m x h1 h2).2 hb⟩⟩
theorem Holds2.nil (base : Nat) (w : World) : Holds2 base w [] [] := ⟨rfl, fun i m x h => by simp at h⟩
theorem Holds2.append {base : Nat} {w : World} {zs zs' : List NdM} {l l' : List Nd} (h : Holds2 base w zs l) (h' : Holds2 base w zs' l') : Holds2 base w (zs ++ zs') (l ++ l') := by
  refine ⟨by rw [List.length_append, List.length_append, h.1, h'.1], fun i m x h1 h2 => ?_⟩
  by_cases hi : i < zs.length
  · rw [List.getElem?_append_left hi] at h1
    rw [List.getElem?_append_left (by rw [← h.1]; exact hi)] at h2
    exact h.2 i m x h1 h2
  · rw [List.getElem?_append_right (by omega)] at h1
    rw [List.getElem?_append_right (by rw [← h.1]; omega), ← h.1] at h2
    exact h'.2 _ m x h1 h2
theorem Holds2.one {base : Nat} {w : World} {m : NdM} {x : Nd} (h : Holds base w m x) : Holds2 base w [m] [x] := by
  refine ⟨rfl, fun i m' x' h1 h2 => ?_⟩
  cases i with
  | zero => simp at h1 h2; subst h1 h2; exact h
  | succ i => simp at h1
/-- the slice's block is one from base on. -/
def Far (base : Nat) (A : Option Addr) : Prop := ∀ p, A = some p → base ≤ p.block
theorem Far.nil (base : Nat) : Far base .none := fun p h => by cases h
theorem Far.at_ {base g : Nat} (h : base ≤ g) : Far base (some ⟨g, 0, .none⟩) := fun p e => by cases e; exact h
theorem Far.up {base base' : Nat} {A : Option Addr} (h : Far base A) (hb : base' ≤ base) : Far base' A := fun p e => Nat.le_trans hb (h p e)
theorem Far.owns {w : World} {base : Nat} {e : TypeId} {size : Nat} {A : Option Addr} {n c : Nat} {xs : List Value} (h : w.ownsRow base e size (.slice A n c) n xs) : Far base A := fun p hp => owns_block h p.block (by subst hp; rfl)
/-- all blocks from base on are as they were. -/
def Same (base : Nat) (w w' : World) : Prop := w.heap.size ≤ w'.heap.size ∧ ∀ k, base ≤ k → k < w.heap.size → w'.heap[k]? = w.heap[k]?
theorem Same.refl (base : Nat) (w : World) : Same base w w := ⟨Nat.le_refl _, fun _ _ _ => rfl⟩
theorem Same.below {base : Nat} {w w' : World} (h : Below w.heap.size w w') : Same base w w' := ⟨h.size, fun k _ hk => h.block k hk⟩
theorem Same.set {base : Nat} (w : World) {m : Nat} (hm : m < base) (j : Nat) (v : Value) : Same base w (w.setCell ⟨m, j, .none⟩ v) :=
  ⟨by simp, fun k hk _ => Below.heap_setCell _ _ _ _ (fun e => by simp at e; omega)⟩
theorem Same.trans {base : Nat} {a b c : World} (h : Same base a b) (k : Same base b c) : Same base a c := ⟨Nat.le_trans h.1 k.1, fun i hi hl => (k.2 i hi (Nat.lt_of_lt_of_le hl h.1)).trans (h.2 i hi hl)⟩
theorem Rows.same {α : Type} {k : Nat} {enc : α → List Value} {w w' : World} {A : Option Addr} {n : Nat} {zs : List α} {base : Nat} (h : Rows k enc w A n zs) (hA : Far base A) (hs : Same base w w') : Rows k enc w' A n zs :=
  ⟨h.1, h.2.1, fun hn => by
    obtain ⟨b, off, e, hl, hc⟩ := h.2.2 hn
    have hb := hA _ e
    exact ⟨b, off, e, Nat.lt_of_lt_of_le hl hs.1, fun i x hx j v hv => (World.cell?_of_block (w := w) (a := ⟨b, _, .none⟩) (hs.2 b hb hl)).trans (hc i x hx j v hv)⟩⟩
theorem owns_same {w w' : World} {base : Nat} {e : TypeId} {size : Nat} {v : Value} {n : Nat} {xs : List Value} (h : w.ownsRow base e size v n xs) (hs : Same base w w') : w'.ownsRow base e size v n xs := by
  refine ⟨h.1, ?_⟩
  rcases h.2 with h2 | ⟨g, cap, cur, h1, h2, h3, h4⟩
  · exact .inl h2
  · exact .inr ⟨g, cap, cur, h1, h2, (hs.2 g h2 (Array.getElem?_eq_some_iff.1 h3).1).trans h3, h4⟩
theorem owns_up {w : World} {base base' : Nat} {e : TypeId} {size : Nat} {v : Value} {n : Nat} {xs : List Value} (h : w.ownsRow base e size v n xs) (hb : base' ≤ base) : w.ownsRow base' e size v n xs := by
  refine ⟨h.1, ?_⟩
  rcases h.2 with h2 | ⟨g, cap, cur, h1, h2, h3⟩
  · exact .inl h2
  · exact .inr ⟨g, cap, cur, h1, by omega, h3⟩
/-- a step that turns a row of another type. -/
theorem owns_grown {w w' : World} {base base' : Nat} {e e' : TypeId} {size size' : Nat} {v v' : Value} {n n' : Nat} {xs xs' : List Value} (h : w.ownsRow base e size v n xs) (h' : w.ownsRow base' e' size' v' n' xs') (hne : e ≠ e') (hg : w.grownBy w' v'.ownBlock) : w'.ownsRow base e size v n xs := by
  refine ⟨h.1, ?_⟩
  rcases h.2 with h2 | ⟨g, cap, cur, h1, h2, h3, h4⟩
  · exact .inl h2
  · refine .inr ⟨g, cap, cur, h1, h2, (hg.block g (Array.getElem?_eq_some_iff.1 h3).1 (fun q => ?_)).trans h3, h4⟩
    rcases h'.2 with ⟨k, _⟩ | ⟨g', cap', cur', k, _, k3, _⟩
    · rw [k] at q; cases q
    · rw [k] at q
      injection q with q
      rw [show g = g' from q, k3] at h3
      injection h3 with h3
      injection h3 with _ h3 _
      exact hne h3.symm
theorem Holds2.grown {base base' : Nat} {w w' : World} {zs : List NdM} {l : List Nd} {e' : TypeId} {size' n' : Nat} {v' : Value} {xs' : List Value} (h : Holds2 base w zs l) (h' : w.ownsRow base' e' size' v' n' xs') (hne : 3 ≠ e') (hg : w.grownBy w' v'.ownBlock) : Holds2 base w' zs l :=
  ⟨h.1, fun i m x h1 h2 => ⟨(h.2 i m x h1 h2).1, owns_grown (h.2 i m x h1 h2).2 h' hne hg⟩⟩
theorem Holds2.same {base : Nat} {w w' : World} {zs : List NdM} {l : List Nd} (h : Holds2 base w zs l) (hs : Same base w w') : Holds2 base w' zs l :=
  ⟨h.1, fun i m x h1 h2 => ⟨(h.2 i m x h1 h2).1, owns_same (h.2 i m x h1 h2).2 hs⟩⟩
theorem Holds2.up {base base' : Nat} {w : World} {zs : List NdM} {l : List Nd} (h : Holds2 base w zs l) (hb : base' ≤ base) : Holds2 base' w zs l :=
  ⟨h.1, fun i m x h1 h2 => ⟨(h.2 i m x h1 h2).1, owns_up (h.2 i m x h1 h2).2 hb⟩⟩
theorem Holds.ints {base : Nat} {w : World} {m : NdM} {x : Nd} (h : Holds base w m x) : Ints w m.A m.n x.words := (ownsRow_cells h.2).ints
/-- nodes in memory, all of it from block base on. -/
def Nds (base : Nat) (w : World) (A : Option Addr) (n : Nat) (l : List Nd) : Prop := ∃ zs : List NdM, Rows 20 encM w A n zs ∧ Holds2 base w zs l ∧ Far base A
theorem Nds.same {base : Nat} {w w' : World} {A : Option Addr} {n : Nat} {l : List Nd} (h : Nds base w A n l) (hs : Same base w w') : Nds base w' A n l := by
  obtain ⟨zs, h1, h2, h3⟩ := h
  exact ⟨zs, h1.same h3 hs, h2.same hs, h3⟩
theorem Nds.below {base : Nat} {w w' : World} {A : Option Addr} {n : Nat} {l : List Nd} (h : Nds base w A n l) (hb : Below w.heap.size w w') : Nds base w' A n l := h.same (Same.below hb)
theorem Nds.up {base base' : Nat} {w : World} {A : Option Addr} {n : Nat} {l : List Nd} (h : Nds base w A n l) (hb : base' ≤ base) : Nds base' w A n l := by
  obtain ⟨zs, h1, h2, h3⟩ := h
  exact ⟨zs, h1, h2.up hb, h3.up hb⟩
theorem Nds.nil (base : Nat) (w : World) : Nds base w .none 0 [] := ⟨[], Rows.nil _ _, Holds2.nil _ _, Far.nil _⟩
theorem Nds.len {base : Nat} {w : World} {A : Option Addr} {n : Nat} {l : List Nd} (h : Nds base w A n l) : l.length = n := by
  obtain ⟨zs, h1, h2, _⟩ := h
  rw [← h2.1]; exact h1.1
/-- a number of nodes is no more than that of the tokens. -/
theorem Parse.len {l : List Tok} {t : Bool} {i : Nat} {out : List Nd} {r : Res (List Nd)} (h : Parse l t i out r) : ∀ x b, r = .ok x b → x.length + i ≤ out.length + b := by
  have hbox : ∀ i kind side e x b, boxR l i kind side e = .ok x b → x.length + i ≤ b := by
    intro i kind side e x b hr
    unfold boxR at hr
    split at hr
    · cases hr
    split at hr
    · cases hr
    split at hr
    · cases hr
    · cases hr; simp; omega
  induction h with
  | stop _ => intro x b h; cases h; omega
  | more _ _ _ ih1 ih2 => intro x b h; have := ih1 _ _ rfl; have := ih2 _ _ h; simp at *; omega
  | fail _ _ _ => intro x b h; cases h
  | blockA _ _ => intro x b h; cases h
  | blockN _ _ _ _ => intro x b h; cases h
  | blockE _ _ _ _ _ => intro x b h; cases h
  | block _ g2 _ _ ih => intro x b h; cases h; have := ih _ _ rfl; have := g2.le; simp [Res.at_] at *; omega
  | textL _ _ => intro x b h; cases h
  | textS _ _ _ => intro x b h; cases h
  | textW _ _ _ _ _ => intro x b h; cases h
  | text _ _ _ g4 _ _ => intro x b h; cases h; have := g4.le; simp; omega
  | mono _ => intro x b h; have := hbox _ _ _ _ _ _ h; simp; omega
  | left _ _ => intro x b h; have := hbox _ _ _ _ _ _ h; simp; omega
  | right _ _ => intro x b h; have := hbox _ _ _ _ _ _ h; simp; omega
  | side _ _ _ => intro x b h; cases h
def gotV (A : Option Addr) (n c : Nat) (p wrong : Int) : Value := .agg #[.slice A n c, .int .i64 p, .int .i64 wrong]
/-- what one of the readers answers. -/
def GotR (w : World) (r : Res (List Nd)) (e : Ending) (w' : World) : Prop := match r with
  | .ok x b => ∃ A n c, e = .returned (gotV A n c b 0) ∧ Nds w.heap.size w' A n x ∧ Below w.heap.size w w'
  | .bad p => e = .returned (gotV none 0 0 p 1) ∧ Below w.heap.size w w'
def GotP (toks : List Tok) (t : Bool) (i : Nat) (w : World) (e : Ending) (w' : World) : Prop := ∃ r, Parse toks t i [] r ∧ GotR w r e w'
/-- a block that holds a struct, read whole. -/
theorem box_load {P : Program} {w : World} {n k : Nat} {vs : List Value} (h : Box w n vs) (hk : vs.length = k) (cs : Array Value) (hc : cs = vs.toArray) : (loadCellsFrom ⟨n, 0, none⟩ 0 k #[]).run P w = .ok cs w := by
  subst hk hc
  have := run_loadCells_list (P := P) w ⟨n, 0, none⟩ vs (fun j v hv => by
    rw [Go.WideShapes.add_plain, Nat.zero_add]; exact h.2.2 j v hv)
  simpa [loadCells] using this
theorem box3_of {w : World} {n : Nat} {a b c : Value} (h : Box w n [a, b, c]) : (w.cell? ⟨n, 0, none⟩ = some a ∧ w.cell? ⟨n, 1, none⟩ = some b ∧ w.cell? ⟨n, 2, none⟩ = some c) ∧ (w.frozen? ⟨n, 0, none⟩ = false ∧ w.frozen? ⟨n, 1, none⟩ = false ∧ w.frozen? ⟨n, 2, none⟩ = false) ∧ n < w.heap.size :=
  ⟨⟨h.2.2 0 _ rfl, h.2.2 1 _ rfl, h.2.2 2 _ rfl⟩, ⟨h.2.1 _, h.2.1 _, h.2.1 _⟩, h.1⟩
theorem rows_box {α : Type} {k : Nat} {enc : α → List Value} (hk : ∀ x, (enc x).length = k) {w : World} {n : Nat} {zs : List α} (h : Box w n (zs.flatMap enc)) (hl : zs.length ≤ 1000000) : Rows k enc w (some ⟨n, 0, none⟩) zs.length zs := by
  refine ⟨rfl, by omega, fun _ => ⟨n, 0, rfl, h.1, fun i x hx j v hv => ?_⟩⟩
  rw [Nat.zero_add]
  exact h.2.2 _ _ (flat_get hk zs i x j v hx hv)
theorem box_new (w : World) (vs : List Value) (t : TypeId) (n : Nat) (h : n = w.heap.size) (cs : Array Value) (hc : cs = vs.toArray) : Box (w.alloc (.cells cs t)) n vs := by subst h hc; exact Box.new w vs t
end Go.Proofs.YtdjnaejblgheoaaGreat
/- Styles compared; nodes compared. -/
namespace Go.Proofs.YtdjnaejblgheoaaGreat
open Go.RowKit
set_option linter.unusedVariables false
set_option linter.unusedSimpArgs false
def styB (s t : Sty) : Bool := s.top == t.top && s.bottom == t.bottom && s.padTop == t.padTop && s.padBottom == t.padBottom && s.inset == t.inset && s.orphans == t.orphans && s.widows == t.widows && s.head == t.head && s.before == t.before && s.after == t.after && s.inside == t.inside && s.clear == t.clear
theorem styB_iff (s t : Sty) : styB s t = true ↔ s = t := by
  obtain ⟨a0, a1, a2, a3, a4, a5, a6, a7, a8, a9, a10, a11⟩ := s
  obtain ⟨b0, b1, b2, b3, b4, b5, b6, b7, b8, b9, b10, b11⟩ := t
  simp [styB, and_assoc]
theorem part_int (xs : Array Value) (k : Nat) (v : Value) (h : xs[k]? = some v) (w : World) : (part 3 xs k).run Tryz.prog w = .ok v w := run_part_plain w (by kernel_rfl) h
theorem ite_ok {p : Prop} [Decidable p] {c : Bool} {w : World} : (if p then Result.ok c w else Result.ok false w) = Result.ok (decide p && c) w := by split <;> simp_all
theorem ite_and {b : Bool} {c : Bool} {w : World} : (if (!b) = true then Result.ok false w else Result.ok c w) = Result.ok (b && c) w := by cases b <;> rfl
set_option maxRecDepth 10000 in
theorem sty_equal (s t : Sty) (w : World) : (Op.equalIn 10000 37 (.agg (encS12 s).toArray) (.agg (encS12 t).toArray)).run Tryz.prog w = .ok (styB s t) w := by
  obtain ⟨a0, a1, a2, a3, a4, a5, a6, a7, a8, a9, a10, a11⟩ := s
  obtain ⟨b0, b1, b2, b3, b4, b5, b6, b7, b8, b9, b10, b11⟩ := t
  rw [show (10000 : Nat) = 9999 + 1 from rfl, run_equalIn_struct w 9999 _ _ _ (by kernel_rfl) (by kernel_rfl)]
  have hi : ∀ (a b : Int) (w : World), (Op.equalIn 9999 3 (.int .i64 a) (.int .i64 b)).run Tryz.prog w = .ok (a == b) w := fun a b w => run_equalIn_int w 9998 3 .i64 .i64 a b Tryz.underlying3
  simp [Program.fieldsOf, Tryz.underlying37, Op.eqFields, encS12, part_int, hi, styB, ite_and]
  simp only [ite_ok]
  congr 1
  rw [Bool.eq_iff_iff]
  simp [and_assoc]
/-- a node that can be read there: its words, too. -/
def Shows (w : World) (m : NdM) (x : Nd) : Prop := (x.kind = m.kind ∧ x.size = m.size ∧ x.sty = m.sty ∧ x.line = m.line ∧ x.space = m.space ∧ x.side = m.side ∧ x.w = m.w ∧ x.h = m.h) ∧ Ints w m.A m.n x.words
theorem Shows.below {w w' : World} {m : NdM} {x : Nd} (h : Shows w m x) (hb : Below w.heap.size w w') : Shows w' m x := ⟨h.1, (h.2.cells.below hb rfl).ints⟩
theorem Holds.shows {base : Nat} {w : World} {m : NdM} {x : Nd} (h : Holds base w m x) : Shows w m x := ⟨h.1, h.ints⟩
/-- nodes that can be read there. -/
def Sees (w : World) (A : Option Addr) (n : Nat) (l : List Nd) : Prop := ∃ zs : List NdM, Rows 20 encM w A n zs ∧ zs.length = l.length ∧ ∀ (i : Nat) (m : NdM) (x : Nd), zs[i]? = some m → l[i]? = some x → Shows w m x
theorem Sees.below {w w' : World} {A : Option Addr} {n : Nat} {l : List Nd} (h : Sees w A n l) (hb : Below w.heap.size w w') : Sees w' A n l := by
  obtain ⟨zs, h1, h2, h3⟩ := h
  exact ⟨zs, h1.below hb, h2, fun i m x h4 h5 => (h3 i m x h4 h5).below hb⟩
theorem Nds.sees {base : Nat} {w : World} {A : Option Addr} {n : Nat} {l : List Nd} (h : Nds base w A n l) : Sees w A n l := by
  obtain ⟨zs, h1, h2, h3⟩ := h
  exact ⟨zs, h1, h2.1, fun i m x h4 h5 => (h2.2 i m x h4 h5).shows⟩
theorem Sees.len {w : World} {A : Option Addr} {n : Nat} {l : List Nd} (h : Sees w A n l) : l.length = n := by
  obtain ⟨zs, h1, h2, _⟩ := h
  rw [← h2]; exact h1.1
end Go.Proofs.YtdjnaejblgheoaaGreat
/- The program's rect.Down; blocks of four cells. (For seats that lack the rest of package rect.) -/
namespace Go.Proofs.YtdjnaejblgheoaaGreat
open Go.RowKit
set_option linter.unusedVariables false
set_option linter.unusedSimpArgs false
theorem down_any (x y w h : Int) (W : World) (hb : IntKind.i64.wrap (y + h) = y + h) : Calls Tryz.prog 43 #[.agg #[.int .i64 x, .int .i64 y, .int .i64 w, .int .i64 h]] W fun e W' => e = .returned (.agg #[.int .i64 y, .int .i64 (y + h)]) ∧ Below W.heap.size W W' := by
  go_enter Tryz.func43, Tryz.ntmps43
  go_wp2
  refine bodyPost_ret (v := .agg #[.int .i64 y, .int .i64 (y + h)]) (by simp [results, Tryz.results43, go_sem]) rfl ⟨rfl, by go_grown⟩
end Go.Proofs.YtdjnaejblgheoaaGreat
/- What the program's functions of package span answer of one or two spans: none, meet, apart. (For seats that lack the rest of the package.) -/
namespace Go.Proofs.YtdjnaejblgheoaaGreat
open Go.RowKit
set_option linter.unusedVariables false
set_option linter.unusedSimpArgs false
theorem empty_any (a b : Int) (w : World) : Calls Tryz.prog 114 #[.agg #[.int .i64 a, .int .i64 b]] w fun e w' => e = .returned (.bool (decide (b ≤ a))) ∧ Below w.heap.size w w' := by
  go_enter Tryz.func114, Tryz.ntmps114
  go_wp2
  go_ret
  exact ⟨rfl, by go_grown⟩
theorem tidy_any (a b : Int) (w : World) : Calls Tryz.prog 72 #[.agg #[.int .i64 a, .int .i64 b]] w fun e w' => e = .returned (.agg #[.int .i64 (tidyS (a, b)).1, .int .i64 (tidyS (a, b)).2]) ∧ Below w.heap.size w w' := by
  by_cases h1 : b ≤ a
  · have HN := Lib.hid (tidyS_none (s := (a, b)) h1)
    go_enter Tryz.func72, Tryz.ntmps72
    go_wp2_with (go_at_call 114; refine (empty_any _ _ _).mono ?_; rintro e w1 ⟨rfl, hb⟩; obtain ⟨hc, hf⟩ := bcell hb; have hz : w.heap.size + 1 < w1.heap.size := by have := hb.size; simp at this; omega)
    refine bodyPost_ret (v := .agg #[.int .i64 0, .int .i64 0]) (by simp [results, Tryz.results72, go_sem, hc, hz]) rfl ⟨by rw [HN.out], ?_⟩
    exact Below.setCell (Below.setCell (below_then (by go_grown) hb) (by go_size) _) (by go_size) _
  · have HN := Lib.hid (tidyS_some (s := (a, b)) (by simpa using h1))
    go_enter Tryz.func72, Tryz.ntmps72
    go_wp2_with (go_at_call 114; refine (empty_any _ _ _).mono ?_; rintro e w1 ⟨rfl, hb⟩; obtain ⟨hc, hf⟩ := bcell hb; have hz : w.heap.size + 1 < w1.heap.size := by have := hb.size; simp at this; omega)
    refine bodyPost_ret (v := .agg #[.int .i64 a, .int .i64 b]) (by simp [results, Tryz.results72, go_sem, hc, hz]) rfl ⟨by rw [HN.out], ?_⟩
    exact Below.setCell (Below.setCell (below_then (by go_grown) hb) (by go_size) _) (by go_size) _
theorem tidy_to {a b p q : Int} (h1 : a = p) (h2 : b = q) (w : World) : Calls Tryz.prog 72 #[.agg #[.int .i64 a, .int .i64 b]] w fun e w' => e = .returned (.agg #[.int .i64 (tidyS (p, q)).1, .int .i64 (tidyS (p, q)).2]) ∧ Below w.heap.size w w' := by
  subst h1 h2; exact tidy_any _ _ _
theorem meet_any (a b c d : Int) (w : World) : Calls Tryz.prog 41 #[.agg #[.int .i64 a, .int .i64 b], .agg #[.int .i64 c, .int .i64 d]] w fun e w' => e = .returned (.agg #[.int .i64 (meetS (a, b) (c, d)).1, .int .i64 (meetS (a, b) (c, d)).2]) ∧ Below w.heap.size w w' := by
  unfold meetS
  go_enter Tryz.func41, Tryz.ntmps41
  go_wp2_with (go_at_call 72; refine (tidy_to (p := max a c) (q := min b d) (by omega) (by omega) _).mono ?_; rintro e w1 ⟨rfl, hb⟩; obtain ⟨hc, hf⟩ := bcell hb; have hz : w.heap.size + 1 + 1 < w1.heap.size := by have := hb.size; simp at this; omega)
  all_goals
    refine bodyPost_ret (v := .agg #[.int .i64 (tidyS (max a c, min b d)).1, .int .i64 (tidyS (max a c, min b d)).2]) (by simp [results, Tryz.results41, go_sem, hc, hz]) rfl ⟨rfl, ?_⟩
    exact Below.setCell (Below.setCell (below_then (by go_grown) hb) (by go_size) _) (by go_size) _
theorem meet_to {a b c d p q : Int} (h : meetS (a, b) (c, d) = (p, q)) (w : World) : Calls Tryz.prog 41 #[.agg #[.int .i64 a, .int .i64 b], .agg #[.int .i64 c, .int .i64 d]] w fun e w' => e = .returned (.agg #[.int .i64 p, .int .i64 q]) ∧ Below w.heap.size w w' := by
  have := meet_any a b c d w
  rw [h] at this; exact this
theorem apart_any (a b c d : Int) (w : World) : Calls Tryz.prog 169 #[.agg #[.int .i64 a, .int .i64 b], .agg #[.int .i64 c, .int .i64 d]] w fun e w' => e = .returned (.bool (decide (meetS (a, b) (c, d) = (0, 0)))) ∧ Below w.heap.size w w' := by
  rcases hm : meetS (a, b) (c, d) with ⟨p, q⟩
  have HM := Lib.hid hm
  clear hm
  go_enter Tryz.func169, Tryz.ntmps169
  go_wp2_with (go_at_call 41; refine (meet_to HM.out _).mono ?_; rintro e w1 ⟨rfl, hb⟩; obtain ⟨hc, hf⟩ := bcell hb; have hz : w.heap.size + 1 < w1.heap.size := by have := hb.size; simp at this; omega)
  all_goals
    go_ret
    exact ⟨ret_bool (by simp_all), below_then (by go_grown) hb⟩
end Go.Proofs.YtdjnaejblgheoaaGreat
/- Of package unit: Clamp, May, Add (for seats that reach no other function of it). -/
namespace Go.Proofs.YtdjnaejblgheoaaGreat
open Go.RowKit
set_option linter.unusedVariables false
set_option linter.unusedSimpArgs false
theorem clamp_any (n : Int) (w : World) : Calls Tryz.prog 112 #[.int .i64 n] w fun e w' => e = .returned (.int .i64 (lim n)) ∧ w = w' := by
  go_enter Tryz.func112, Tryz.ntmps112
  go_wp2
  all_goals go_ret
  all_goals exact ⟨ret_int (by unfold lim; omega), rfl⟩
theorem may_any (n : Int) (w : World) : Calls Tryz.prog 23 #[.int .i64 n] w fun e w' => e = .returned (.bool (decide (1 ≤ n) && decide (n ≤ 1099511627776))) ∧ w = w' := by
  by_cases h1 : 1 ≤ n <;> by_cases h2 : n ≤ 1099511627776
  all_goals
    go_enter Tryz.func23, Tryz.ntmps23
    go_wp2
    go_ret
    exact ⟨ret_bool (by simp [h1, h2]), rfl⟩
set_option maxHeartbeats 400000 in
theorem add_any (A : Option Addr) (n c : Nat) (zs : List Int) (w : World) (hz : Ints w A n zs) :
    Calls Tryz.prog 69 #[.slice A n c] w fun e w' => e = .returned (.int .i64 (sumL zs)) ∧ w = w' := by
  have hn := hz.2.1
  have HL := Lib.hid hz.1
  have HZ := Lib.hid hz
  clear hz
  go_enter Tryz.func69, Tryz.ntmps69
  go_wp2
  go_loop [3, 8] (fun s i => ∃ k : Nat, k ≤ n ∧ i = .int .i64 k ∧ s = .int .i64 (sumL (zs.take k))) (fun _ i => n - (intOf i).toNat)
  case atStart => exact ⟨0, by omega, rfl, rfl⟩
  case round =>
    obtain ⟨k, hk, rfl, rfl⟩ := hrel
    have hs := sumL_bd (zs.take k)
    by_cases hlt : k < n
    · have hl := lim_bd (zs[k]?.getD 0)
      have HT := Lib.hid (take_snoc_getD zs k (by rw [HL.out]; exact hlt))
      obtain ⟨b, off, rfl, hc⟩ := HZ.out.at_ hlt
      go_wp2_with (go_at_call 112; refine (clamp_any _ _).mono ?_; rintro e w' ⟨rfl, rfl⟩)
      go_round
      case rel => exact ⟨k + 1, by omega, by go_num, by rw [HT.out, sumL_snoc]⟩
      case measure => simp [intOf]; omega
    · go_wp2_with fail
      go_ret
      exact ⟨ret_int (by rw [List.take_of_length_le (by rw [HL.out]; omega)]), rfl⟩
end Go.Proofs.YtdjnaejblgheoaaGreat
/- The program's package valid: an odd number is looked for. -/
namespace Go.Proofs.YtdjnaejblgheoaaGreat
open Go.RowKit
set_option linter.unusedVariables false
set_option linter.unusedSimpArgs false
def oddB (a b n : Int) : Bool := !fromB n a b
theorem odd1_any (n a b : Int) (g3 g4 : Nat) (w : World) (h3 : w.cell? ⟨g3, 0, none⟩ = some (.int .i64 a)) (h4 : w.cell? ⟨g4, 0, none⟩ = some (.int .i64 b)) : Calls Tryz.prog 138 #[.int .i64 n, .pointer (some ⟨g3, 0, none⟩), .pointer (some ⟨g4, 0, none⟩)] w fun e w' => e = .returned (.bool (oddB a b n)) ∧ w = w' := by
  by_cases h : n < a
  all_goals
    go_enter Tryz.func138, Tryz.ntmps138
    go_wp2_with fail
    go_ret
    refine ⟨ret_bool ?_, rfl⟩
    rw [Bool.eq_iff_iff]
    simp [oddB, fromB] <;> omega
theorem odd1_to {n a b : Int} {v : Bool} (hv : oddB a b n = v) {g3 g4 : Nat} (w : World) (h3 : w.cell? ⟨g3, 0, none⟩ = some (.int .i64 a)) (h4 : w.cell? ⟨g4, 0, none⟩ = some (.int .i64 b)) : Calls Tryz.prog 138 #[.int .i64 n, .pointer (some ⟨g3, 0, none⟩), .pointer (some ⟨g4, 0, none⟩)] w fun e w' => e = .returned (.bool v) ∧ w = w' := by
  subst hv; exact odd1_any n a b g3 g4 w h3 h4
theorem any_at {zs : List Int} {a b : Int} {k : Nat} (hk : k < zs.length) (h : oddB a b (zs[k]?.getD 0) = true) : zs.any (oddB a b) = true := by
  rw [List.any_eq_true]
  refine ⟨zs[k], List.getElem_mem hk, ?_⟩
  simpa [hk] using h
theorem any_no {zs : List Int} {a b : Int} (h : ∀ j, j < zs.length → oddB a b (zs[j]?.getD 0) = false) : zs.any (oddB a b) = false := by
  rw [List.any_eq_false]
  intro z hz
  obtain ⟨j, hj, rfl⟩ := List.getElem_of_mem hz
  have := h j hj
  simp [hj] at this
  simp [this]
set_option maxHeartbeats 2000000 in
theorem indexf_any (zs : List Int) (a b : Int) (g3 g4 : Nat) (A : Option Addr) (n c : Nat) (w : World) (hz : Ints w A n zs) (h3 : w.cell? ⟨g3, 0, none⟩ = some (.int .i64 a)) (h4 : w.cell? ⟨g4, 0, none⟩ = some (.int .i64 b)) :
    Calls Tryz.prog 155 #[.slice A n c, .func (.func 138) #[] #[.pointer (some ⟨g3, 0, none⟩), .pointer (some ⟨g4, 0, none⟩)]] w fun e w' => ∃ i : Int, e = .returned (.int .i64 i) ∧ decide (0 ≤ i) = zs.any (oddB a b) ∧ w = w' := by
  have hl := hz.1
  have hn := hz.2.1
  have HZ := Lib.hid hz
  have H3 := Lib.hid h3
  have H4 := Lib.hid h4
  clear hz h3 h4
  go_enter Tryz.func155, Tryz.ntmps155
  go_wp2_with fail
  go_loopw [8] (fun i wr => ∃ k : Nat, k ≤ n ∧ i = .int .i64 k ∧ (∀ j, j < k → oddB a b (zs[j]?.getD 0) = false) ∧ wr = w) (fun i _ => n - (intOf i).toNat)
  case atStart => exact ⟨0, by omega, rfl, fun j hj => by omega, rfl⟩
  case round =>
    obtain ⟨k, hk, rfl, hno, rfl⟩ := hrel
    have HN := Lib.hid hno
    clear hno
    by_cases hlt : k < n
    · have hk2 : (k : Int) < (n : Int) := by omega
      obtain ⟨b1, o1, rfl, hc⟩ := HZ.out.at_ hlt
      obtain ⟨u, hu⟩ : ∃ u, zs[k]?.getD 0 = u := ⟨_, rfl⟩
      obtain ⟨v, hv⟩ : ∃ v, oddB a b u = v := ⟨_, rfl⟩
      rw [hu] at hc
      have HU := Lib.hid hu
      have HV := Lib.hid hv
      clear hv hu
      go_wp2_with fail
      refine (odd1_to HV.out _ H3.out H4.out).mono ?_
      rintro e w' ⟨rfl, rfl⟩
      cases v with
      | true =>
        have HY := Lib.hid (any_at (zs := zs) (a := a) (b := b) (k := k) (by omega) (by rw [HU.out]; exact HV.out))
        go_wp2_with fail
        go_ret
        exact ⟨_, rfl, by rw [HY.out]; simp, rfl⟩
      | false =>
        go_wp2_with fail
        go_roundw
        case rel => exact ⟨k + 1, by omega, by go_num, fun j hj => by
          by_cases e : j = k
          · subst e; rw [HU.out]; exact HV.out
          · exact HN.out j (by omega), by first | rfl | trivial⟩
        case measure => simp [intOf]; omega
    · have hk2 : (n : Int) ≤ (k : Int) := by omega
      have HY := Lib.hid (any_no (zs := zs) (a := a) (b := b) (fun j hj => HN.out j (by omega)))
      go_wp2_with fail
      go_ret
      exact ⟨_, rfl, by rw [HY.out]; simp, rfl⟩
theorem contains_any (zs : List Int) (a b : Int) (g3 g4 : Nat) (A : Option Addr) (n c : Nat) (w : World) (hz : Ints w A n zs) (h3 : w.cell? ⟨g3, 0, none⟩ = some (.int .i64 a)) (h4 : w.cell? ⟨g4, 0, none⟩ = some (.int .i64 b)) :
    Calls Tryz.prog 137 #[.slice A n c, .func (.func 138) #[] #[.pointer (some ⟨g3, 0, none⟩), .pointer (some ⟨g4, 0, none⟩)]] w fun e w' => e = .returned (.bool (zs.any (oddB a b))) ∧ w = w' := by
  have HZ := Lib.hid hz
  have H3 := Lib.hid h3
  have H4 := Lib.hid h4
  clear hz h3 h4
  go_enter Tryz.func137, Tryz.ntmps137
  go_wp2_with fail
  refine (indexf_any zs a b g3 g4 _ _ _ _ HZ.out H3.out H4.out).mono ?_
  rintro e w' ⟨i, rfl, hi, rfl⟩
  have HI := Lib.hid hi
  clear hi
  go_wp2_with fail
  go_ret
  exact ⟨ret_bool HI.out, rfl⟩
theorem cell_new1 (w : World) (v : Value) (t : TypeId) (n : Nat) (h : n = w.heap.size) : (w.alloc (.cells #[v] t)).cell? ⟨n, 0, none⟩ = some v := by subst h; exact (Box.new w [v] t).2.2 0 _ rfl
theorem podd_any (zs : List Int) (a b : Int) (A : Option Addr) (n c : Nat) (w : World) (hz : Ints w A n zs) :
    Calls Tryz.prog 103 #[.int .i64 a, .int .i64 b, .slice A n c] w fun e w' => e = .returned (.bool (zs.any (oddB a b))) ∧ Below w.heap.size w w' := by
  have HZ := Lib.hid hz
  clear hz
  go_enter Tryz.func103, Tryz.ntmps103
  go_wp2_with fail
  refine (contains_any zs a b _ _ _ _ _ _ (HZ.out.below (B := w.heap.size) (by go_grown) rfl) (On.cell (cell_new1 w _ _ _ rfl) _ (Below.alloc (Below.refl _ _) (Nat.le_refl _) _)) (cell_new1 _ _ _ _ (by simp))).mono ?_
  rintro e w' ⟨rfl, rfl⟩
  go_wp2_with fail
  go_ret
  exact ⟨rfl, by go_grown⟩
theorem podd_to {zs : List Int} {a b : Int} {v : Bool} (hv : zs.any (oddB a b) = v) {A : Option Addr} {n c : Nat} (w : World) (hz : Ints w A n zs) :
    Calls Tryz.prog 103 #[.int .i64 a, .int .i64 b, .slice A n c] w fun e w' => e = .returned (.bool v) ∧ Below w.heap.size w w' := by
  subst hv; exact podd_any zs a b A n c w hz
end Go.Proofs.YtdjnaejblgheoaaGreat
/- The document's answers for package words: how wide a run is. -/
namespace Go.Proofs.YtdjnaejblgheoaaGreat
open Go.RowKit
set_option linter.unusedVariables false
set_option linter.unusedSimpArgs false
def I64w (a : Int) : Prop := -9223372036854775808 ≤ a ∧ a ≤ 9223372036854775807
theorem wideI_bad {zs : List Int} {sp a b : Int} (h : a < 0 ∨ (zs.length : Int) ≤ a ∨ b ≤ a ∨ (zs.length : Int) < b) : wideI zs sp a b = 0 := by
  unfold wideI
  split
  · unfold wideN
    rw [if_neg (by omega)]
  · rfl
end Go.Proofs.YtdjnaejblgheoaaGreat
/- The program's functions of package margin that move a pen behind a pointer. -/
namespace Go.Proofs.YtdjnaejblgheoaaGreat
open Go.RowKit
set_option linter.unusedVariables false
set_option linter.unusedSimpArgs false
/-- a moved pen's cells. -/
def mvd (y m : Int) (A : Option Addr) (n c : Nat) : List Value := [.int .i64 y, .int .i64 m, .slice A n c]
theorem mvd_of {w : World} {k : Nat} {y m : Int} {A : Option Addr} {n c : Nat} (h : Box w k (mvd y m A n c)) : (w.cell? ⟨k, 0, none⟩ = some (.int .i64 y) ∧ w.cell? ⟨k, 1, none⟩ = some (.int .i64 m) ∧ w.cell? ⟨k, 2, none⟩ = some (.slice A n c)) ∧ (w.frozen? ⟨k, 0, none⟩ = false ∧ w.frozen? ⟨k, 1, none⟩ = false ∧ w.frozen? ⟨k, 2, none⟩ = false) ∧ k < w.heap.size :=
  ⟨⟨h.2.2 0 _ rfl, h.2.2 1 _ rfl, h.2.2 2 _ rfl⟩, ⟨h.2.1 _, h.2.1 _, h.2.1 _⟩, h.1⟩
theorem grown_set13 {w w' : World} {k j : Nat} {v : Value} (h : w.grownBy w' (some k)) : w.grownBy (w'.setCell ⟨k, j, none⟩ v) (some k) := h.trans (grownBy_setCellN w' k j v)
theorem grown_below13 {w w' : World} {row : Option Nat} (h : Below w.heap.size w w') : w.grownBy w' row := ⟨h.os, h.tape, h.output, h.size, fun k hk _ => h.block k hk⟩
theorem place13_to {y m : Int} (A : Option Addr) (n c : Nat) (hw : IntKind.i64.wrap (y + m) = y + m) (w : World) : Calls Tryz.prog 46 #[.agg #[.int .i64 y, .int .i64 m, .slice A n c]] w fun e w' => e = .returned (.int .i64 (y + m)) ∧ Below w.heap.size w w' := by
  go_enter Tryz.func46, Tryz.ntmps46
  go_wp2_with fail
  go_ret
  exact ⟨rfl, by go_grown⟩
theorem down13_to {y0 m0 y : Int} {A : Option Addr} {n c k : Nat} {w : World} (hX : Box w k (mvd y0 m0 A n c)) : Calls Tryz.prog 117 #[.pointer (some ⟨k, 0, none⟩), .int .i64 y] w fun e w' => e = .returned (.tuple #[]) ∧ Box w' k (mvd y 0 A n c) ∧ w.grownBy w' (some k) := by
  have HX := Lib.hid hX
  obtain ⟨⟨c0, c1, c2⟩, ⟨f0, f1, f2⟩, hlt⟩ := mvd_of hX
  clear hX
  go_enter Tryz.func117, Tryz.ntmps117
  go_wp2_with fail
  go_end0
  exact ⟨rfl, (HX.out.set 0 (.int .i64 y) (by simp [mvd])).set 1 (.int .i64 0) (by simp [mvd]), grown_set13 (grown_set13 (World.grownBy.refl _ _))⟩
theorem collapse13_to {y m a g : Int} (hg : raiseI m a = g) {A : Option Addr} {n c k : Nat} {w : World} (hX : Box w k (mvd y m A n c)) : Calls Tryz.prog 115 #[.pointer (some ⟨k, 0, none⟩), .int .i64 a] w fun e w' => e = .returned (.tuple #[]) ∧ Box w' k (mvd y g A n c) ∧ w.grownBy w' (some k) := by
  rw [raiseI_max] at hg
  have HG := Lib.hid hg
  have HX := Lib.hid hX
  obtain ⟨⟨c0, c1, c2⟩, ⟨f0, f1, f2⟩, hlt⟩ := mvd_of hX
  clear hX hg
  go_enter Tryz.func115, Tryz.ntmps115
  go_wp2_with fail
  go_end0
  exact ⟨rfl, by rw [← HG.out]; exact HX.out.set 1 (.int .i64 (max m a)) (by simp [mvd]), grown_set13 (World.grownBy.refl _ _)⟩
theorem pad13_to {y m d y' m' : Int} (hv : (if 0 < d then (y + m + d, 0) else (y, m)) = (y', m')) (hw1 : IntKind.i64.wrap (y + m) = y + m) (hw2 : IntKind.i64.wrap (y + m + d) = y + m + d) {A : Option Addr} {n c k : Nat} {w : World} (hX : Box w k (mvd y m A n c)) : Calls Tryz.prog 116 #[.pointer (some ⟨k, 0, none⟩), .int .i64 d] w fun e w' => e = .returned (.tuple #[]) ∧ Box w' k (mvd y' m' A n c) ∧ w.grownBy w' (some k) := by
  have HX := Lib.hid hX
  obtain ⟨⟨c0, c1, c2⟩, ⟨f0, f1, f2⟩, hlt⟩ := mvd_of hX
  clear hX
  by_cases hd : 0 < d
  · have HV := Lib.hid (show (y + m + d, 0) = (y', m') by rw [← hv, if_pos hd])
    clear hv
    go_enter Tryz.func116, Tryz.ntmps116
    go_wp2_with fail
    refine (place13_to A n c hw1 _).mono ?_
    rintro e w1 ⟨rfl, hb⟩
    have HB := Lib.hid hb
    have HX1 := Lib.hid (HX.out.below hb)
    clear hb c0 c1 c2 f0 f1 f2 HX
    go_wp2_with fail
    refine (down13_to HX1.out).mono ?_
    rintro e w2 ⟨rfl, hX2, hg⟩
    have HX2 := Lib.hid hX2
    have HG := Lib.hid ((grown_below13 HB.out).trans hg)
    clear hX2 hg HX1 HB
    have he := HV.out
    injection he with e1 e2
    subst e1 e2
    clear HV
    go_wp2_with fail
    go_end0
    exact ⟨rfl, HX2.out, HG.out⟩
  · have HV := Lib.hid (show (y, m) = (y', m') by rw [← hv, if_neg hd])
    have hdn := Int.not_lt.1 hd
    clear hv hd
    go_enter Tryz.func116, Tryz.ntmps116
    go_wp2_with fail
    go_end0
    have he := HV.out
    injection he with e1 e2
    subst e1 e2
    exact ⟨rfl, HX.out, World.grownBy.refl _ _⟩
theorem clear13_to {y m d y' m' : Int} (hv : clearP (y, m) d = (y', m')) (hw1 : IntKind.i64.wrap (y + m) = y + m) {A : Option Addr} {n c k : Nat} {w : World} (hX : Box w k (mvd y m A n c)) : Calls Tryz.prog 78 #[.pointer (some ⟨k, 0, none⟩), .int .i64 d] w fun e w' => e = .returned (.tuple #[]) ∧ Box w' k (mvd y' m' A n c) ∧ w.grownBy w' (some k) := by
  have HX := Lib.hid hX
  obtain ⟨⟨c0, c1, c2⟩, ⟨f0, f1, f2⟩, hlt⟩ := mvd_of hX
  clear hX
  unfold clearP at hv
  by_cases hd : y + m < d
  · have HV := Lib.hid (show (d, 0) = (y', m') by rw [← hv, if_pos hd])
    clear hv
    go_enter Tryz.func78, Tryz.ntmps78
    go_wp2_with fail
    refine (place13_to A n c hw1 _).mono ?_
    rintro e w1 ⟨rfl, hb⟩
    have HB := Lib.hid hb
    have HX1 := Lib.hid (HX.out.below hb)
    clear hb c0 c1 c2 f0 f1 f2 HX
    go_wp2_with fail
    refine (down13_to HX1.out).mono ?_
    rintro e w2 ⟨rfl, hX2, hg⟩
    have HX2 := Lib.hid hX2
    have HG := Lib.hid ((grown_below13 HB.out).trans hg)
    clear hX2 hg HX1 HB
    have he := HV.out
    injection he with e1 e2
    subst e1 e2
    clear HV
    go_wp2_with fail
    go_end0
    exact ⟨rfl, HX2.out, HG.out⟩
  · have HV := Lib.hid (show (y, m) = (y', m') by rw [← hv, if_neg hd])
    have hdn := Int.not_lt.1 hd
    clear hv hd
    go_enter Tryz.func78, Tryz.ntmps78
    go_wp2_with fail
    refine (place13_to A n c hw1 _).mono ?_
    rintro e w1 ⟨rfl, hb⟩
    have HB := Lib.hid hb
    have HX1 := Lib.hid (HX.out.below hb)
    clear hb c0 c1 c2 f0 f1 f2 HX
    go_wp2_with fail
    go_end0
    have he := HV.out
    injection he with e1 e2
    subst e1 e2
    exact ⟨rfl, HX1.out, grown_below13 HB.out⟩
theorem put13_to {y m a d : Int} (hw : IntKind.i64.wrap (a + d) = a + d) {A : Option Addr} {n c k : Nat} {w : World} (hX : Box w k (mvd y m A n c)) : Calls Tryz.prog 80 #[.pointer (some ⟨k, 0, none⟩), .int .i64 a, .int .i64 d] w fun e w' => e = .returned (.tuple #[]) ∧ Box w' k (mvd (a + d) 0 A n c) ∧ w.grownBy w' (some k) := by
  have HX := Lib.hid hX
  clear hX
  go_enter Tryz.func80, Tryz.ntmps80
  go_wp2_with fail
  refine (down13_to HX.out).mono ?_
  rintro e w2 ⟨rfl, hX2, hg⟩
  have HX2 := Lib.hid hX2
  have HG := Lib.hid hg
  clear hX2 hg HX
  go_wp2_with fail
  go_end0
  exact ⟨rfl, HX2.out, HG.out⟩
theorem enter13_to {y m a d y' m' : Int} (hv : enterP (y, m) a d = (y', m')) (hw1 : IntKind.i64.wrap (y + raiseI m a) = y + raiseI m a) (hw2 : IntKind.i64.wrap (y + raiseI m a + d) = y + raiseI m a + d) {A : Option Addr} {n c k : Nat} {w : World} (hX : Box w k (mvd y m A n c)) : Calls Tryz.prog 74 #[.pointer (some ⟨k, 0, none⟩), .int .i64 a, .int .i64 d] w fun e w' => e = .returned (.tuple #[]) ∧ Box w' k (mvd y' m' A n c) ∧ w.grownBy w' (some k) := by
  have HX := Lib.hid hX
  have HV := Lib.hid hv
  have HW1 := Lib.hid hw1
  have HW2 := Lib.hid hw2
  clear hX hv hw1 hw2
  go_enter Tryz.func74, Tryz.ntmps74
  go_wp2_with fail
  refine (collapse13_to rfl HX.out).mono ?_
  rintro e w1 ⟨rfl, hX1, hg1⟩
  have HX1 := Lib.hid hX1
  have HG1 := Lib.hid hg1
  clear hX1 hg1 HX
  go_wp2_with fail
  refine (pad13_to HV.out HW1.out HW2.out HX1.out).mono ?_
  rintro e w2 ⟨rfl, hX2, hg⟩
  have HX2 := Lib.hid hX2
  have HG := Lib.hid (HG1.out.trans hg)
  clear hX2 hg HX1 HG1
  go_wp2_with fail
  go_end0
  exact ⟨rfl, HX2.out, HG.out⟩
theorem leave13_to {y m a d y' m' : Int} (hv : leaveP (y, m) a d = (y', m')) (hw1 : IntKind.i64.wrap (y + m) = y + m) (hw2 : IntKind.i64.wrap (y + m + d) = y + m + d) {A : Option Addr} {n c k : Nat} {w : World} (hX : Box w k (mvd y m A n c)) : Calls Tryz.prog 76 #[.pointer (some ⟨k, 0, none⟩), .int .i64 a, .int .i64 d] w fun e w' => e = .returned (.tuple #[]) ∧ Box w' k (mvd y' m' A n c) ∧ w.grownBy w' (some k) := by
  have HX := Lib.hid hX
  obtain ⟨y1, m1, h1⟩ : ∃ y1 m1, (if 0 < d then (y + m + d, 0) else (y, m)) = (y1, m1) := ⟨_, _, rfl⟩
  have hv2 : (y1, raiseI m1 a) = (y', m') := by
    rw [← hv]
    unfold leaveP
    by_cases hd : 0 < d
    · rw [if_pos hd] at h1 ⊢
      injection h1 with e1 e2
      subst e1 e2
      rfl
    · rw [if_neg hd] at h1 ⊢
      injection h1 with e1 e2
      subst e1 e2
      rfl
  have HV := Lib.hid hv2
  have H1 := Lib.hid h1
  have HW1 := Lib.hid hw1
  have HW2 := Lib.hid hw2
  clear hX hv hw1 hw2 hv2 h1
  go_enter Tryz.func76, Tryz.ntmps76
  go_wp2_with fail
  refine (pad13_to H1.out HW1.out HW2.out HX.out).mono ?_
  rintro e w1 ⟨rfl, hX1, hg1⟩
  have HX1 := Lib.hid hX1
  have HG1 := Lib.hid hg1
  clear hX1 hg1 HX
  go_wp2_with fail
  refine (collapse13_to rfl HX1.out).mono ?_
  rintro e w2 ⟨rfl, hX2, hg⟩
  have HX2 := Lib.hid hX2
  have HG := Lib.hid (HG1.out.trans hg)
  clear hX2 hg HX1 HG1
  go_wp2_with fail
  go_end0
  have he := HV.out
  injection he with e1 e2
  exact ⟨rfl, by rw [← e1, ← e2]; exact HX2.out, HG.out⟩
end Go.Proofs.YtdjnaejblgheoaaGreat
/- The program's functions of package margin: each step of a pen alone. -/
namespace Go.Proofs.YtdjnaejblgheoaaGreat
open Go.RowKit
set_option linter.unusedVariables false
set_option linter.unusedSimpArgs false
theorem nearI_open {a : Int} (h : NearI a) : -1125899906842624 ≤ a ∧ a ≤ 1125899906842624 := h
theorem box_newN (w : World) (vs : List Value) (t : TypeId) (n : Nat) (h : n = w.heap.size) : Box (w.alloc (.cells vs.toArray t)) n vs := by subst h; exact Box.new w vs t
theorem at13_to {y m : Int} {w : World} (hy : NearI y) (hm : NearI m) : Calls Tryz.prog 19 #[.agg #[.int .i64 y, .int .i64 m]] w fun e w' => e = .returned (.int .i64 (y + m)) ∧ Below w.heap.size w w' := by
  obtain ⟨y1, y2⟩ := nearI_open hy
  obtain ⟨m1, m2⟩ := nearI_open hm
  have hw : IntKind.i64.wrap (y + m) = y + m := wrap_far (by omega)
  clear hy hm
  go_enter Tryz.func19, Tryz.ntmps19
  go_wp2_with fail
  refine (place13_to none 0 0 hw _).mono ?_
  rintro e w1 ⟨rfl, hb⟩
  have HB := Lib.hid hb
  clear hb
  go_wp2_with fail
  go_ret
  exact ⟨rfl, below_then (by go_grown) HB.out⟩
theorem enter13_top {y m a d y' m' : Int} {w : World} (hv : enterP (y, m) a d = (y', m')) (hy : NearI y) (hm : NearI m) (ha : NearI a) (hd : NearI d) : Calls Tryz.prog 85 #[.agg #[.int .i64 y, .int .i64 m], .int .i64 a, .int .i64 d] w fun e w' => e = .returned (.agg #[.int .i64 y', .int .i64 m']) ∧ Below w.heap.size w w' := by
  obtain ⟨y1, y2⟩ := nearI_open hy
  obtain ⟨m1, m2⟩ := nearI_open hm
  obtain ⟨a1, a2⟩ := nearI_open ha
  obtain ⟨d1, d2⟩ := nearI_open hd
  have hr : -1125899906842624 ≤ raiseI m a ∧ raiseI m a ≤ 1125899906842624 := by unfold raiseI; split <;> omega
  have HW1 := Lib.hid (show IntKind.i64.wrap (y + raiseI m a) = y + raiseI m a from wrap_far (by omega))
  have HW2 := Lib.hid (show IntKind.i64.wrap (y + raiseI m a + d) = y + raiseI m a + d from wrap_far (by omega))
  have HV := Lib.hid hv
  clear hv
  go_enter Tryz.func85, Tryz.ntmps85
  go_wp2_with fail
  generalize hW : World.alloc (World.alloc (World.alloc w _) _) _ = W
  have HX := Lib.hid (show Box W (w.heap.size + 1 + 1) (mvd y m none 0 0) by rw [← hW]; exact box_newN _ (mvd y m none 0 0) _ _ (by simp))
  have HR := Lib.hid (show Box W (w.heap.size + 1) [.int .i64 0, .int .i64 0] by rw [← hW]; exact (Box.new2' _ _ _ _ _ (by simp)).alloc _)
  have HB := Lib.hid (show Below w.heap.size w W by rw [← hW]; go_grown)
  clear hW
  refine (enter13_to HV.out HW1.out HW2.out HX.out).mono ?_
  rintro e w1 ⟨rfl, hX1, hg⟩
  have HX1 := Lib.hid hX1
  have HR1 := Lib.hid (HR.out.grown hg (fun k hk => by injection hk with hk; omega))
  have HB1 := Lib.hid (Below.grown HB.out hg HB.out.size (fun j hj => by injection hj with hj; omega))
  clear hX1 hg HX HR HB
  obtain ⟨⟨c0, c1, c2⟩, _, hlt⟩ := mvd_of HX1.out
  obtain ⟨r0, r1, f0, f1, hlr⟩ := HR1.out.of2
  go_wp2_with fail
  exact bodyPost_ret (v := .agg #[.int .i64 y', .int .i64 m']) (by simp [results, Tryz.results85, go_sem, r0, r1]) rfl ⟨rfl, (HB1.out.setCell (by simp) _).setCell (by simp) _⟩
theorem leave13_top {y m a d y' m' : Int} {w : World} (hv : leaveP (y, m) a d = (y', m')) (hy : NearI y) (hm : NearI m) (ha : NearI a) (hd : NearI d) : Calls Tryz.prog 86 #[.agg #[.int .i64 y, .int .i64 m], .int .i64 a, .int .i64 d] w fun e w' => e = .returned (.agg #[.int .i64 y', .int .i64 m']) ∧ Below w.heap.size w w' := by
  obtain ⟨y1, y2⟩ := nearI_open hy
  obtain ⟨m1, m2⟩ := nearI_open hm
  obtain ⟨a1, a2⟩ := nearI_open ha
  obtain ⟨d1, d2⟩ := nearI_open hd
  have HW1 := Lib.hid (show IntKind.i64.wrap (y + m) = y + m from wrap_far (by omega))
  have HW2 := Lib.hid (show IntKind.i64.wrap (y + m + d) = y + m + d from wrap_far (by omega))
  have HV := Lib.hid hv
  clear hv
  go_enter Tryz.func86, Tryz.ntmps86
  go_wp2_with fail
  generalize hW : World.alloc (World.alloc (World.alloc w _) _) _ = W
  have HX := Lib.hid (show Box W (w.heap.size + 1 + 1) (mvd y m none 0 0) by rw [← hW]; exact box_newN _ (mvd y m none 0 0) _ _ (by simp))
  have HR := Lib.hid (show Box W (w.heap.size + 1) [.int .i64 0, .int .i64 0] by rw [← hW]; exact (Box.new2' _ _ _ _ _ (by simp)).alloc _)
  have HB := Lib.hid (show Below w.heap.size w W by rw [← hW]; go_grown)
  clear hW
  refine (leave13_to HV.out HW1.out HW2.out HX.out).mono ?_
  rintro e w1 ⟨rfl, hX1, hg⟩
  have HX1 := Lib.hid hX1
  have HR1 := Lib.hid (HR.out.grown hg (fun k hk => by injection hk with hk; omega))
  have HB1 := Lib.hid (Below.grown HB.out hg HB.out.size (fun j hj => by injection hj with hj; omega))
  clear hX1 hg HX HR HB
  obtain ⟨⟨c0, c1, c2⟩, _, hlt⟩ := mvd_of HX1.out
  obtain ⟨r0, r1, f0, f1, hlr⟩ := HR1.out.of2
  go_wp2_with fail
  exact bodyPost_ret (v := .agg #[.int .i64 y', .int .i64 m']) (by simp [results, Tryz.results86, go_sem, r0, r1]) rfl ⟨rfl, (HB1.out.setCell (by simp) _).setCell (by simp) _⟩
theorem clear13_top {y m a y' m' : Int} {w : World} (hv : clearP (y, m) a = (y', m')) (hy : NearI y) (hm : NearI m) (ha : NearI a) : Calls Tryz.prog 84 #[.agg #[.int .i64 y, .int .i64 m], .int .i64 a] w fun e w' => e = .returned (.agg #[.int .i64 y', .int .i64 m']) ∧ Below w.heap.size w w' := by
  obtain ⟨y1, y2⟩ := nearI_open hy
  obtain ⟨m1, m2⟩ := nearI_open hm
  obtain ⟨a1, a2⟩ := nearI_open ha
  have HW1 := Lib.hid (show IntKind.i64.wrap (y + m) = y + m from wrap_far (by omega))
  have HV := Lib.hid hv
  clear hv
  go_enter Tryz.func84, Tryz.ntmps84
  go_wp2_with fail
  generalize hW : World.alloc (World.alloc (World.alloc w _) _) _ = W
  have HX := Lib.hid (show Box W (w.heap.size + 1 + 1) (mvd y m none 0 0) by rw [← hW]; exact box_newN _ (mvd y m none 0 0) _ _ (by simp))
  have HR := Lib.hid (show Box W (w.heap.size + 1) [.int .i64 0, .int .i64 0] by rw [← hW]; exact (Box.new2' _ _ _ _ _ (by simp)).alloc _)
  have HB := Lib.hid (show Below w.heap.size w W by rw [← hW]; go_grown)
  clear hW
  refine (clear13_to HV.out HW1.out HX.out).mono ?_
  rintro e w1 ⟨rfl, hX1, hg⟩
  have HX1 := Lib.hid hX1
  have HR1 := Lib.hid (HR.out.grown hg (fun k hk => by injection hk with hk; omega))
  have HB1 := Lib.hid (Below.grown HB.out hg HB.out.size (fun j hj => by injection hj with hj; omega))
  clear hX1 hg HX HR HB
  obtain ⟨⟨c0, c1, c2⟩, _, hlt⟩ := mvd_of HX1.out
  obtain ⟨r0, r1, f0, f1, hlr⟩ := HR1.out.of2
  go_wp2_with fail
  exact bodyPost_ret (v := .agg #[.int .i64 y', .int .i64 m']) (by simp [results, Tryz.results84, go_sem, r0, r1]) rfl ⟨rfl, (HB1.out.setCell (by simp) _).setCell (by simp) _⟩
theorem put13_top {y m a d : Int} {w : World} (ha : NearI a) (hd : NearI d) : Calls Tryz.prog 124 #[.agg #[.int .i64 y, .int .i64 m], .int .i64 a, .int .i64 d] w fun e w' => e = .returned (.agg #[.int .i64 (a + d), .int .i64 0]) ∧ Below w.heap.size w w' := by
  obtain ⟨a1, a2⟩ := nearI_open ha
  obtain ⟨d1, d2⟩ := nearI_open hd
  have HW1 := Lib.hid (show IntKind.i64.wrap (a + d) = a + d from wrap_far (by omega))
  go_enter Tryz.func124, Tryz.ntmps124
  go_wp2_with fail
  generalize hW : World.alloc (World.alloc (World.alloc w _) _) _ = W
  have HX := Lib.hid (show Box W (w.heap.size + 1 + 1) (mvd y m none 0 0) by rw [← hW]; exact box_newN _ (mvd y m none 0 0) _ _ (by simp))
  have HR := Lib.hid (show Box W (w.heap.size + 1) [.int .i64 0, .int .i64 0] by rw [← hW]; exact (Box.new2' _ _ _ _ _ (by simp)).alloc _)
  have HB := Lib.hid (show Below w.heap.size w W by rw [← hW]; go_grown)
  clear hW
  refine (put13_to HW1.out HX.out).mono ?_
  rintro e w1 ⟨rfl, hX1, hg⟩
  have HX1 := Lib.hid hX1
  have HR1 := Lib.hid (HR.out.grown hg (fun k hk => by injection hk with hk; omega))
  have HB1 := Lib.hid (Below.grown HB.out hg HB.out.size (fun j hj => by injection hj with hj; omega))
  clear hX1 hg HX HR HB
  obtain ⟨⟨c0, c1, c2⟩, _, hlt⟩ := mvd_of HX1.out
  obtain ⟨r0, r1, f0, f1, hlr⟩ := HR1.out.of2
  go_wp2_with fail
  exact bodyPost_ret (v := .agg #[.int .i64 (a + d), .int .i64 0]) (by simp [results, Tryz.results124, go_sem, r0, r1]) rfl ⟨rfl, (HB1.out.setCell (by simp) _).setCell (by simp) _⟩
end Go.Proofs.YtdjnaejblgheoaaGreat
/- Rows of nodes that come in: each node's cells, its words. (Written by program: tools/drafts/gennodeopen.py.) -/
namespace Go.Proofs.YtdjnaejblgheoaaGreat
open Go.ChangeShapes Go.WideShapes Go.ChangeAt Go.RowKit Go.Joins
set_option linter.unusedVariables false
set_option linter.unusedSimpArgs false
theorem cellsNode : Tryz.prog.cellsOf 40 = 20 := by kernel_rfl
theorem cellsStyle : Tryz.prog.cellsOf 37 = 12 := by kernel_rfl
theorem cellsInt5 : Tryz.prog.cellsOf 3 = 1 := by kernel_rfl
theorem cellsInts5 : Tryz.prog.cellsOf 38 = 1 := by kernel_rfl
section
variable {H : Type} {enc : TypeId × Value → H} {W : World}
theorem trod_field {fs : Array Field} {t : TypeId} {fuel : Nat} {cs : List Value} {x : DataW H × List MemPlace} (ht : Tryz.prog.underlying t = some (.struct fs)) (h : DataW.trod enc Tryz.prog W 0 (fun _ => true) true fuel t cs = some x) :
    cs.length = Tryz.prog.cellsOf t ∧ ∃ n, ∀ (i : Nat) (f : Field), fs[i]? = some f → ∃ y, DataW.trod enc Tryz.prog W 0 (fun _ => true) true n f.type ((cs.drop f.offset).take (Tryz.prog.cellsOf f.type)) = some y := by
  obtain ⟨xs, n, _, _, hl, hlen, hf⟩ := DataW.trod_struct ht h
  refine ⟨hl, n, fun i f hi => ?_⟩
  have hlt : i < xs.length := by rw [hlen]; exact (Array.getElem?_eq_some_iff.1 hi).1
  exact ⟨xs[i], by rw [hf i f hi, List.getElem?_eq_getElem hlt]⟩
theorem trod_words {fuel : Nat} {cs : List Value} {x : DataW H × List MemPlace} (h : DataW.trod enc Tryz.prog W 0 (fun _ => true) true fuel 38 cs = some x) : ∃ A n c zs, cs = [.slice A n c] ∧ Ints W A n zs := by
  rcases open_ints Tryz.underlying38 Tryz.underlying3 cellsInt5 h with ⟨hcs, _⟩ | ⟨a, len, cap, zs, hcs, _, hl, hm, hz, _, hcell, hw⟩
  · exact ⟨none, 0, 0, [], hcs, Ints.nil _ _⟩
  · simp only [if_true] at hz
    refine ⟨_, len, cap, zs.take len, hcs, ⟨by rw [List.length_take]; omega, by unfold maxLen at hm; omega, fun hn => ?_⟩⟩
    obtain ⟨b, off, spot⟩ := a
    have hspot : spot = none := by simpa [Addr.add] using World.cell?_spot (hcell 0 (by omega))
    subst hspot
    have hc0 : ∀ k, k < len → W.cell? ⟨b, off + k, none⟩ = some (.int .i64 ((zs.take len)[k]?.getD 0)) := by
      intro k hk
      rw [← add_plain, hcell k (by omega)]
      simp [hk]
    exact ⟨b, off, rfl, cell_lt (hc0 0 hn), hc0⟩
set_option maxRecDepth 100000 in
theorem trod_sty {fuel : Nat} {cs : List Value} {x : DataW H × List MemPlace} (h : DataW.trod enc Tryz.prog W 0 (fun _ => true) true fuel 37 cs = some x) : ∃ s : Sty, cs = encS12 s := by
  obtain ⟨hl, n, hf⟩ := trod_field Tryz.underlying37 h
  rw [cellsStyle] at hl
  match cs, hl with
  | [x0, x1, x2, x3, x4, x5, x6, x7, x8, x9, x10, x11], _ =>
    obtain ⟨y0, h0⟩ := hf 0 _ rfl
    simp only [List.getElem_toArray, List.getElem_cons_zero, List.getElem_cons_succ, cellsInt5] at h0
    obtain ⟨a0, e0, _, _⟩ := DataW.trod_int Tryz.underlying3 h0
    simp at e0
    subst e0
    obtain ⟨y1, h1⟩ := hf 1 _ rfl
    simp only [List.getElem_toArray, List.getElem_cons_zero, List.getElem_cons_succ, cellsInt5] at h1
    obtain ⟨a1, e1, _, _⟩ := DataW.trod_int Tryz.underlying3 h1
    simp at e1
    subst e1
    obtain ⟨y2, h2⟩ := hf 2 _ rfl
    simp only [List.getElem_toArray, List.getElem_cons_zero, List.getElem_cons_succ, cellsInt5] at h2
    obtain ⟨a2, e2, _, _⟩ := DataW.trod_int Tryz.underlying3 h2
    simp at e2
    subst e2
    obtain ⟨y3, h3⟩ := hf 3 _ rfl
    simp only [List.getElem_toArray, List.getElem_cons_zero, List.getElem_cons_succ, cellsInt5] at h3
    obtain ⟨a3, e3, _, _⟩ := DataW.trod_int Tryz.underlying3 h3
    simp at e3
    subst e3
    obtain ⟨y4, h4⟩ := hf 4 _ rfl
    simp only [List.getElem_toArray, List.getElem_cons_zero, List.getElem_cons_succ, cellsInt5] at h4
    obtain ⟨a4, e4, _, _⟩ := DataW.trod_int Tryz.underlying3 h4
    simp at e4
    subst e4
    obtain ⟨y5, h5⟩ := hf 5 _ rfl
    simp only [List.getElem_toArray, List.getElem_cons_zero, List.getElem_cons_succ, cellsInt5] at h5
    obtain ⟨a5, e5, _, _⟩ := DataW.trod_int Tryz.underlying3 h5
    simp at e5
    subst e5
    obtain ⟨y6, h6⟩ := hf 6 _ rfl
    simp only [List.getElem_toArray, List.getElem_cons_zero, List.getElem_cons_succ, cellsInt5] at h6
    obtain ⟨a6, e6, _, _⟩ := DataW.trod_int Tryz.underlying3 h6
    simp at e6
    subst e6
    obtain ⟨y7, h7⟩ := hf 7 _ rfl
    simp only [List.getElem_toArray, List.getElem_cons_zero, List.getElem_cons_succ, cellsInt5] at h7
    obtain ⟨a7, e7, _, _⟩ := DataW.trod_int Tryz.underlying3 h7
    simp at e7
    subst e7
    obtain ⟨y8, h8⟩ := hf 8 _ rfl
    simp only [List.getElem_toArray, List.getElem_cons_zero, List.getElem_cons_succ, cellsInt5] at h8
    obtain ⟨a8, e8, _, _⟩ := DataW.trod_int Tryz.underlying3 h8
    simp at e8
    subst e8
    obtain ⟨y9, h9⟩ := hf 9 _ rfl
    simp only [List.getElem_toArray, List.getElem_cons_zero, List.getElem_cons_succ, cellsInt5] at h9
    obtain ⟨a9, e9, _, _⟩ := DataW.trod_int Tryz.underlying3 h9
    simp at e9
    subst e9
    obtain ⟨y10, h10⟩ := hf 10 _ rfl
    simp only [List.getElem_toArray, List.getElem_cons_zero, List.getElem_cons_succ, cellsInt5] at h10
    obtain ⟨a10, e10, _, _⟩ := DataW.trod_int Tryz.underlying3 h10
    simp at e10
    subst e10
    obtain ⟨y11, h11⟩ := hf 11 _ rfl
    simp only [List.getElem_toArray, List.getElem_cons_zero, List.getElem_cons_succ, cellsInt5] at h11
    obtain ⟨a11, e11, _, _⟩ := DataW.trod_int Tryz.underlying3 h11
    simp at e11
    subst e11
    exact ⟨⟨a0, a1, a2, a3, a4, a5, a6, a7, a8, a9, a10, a11⟩, rfl⟩
set_option maxRecDepth 100000 in
theorem trod_node {fuel : Nat} {cs : List Value} {x : DataW H × List MemPlace} (h : DataW.trod enc Tryz.prog W 0 (fun _ => true) true fuel 40 cs = some x) : ∃ m : NdM, cs = encM m ∧ ∃ ws, Ints W m.A m.n ws := by
  obtain ⟨hl, n, hf⟩ := trod_field Tryz.underlying40 h
  rw [cellsNode] at hl
  match cs, hl with
  | [x0, x1, x2, x3, x4, x5, x6, x7, x8, x9, x10, x11, x12, x13, x14, x15, x16, x17, x18, x19], _ =>
    obtain ⟨y0, h0⟩ := hf 0 _ rfl
    simp only [List.getElem_toArray, List.getElem_cons_zero, List.getElem_cons_succ, cellsInt5] at h0
    obtain ⟨a0, e0, _, _⟩ := DataW.trod_int Tryz.underlying3 h0
    simp at e0
    subst e0
    obtain ⟨y1, h1⟩ := hf 1 _ rfl
    simp only [List.getElem_toArray, List.getElem_cons_zero, List.getElem_cons_succ, cellsInt5] at h1
    obtain ⟨a1, e1, _, _⟩ := DataW.trod_int Tryz.underlying3 h1
    simp at e1
    subst e1
    obtain ⟨y3, h3⟩ := hf 3 _ rfl
    simp only [List.getElem_toArray, List.getElem_cons_zero, List.getElem_cons_succ, cellsInt5] at h3
    obtain ⟨a3, e3, _, _⟩ := DataW.trod_int Tryz.underlying3 h3
    simp at e3
    subst e3
    obtain ⟨y4, h4⟩ := hf 4 _ rfl
    simp only [List.getElem_toArray, List.getElem_cons_zero, List.getElem_cons_succ, cellsInt5] at h4
    obtain ⟨a4, e4, _, _⟩ := DataW.trod_int Tryz.underlying3 h4
    simp at e4
    subst e4
    obtain ⟨y6, h6⟩ := hf 6 _ rfl
    simp only [List.getElem_toArray, List.getElem_cons_zero, List.getElem_cons_succ, cellsInt5] at h6
    obtain ⟨a6, e6, _, _⟩ := DataW.trod_int Tryz.underlying3 h6
    simp at e6
    subst e6
    obtain ⟨y7, h7⟩ := hf 7 _ rfl
    simp only [List.getElem_toArray, List.getElem_cons_zero, List.getElem_cons_succ, cellsInt5] at h7
    obtain ⟨a7, e7, _, _⟩ := DataW.trod_int Tryz.underlying3 h7
    simp at e7
    subst e7
    obtain ⟨y8, h8⟩ := hf 8 _ rfl
    simp only [List.getElem_toArray, List.getElem_cons_zero, List.getElem_cons_succ, cellsInt5] at h8
    obtain ⟨a8, e8, _, _⟩ := DataW.trod_int Tryz.underlying3 h8
    simp at e8
    subst e8
    obtain ⟨y2, h2⟩ := hf 2 _ rfl
    simp only [List.getElem_toArray, List.getElem_cons_zero, List.getElem_cons_succ, cellsStyle] at h2
    obtain ⟨s, e2⟩ := trod_sty h2
    simp [encS12] at e2
    obtain ⟨rfl, rfl, rfl, rfl, rfl, rfl, rfl, rfl, rfl, rfl, rfl, rfl⟩ := e2
    obtain ⟨y5, h5⟩ := hf 5 _ rfl
    simp only [List.getElem_toArray, List.getElem_cons_zero, List.getElem_cons_succ, cellsInts5] at h5
    obtain ⟨A, k, c, ws, e5, hws⟩ := trod_words h5
    simp at e5
    subst e5
    exact ⟨⟨a0, a1, s, a3, a4, A, k, c, a6, a7, a8⟩, rfl, ws, hws⟩
theorem shows_list : ∀ (zs : List NdM), (∀ z ∈ zs, ∃ ws, Ints W z.A z.n ws) → ∃ l : List Nd, zs.length = l.length ∧ ∀ (i : Nat) (m : NdM) (x : Nd), zs[i]? = some m → l[i]? = some x → Shows W m x
  | [], _ => ⟨[], rfl, fun i m x h => by simp at h⟩
  | z :: zs, hz => by
    obtain ⟨ws, hw⟩ := hz z (by simp)
    obtain ⟨l, h1, h2⟩ := shows_list zs (fun y hy => hz y (by simp [hy]))
    refine ⟨⟨z.kind, z.size, z.sty, z.line, z.space, ws, z.side, z.w, z.h⟩ :: l, by simp [h1], fun i m x e1 e2 => ?_⟩
    cases i with
    | zero =>
      simp at e1 e2
      subst e1 e2
      exact ⟨⟨rfl, rfl, rfl, rfl, rfl, rfl, rfl, rfl⟩, hw⟩
    | succ i => exact h2 i m x (by simpa using e1) (by simpa using e2)
set_option maxRecDepth 100000 in
theorem open_nodesC {base : Nat} {v : Value} {d : DataW H} {p : List MemPlace} (hv : Value.okWide Tryz.prog W .any base 22 v) (h : DataW.Trod enc Tryz.prog W 0 (fun _ => true) true 22 v d p) :
    ∃ A n c l, v = .slice A n c ∧ (n ≤ c ∧ c ≤ 9223372036854775807) ∧ Sees W A n l := by
  obtain ⟨A, n, c, zs, h1, h2, h3, h4, h5⟩ := open_rows encM (fun m => ∃ ws, Ints W m.A m.n ws) Tryz.underlying22 cellsNode (by decide) encM_len (fun fuel cs y hy => trod_node hy) hv h
  obtain ⟨l, h6, h7⟩ := shows_list zs h5
  exact ⟨A, n, c, l, h1, ⟨h2, by unfold maxLen at h3; omega⟩, zs, h4, h6, h7⟩
end
end Go.Proofs.YtdjnaejblgheoaaGreat
/- What a script is read as; what a reader of scripts answers. -/
namespace Go.Proofs.YtdjnaejblgheoaaGreat
open Go.RowKit
set_option linter.unusedVariables false
set_option linter.unusedSimpArgs false
/-- what a script is read as, by the document's words. -/
def ReadB (s : ByteArray) (r : Option (List Nd) × Nat) : Prop := (∃ k, lexB s = (none, k) ∧ r = (none, k)) ∨ (∃ toks q, lexB s = (some toks, q) ∧ Read toks s.size r)
theorem ReadB.det {s : ByteArray} {r r' : Option (List Nd) × Nat} (h : ReadB s r) (h' : ReadB s r') : r = r' := by
  rcases h with ⟨k, h1, rfl⟩ | ⟨t, q, h1, h2⟩ <;> rcases h' with ⟨k', h1', rfl⟩ | ⟨t', q', h1', h2'⟩ <;> rw [h1] at h1'
  · injection h1' with _ h; rw [h]
  · injection h1' with h _; cases h
  · injection h1' with h _; cases h
  · injection h1' with h _; injection h with h; subst h; exact h2.det h2'
/-- what Of answers. -/
def OfPost (w : World) (s : ByteArray) (e : Ending) (w' : World) : Prop :=
  (∃ x A n c, ReadB s (some x, 0) ∧ e = .returned (.tuple #[.slice A n c, .int .i64 0, .int .i64 0]) ∧ Nds w.heap.size w' A n x ∧ Below w.heap.size w w') ∨
  (∃ k : Nat, ReadB s (none, k) ∧ e = .returned (.tuple #[.slice none 0 0, .int .i64 (k : Int), .int .i64 1]) ∧ Below w.heap.size w w')
end Go.Proofs.YtdjnaejblgheoaaGreat
/- Nodes in memory: what rows and blocks of them are. (Of no function.) -/
namespace Go.Proofs.YtdjnaejblgheoaaGreat
open Go.RowKit
set_option linter.unusedVariables false
set_option linter.unusedSimpArgs false
def zeroM (kind side : Int) : NdM := ⟨kind, 1, .none, 0, 0, none, 0, 0, side, 0, 0⟩
theorem int_info5 : (Tryz.prog.info? 3).map (fun i => (i.zero, i.size, i.bytes)) = some (some (.int .i64 0), 1, 8) := by kernel_rfl
theorem node_info5 : (Tryz.prog.info? 40).map (fun i => (i.zero, i.size, i.bytes)) = some (some (.agg #[.int .i64 0, .int .i64 0, .int .i64 0, .int .i64 0, .int .i64 0, .int .i64 0, .int .i64 0, .int .i64 0, .int .i64 0, .int .i64 0, .int .i64 0, .int .i64 0, .int .i64 0, .int .i64 0, .int .i64 0, .int .i64 0, .slice none 0 0, .int .i64 0, .int .i64 0, .int .i64 0]), 20, 176) := by kernel_rfl
def cellNat (w : World) (a : Addr) : Nat := match w.cell? a with
  | some (.int _ z) => z.toNat
  | _ => 0
theorem blk_not_row {w : World} {T : Nat} {t e : TypeId} {vs : List Value} {base size n : Nat} {v : Value} {xs : List Value} (h : Blk w T t vs) (hne : t ≠ e) (ho : w.ownsRow base e size v n xs) : ∀ k, v.ownBlock = some k → k ≠ T := by
  intro k hk e'
  subst e'
  rcases ho.2 with ⟨q, _⟩ | ⟨g, cap, cur, q, _, q3, _⟩
  · rw [q] at hk; cases hk
  · rw [q] at hk
    injection hk with hk
    rw [show k = g from hk.symm] at h
    rw [show w.heap[g]? = _ from h] at q3
    injection q3 with q3
    injection q3 with _ q3 _
    exact hne q3
theorem owns_one {w : World} {e : TypeId} {size base : Nat} (vs : List Value) (hl : vs.length = size) (h0 : 0 < size) (hb : base ≤ w.heap.size) (h1 : ∀ u ∈ vs, u.oneCell' = true) (n : Nat) (hn : n = w.heap.size) (cs : Array Value) (hc : cs = vs.toArray) : (w.alloc (.cells cs e)).ownsRow base e size (.slice (some ⟨n, 0, none⟩) 1 1) 1 vs := by
  subst hn hc
  exact ⟨by omega, .inr ⟨w.heap.size, 1, vs.toArray, rfl, hb, World.alloc_heap_new w _, by decide, by decide, by simp [hl], by rw [Nat.one_mul, ← hl]; simp⟩⟩
theorem yields_row {P : Program} {a : Act} {o : Oper} {S : World → Prop} (t : TypeId) (x : Operand) (ho : o.op = .load t x) (g : Nat) (hx : a.eval x = .pointer (some ⟨g, 0, none⟩)) (te : TypeId) (cs : Array Value) (d : TypeDesc)
    (hS : ∀ w, S w → w.heap[g]? = some (.cells cs te (0, 0))) (hu : P.underlying t = some d) (hd : (match d with | .struct _ | .array _ _ => true | _ => false) = true) (hi : (P.info? t).map (·.size) = some cs.size) :
    ∀ w, S w → (execOp a.eval o).run P w = .ok (.value (.agg cs)) w := fun w hw => by
  have hr := run_loadVar_row (P := P) w g te t cs (0, 0) d (hS w hw) hu hd hi
  unfold execOp
  simp only [ho, hx, Instr.loadAt, Instr.sureAddr, Sem.run_bind, Sem.run_pure, Result.andThen_ok, hr]
end Go.Proofs.YtdjnaejblgheoaaGreat
/- A script that is written out; answers by value. -/
namespace Go.Proofs.YtdjnaejblgheoaaGreat
open Go.RowKit
set_option linter.unusedVariables false
set_option linter.unusedSimpArgs false
def ReadOk (w : World) (x : List Nd) (e : Ending) (w' : World) : Prop := ∃ A n c, e = .returned (.tuple #[.slice A n c, .int .i64 0, .int .i64 0]) ∧ Nds w.heap.size w' A n x ∧ Below w.heap.size w w'
theorem of_ok {w w' : World} {s : ByteArray} {e : Ending} {x : List Nd} (h : ReadB s (some x, 0)) (hp : OfPost w s e w') : ReadOk w x e w' := by
  rcases hp with ⟨x', A, n, c, h1, h2, h3, h4⟩ | ⟨k, h1, _⟩
  · have := h.det h1
    injection this with h5 _; injection h5 with h5; subst h5
    exact ⟨A, n, c, h2, h3, h4⟩
  · have := h.det h1
    injection this with h5 _; cases h5
/-- a script that is written out. -/
def evalF (s : ByteArray) : Option (Option (List Nd) × Nat) := match lexB s with
  | (some toks, 0) => readF toks s.size
  | (none, k) => some (none, k)
  | _ => none
theorem evalF_ok {s : ByteArray} {r : Option (List Nd) × Nat} (h : evalF s = some r) : ReadB s r := by
  unfold evalF at h
  split at h
  · rename_i toks h1; exact .inr ⟨toks, 0, h1, readF_ok h⟩
  · rename_i k h1; cases h; exact .inl ⟨k, h1, rfl⟩
  · cases h
end Go.Proofs.YtdjnaejblgheoaaGreat
/- Nodes that can be read: each one's cells. -/
namespace Go.Proofs.YtdjnaejblgheoaaGreat
open Go.RowKit
set_option linter.unusedVariables false
set_option linter.unusedSimpArgs false
theorem rows_range {w : World} {A : Option Addr} {n k : Nat} {zs : List NdM} (h : Rows 20 encM w A n zs) (hk : k < n) : ∃ b off m, A = some ⟨b, off, none⟩ ∧ b < w.heap.size ∧ zs[k]? = some m ∧ w.rangeAt b (off + k * 20) (encM m) := by
  obtain ⟨b, off, m, h1, h2, h3, h4⟩ := h.at_ hk
  exact ⟨b, off, m, h1, h2, h3, h4⟩
theorem range_on {w : World} {b o : Nat} {cs : List Value} (h : w.rangeAt b o cs) : ∀ W', On w W' → W'.rangeAt b o cs := fun W' hW j v hv => On.cell (h j v hv) W' hW
theorem Sees.at_ {w : World} {A : Option Addr} {n k : Nat} {l : List Nd} (h : Sees w A n l) (hk : k < n) : ∃ b off m x, A = some ⟨b, off, none⟩ ∧ b < w.heap.size ∧ l[k]? = some x ∧ w.rangeAt b (off + k * 20) (encM m) ∧ Shows w m x := by
  obtain ⟨zs, h1, h2, h3⟩ := h
  obtain ⟨b, off, m, e1, e2, e3, e4⟩ := rows_range h1 hk
  have hl := h1.1
  have hx : l[k]? = some (l[k]'(by omega)) := List.getElem?_eq_getElem _
  exact ⟨b, off, m, _, e1, e2, hx, e4, h3 k m _ e3 hx⟩
theorem Sees.bound {w : World} {A : Option Addr} {n : Nat} {l : List Nd} (h : Sees w A n l) : n ≤ 9223372036854775807 := by
  obtain ⟨zs, h1, _⟩ := h
  exact h1.2.1
theorem Sees.on {w w' : World} {A : Option Addr} {n : Nat} {l : List Nd} (h : Sees w A n l) (hb : On w w') : Sees w' A n l := h.below hb
theorem Sees.nil (w : World) : Sees w none 0 [] := ⟨[], Rows.nil _ _, rfl, fun i m x h => by simp at h⟩
end Go.Proofs.YtdjnaejblgheoaaGreat
/- The document's answers for package tree: who holds whom, who is above whom, kids. -/
namespace Go.Proofs.YtdjnaejblgheoaaGreat
open Go.RowKit
set_option linter.unusedVariables false
set_option linter.unusedSimpArgs false
/-- whole numbers in a new row of the call's own. -/
def IntsOut (w : World) (zs : List Int) (e : Ending) (w' : World) : Prop := ∃ A n c, e = .returned (.slice A n c) ∧ w'.ownsRow w.heap.size 3 1 (.slice A n c) n (zs.map (Value.int .i64)) ∧ Below w.heap.size w w'
end Go.Proofs.YtdjnaejblgheoaaGreat
/- The program's package valid: how much a node is; sums put together. -/
namespace Go.Proofs.YtdjnaejblgheoaaGreat
open Go.RowKit
set_option linter.unusedVariables false
set_option linter.unusedSimpArgs false
def sumV (s : Sm) : Value := .agg #[.int .i64 s.depth, .int .i64 s.pieces, .int .i64 s.nodes, .int .i64 s.heights]
def timesI (line many : Int) : Int := if 1099511627777 / many < line then 1099511627777 else line * many
theorem timesI_cut {line many : Int} (h1 : 1 ≤ line) (h2 : 1 ≤ many) : timesI line many = cut (line * many) := by
  unfold timesI cut cutN
  have hm : 0 ≤ line * many := Int.mul_nonneg (by omega) (by omega)
  by_cases h : 1099511627777 / many < line
  · rw [if_pos h]
    have := (Int.ediv_lt_iff_lt_mul (by omega : 0 < many)).1 h
    omega
  · rw [if_neg h]
    have := (Int.le_ediv_iff_mul_le (by omega : 0 < many)).1 (by omega : line ≤ 1099511627777 / many)
    omega
theorem ptimes_any (line many : Int) (w : World) (h1 : 1 ≤ line) (h2 : 1 ≤ many) (h3 : many ≤ 9223372036854775807) : Calls Tryz.prog 139 #[.int .i64 line, .int .i64 many] w fun e w' => e = .returned (.int .i64 (timesI line many)) ∧ w = w' := by
  have q0 := Int.ediv_nonneg (show (0 : Int) ≤ 1099511627777 by decide) (show 0 ≤ many by omega)
  have q1 := Int.ediv_le_self many (show (0 : Int) ≤ 1099511627777 by decide)
  have hz : (many == 0) = false := by simp; omega
  have hz2 : ¬ many = 0 := by omega
  by_cases h : 1099511627777 / many < line
  · have HV := Lib.hid (show timesI line many = 1099511627777 by unfold timesI; rw [if_pos h])
    go_enter Tryz.func139, Tryz.ntmps139
    go_wp2_with fail
    go_ret
    exact ⟨ret_int (by rw [HV.out]), rfl⟩
  · have HV := Lib.hid (show timesI line many = line * many by unfold timesI; rw [if_neg h])
    have hle := (Int.le_ediv_iff_mul_le (by omega : 0 < many)).1 (by omega : line ≤ 1099511627777 / many)
    have hm : 0 ≤ line * many := Int.mul_nonneg (by omega) (by omega)
    have hwr : IntKind.i64.wrap (line * many) = line * many := by rw [IntKind.wrap_i64]; omega
    have h' : line ≤ 1099511627777 / many := by omega
    clear h hle hm
    go_enter Tryz.func139, Tryz.ntmps139
    go_wp2_with fail
    go_ret
    exact ⟨ret_int (by rw [HV.out]), rfl⟩
theorem ptimes_to {line many v : Int} (hv : timesI line many = v) (w : World) (h1 : 1 ≤ line) (h2 : 1 ≤ many) (h3 : many ≤ 9223372036854775807) : Calls Tryz.prog 139 #[.int .i64 line, .int .i64 many] w fun e w' => e = .returned (.int .i64 v) ∧ w = w' := by
  subst hv; exact ptimes_any line many w h1 h2 h3
def plusS (s x : Sm) : Sm := ⟨max s.depth x.depth, wr (s.pieces + x.pieces), s.nodes + x.nodes, min (s.heights + x.heights) cutN⟩
set_option maxHeartbeats 4000000 in
set_option maxRecDepth 100000 in
theorem ptogether_any (s x : Sm) (b c : Nat) (w : World) (hB : Box w b [.int .i64 s.depth, .int .i64 s.pieces, .int .i64 s.nodes, .int .i64 s.heights, .int .i64 x.depth, .int .i64 x.pieces, .int .i64 x.nodes, .int .i64 x.heights])
    (h1 : 0 ≤ s.depth) (h2 : wr s.pieces = s.pieces) (h3 : 0 ≤ s.nodes ∧ s.nodes ≤ 1152921504606846976) (h4 : 0 ≤ s.heights ∧ s.heights ≤ 1099511627777) (k1 : 0 ≤ x.depth) (k3 : 0 ≤ x.nodes ∧ x.nodes ≤ 1152921504606846976) (k4 : 0 ≤ x.heights ∧ x.heights ≤ 1152921504606846976) :
    Calls Tryz.prog 110 #[.slice (some ⟨b, 0, none⟩) 2 c] w fun e w' => e = .returned (sumV (plusS s x)) ∧ Below w.heap.size w w' := by
  obtain ⟨d0, p0, n0, g0⟩ := s
  obtain ⟨d1, p1, n1, g1⟩ := x
  simp only at *
  obtain ⟨p, hp⟩ : ∃ p, IntKind.i64.wrap (p0 + p1) = p := ⟨_, rfl⟩
  have hp2 : wr (p0 + p1) = p := hp
  have hp0 : IntKind.i64.wrap p0 = p0 := h2
  obtain ⟨n, hn⟩ : ∃ n, n0 + n1 = n := ⟨_, rfl⟩
  obtain ⟨d, hd⟩ : ∃ d, max d0 d1 = d := ⟨_, rfl⟩
  obtain ⟨g, hg⟩ : ∃ g, min (g0 + g1) 1099511627777 = g := ⟨_, rfl⟩
  have HV := Lib.hid (show plusS ⟨d0, p0, n0, g0⟩ ⟨d1, p1, n1, g1⟩ = ⟨d, p, n, g⟩ by unfold plusS cutN; simp only [hp2, hn, hd, hg])
  clear hp2 h2
  have m0 : max 0 d0 = d0 := by omega
  have m1 : min g0 1099511627777 = g0 := by omega
  have HB := Lib.hid hB
  have hlt := hB.1
  clear hB
  go_enter Tryz.func110, Tryz.ntmps110
  go_wp2_with fail
  go_loopw [8] (fun i wr => ∃ k : Nat, i = .int .i64 k ∧ Below w.heap.size w wr ∧ Box wr w.heap.size [.int .i64 0, .int .i64 0, .int .i64 0, .int .i64 0] ∧ ((k = 0 ∧ Box wr (w.heap.size + 1) [.int .i64 0, .int .i64 0, .int .i64 0, .int .i64 0]) ∨ (k = 1 ∧ Box wr (w.heap.size + 1) [.int .i64 d0, .int .i64 p0, .int .i64 n0, .int .i64 g0]) ∨ (k = 2 ∧ Box wr (w.heap.size + 1) [.int .i64 d, .int .i64 p, .int .i64 n, .int .i64 g]))) (fun i _ => 2 - (intOf i).toNat)
  case atStart => exact ⟨0, rfl, by go_grown, (box_new w _ _ _ rfl _ rfl).alloc _, .inl ⟨rfl, box_new _ _ _ _ (by simp) _ rfl⟩⟩
  case round =>
    obtain ⟨k, rfl, hon, hX, hk⟩ := hrel
    have hD := hon.size
    have hbb := HB.out.belowB hon hlt
    have HX := Lib.hid hX
    have HO := Lib.hid hon
    rcases hk with ⟨rfl, hS⟩ | ⟨rfl, hS⟩ | ⟨rfl, hS⟩
    · have HS := Lib.hid hS
      have c0 := hbb.2.2 0 _ rfl
      have c1 := hbb.2.2 1 _ rfl
      have c2 := hbb.2.2 2 _ rfl
      have c3 := hbb.2.2 3 _ rfl
      have s0 := hS.2.2 0 _ rfl
      have s1 := hS.2.2 1 _ rfl
      have s2 := hS.2.2 2 _ rfl
      have s3 := hS.2.2 3 _ rfl
      have f0 := hS.2.1 0
      have f1 := hS.2.1 1
      have f2 := hS.2.1 2
      have f3 := hS.2.1 3
      have hl := hS.1
      have hne : ¬ w.heap.size + 1 = wr.heap.size := by omega
      clear hX hon hbb hS
      go_wp2_with fail
      go_roundw
      case rel =>
        refine ⟨1, by go_num, (((((HO.out.setCell (by simp) _).setCell (by simp) _).setCell (by simp) _).setCell (by simp) _).alloc (by simp; omega) _), ((((HX.out.set_other (by omega) _ _).set_other (by omega) _ _).set_other (by omega) _ _).set_other (by omega) _ _).alloc _, .inr (.inl ⟨rfl, ?_⟩)⟩
        exact ((((HS.out.set 0 _ (by simp)).set 1 _ (by simp)).set 2 _ (by simp)).set 3 _ (by simp)).alloc _
      case measure => simp [intOf]
    · have HS := Lib.hid hS
      have c0 := hbb.2.2 4 _ rfl
      have c1 := hbb.2.2 5 _ rfl
      have c2 := hbb.2.2 6 _ rfl
      have c3 := hbb.2.2 7 _ rfl
      have s0 := hS.2.2 0 _ rfl
      have s1 := hS.2.2 1 _ rfl
      have s2 := hS.2.2 2 _ rfl
      have s3 := hS.2.2 3 _ rfl
      have f0 := hS.2.1 0
      have f1 := hS.2.1 1
      have f2 := hS.2.1 2
      have f3 := hS.2.1 3
      have hl := hS.1
      have hne : ¬ w.heap.size + 1 = wr.heap.size := by omega
      clear hX hon hbb hS
      go_wp2_with fail
      go_roundw
      case rel =>
        refine ⟨2, by go_num, (((((HO.out.setCell (by simp) _).setCell (by simp) _).setCell (by simp) _).setCell (by simp) _).alloc (by simp; omega) _), ((((HX.out.set_other (by omega) _ _).set_other (by omega) _ _).set_other (by omega) _ _).set_other (by omega) _ _).alloc _, .inr (.inr ⟨rfl, ?_⟩)⟩
        exact ((((HS.out.set 0 _ (by simp)).set 1 _ (by simp)).set 2 _ (by simp)).set 3 _ (by simp)).alloc _
      case measure => simp [intOf]
    · have HS := Lib.hid hS
      have s0 := hS.2.2 0 _ rfl
      have s1 := hS.2.2 1 _ rfl
      have s2 := hS.2.2 2 _ rfl
      have s3 := hS.2.2 3 _ rfl
      have x0 := hX.2.2 0 _ rfl
      have x1 := hX.2.2 1 _ rfl
      have x2 := hX.2.2 2 _ rfl
      have x3 := hX.2.2 3 _ rfl
      have f0 := hX.2.1 0
      have f1 := hX.2.1 1
      have f2 := hX.2.1 2
      have f3 := hX.2.1 3
      have hl := hX.1
      clear hX hon hbb hS
      go_wp2_with fail
      have hY := (((HX.out.set 0 (.int .i64 d) (by simp)).set 1 (.int .i64 p) (by simp)).set 2 (.int .i64 n) (by simp)).set 3 (.int .i64 g) (by simp)
      have r0 := hY.2.2 0 _ rfl
      have r1 := hY.2.2 1 _ rfl
      have r2 := hY.2.2 2 _ rfl
      have r3 := hY.2.2 3 _ rfl
      refine bodyPost_ret (v := .agg #[.int .i64 d, .int .i64 p, .int .i64 n, .int .i64 g]) (by simp [results, Tryz.results110, go_sem, r0, r1, r2, r3]) rfl ⟨by rw [HV.out]; rfl, ?_⟩
      exact (((HO.out.setCell (by simp) _).setCell (by simp) _).setCell (by simp) _).setCell (by simp) _
theorem ptogether_to {s x y : Sm} (hy : plusS s x = y) {b c : Nat} (w : World) (hB : Box w b [.int .i64 s.depth, .int .i64 s.pieces, .int .i64 s.nodes, .int .i64 s.heights, .int .i64 x.depth, .int .i64 x.pieces, .int .i64 x.nodes, .int .i64 x.heights])
    (h1 : 0 ≤ s.depth) (h2 : wr s.pieces = s.pieces) (h3 : 0 ≤ s.nodes ∧ s.nodes ≤ 1152921504606846976) (h4 : 0 ≤ s.heights ∧ s.heights ≤ 1099511627777) (k1 : 0 ≤ x.depth) (k3 : 0 ≤ x.nodes ∧ x.nodes ≤ 1152921504606846976) (k4 : 0 ≤ x.heights ∧ x.heights ≤ 1152921504606846976) :
    Calls Tryz.prog 110 #[.slice (some ⟨b, 0, none⟩) 2 c] w fun e w' => e = .returned (sumV y) ∧ Below w.heap.size w w' := by
  subst hy; exact ptogether_any s x b c w hB h1 h2 h3 h4 k1 k3 k4
end Go.Proofs.YtdjnaejblgheoaaGreat
/- The document's answers for package words: the line from a word on. -/
namespace Go.Proofs.YtdjnaejblgheoaaGreat
open Go.RowKit
set_option linter.unusedVariables false
set_option linter.unusedSimpArgs false
/-- a run: from where, up to where, how wide. -/
abbrev Run3 := Int × Int × Int
def takeN (zs : List Int) (sp wd : Int) (a : Nat) : Run3 := ((a : Int), (endP zs sp wd a : Int), wideN zs sp a (endP zs sp wd a))
def takeI (zs : List Int) (sp wd a : Int) : Run3 := if 0 ≤ a ∧ a < (zs.length : Int) then takeN zs sp wd a.toNat else (0, 0, 0)
theorem takeI_bad {zs : List Int} {sp wd a : Int} (h : a < 0 ∨ (zs.length : Int) ≤ a) : takeI zs sp wd a = (0, 0, 0) := by unfold takeI; rw [if_neg (by omega)]
theorem takeI_nat {zs : List Int} {sp wd : Int} {a : Nat} (h : a < zs.length) : takeI zs sp wd (a : Int) = takeN zs sp wd a := by unfold takeI; rw [if_pos ⟨by omega, by omega⟩, Int.toNat_natCast]
theorem box3 (w : World) (a b c : Value) (t : TypeId) : Box (w.alloc (.cells #[a, b, c] t)) w.heap.size [a, b, c] := Box.new w [a, b, c] t
theorem Box.of3w {w : World} {n : Nat} {a b c : Value} (h : Box w n [a, b, c]) : (w.cell? ⟨n, 0, none⟩ = some a ∧ w.cell? ⟨n, 1, none⟩ = some b ∧ w.cell? ⟨n, 2, none⟩ = some c) ∧ (w.frozen? ⟨n, 0, none⟩ = false ∧ w.frozen? ⟨n, 1, none⟩ = false ∧ w.frozen? ⟨n, 2, none⟩ = false) ∧ n < w.heap.size :=
  ⟨⟨h.2.2 0 _ rfl, h.2.2 1 _ rfl, h.2.2 2 _ rfl⟩, ⟨h.2.1 _, h.2.1 _, h.2.1 _⟩, h.1⟩
end Go.Proofs.YtdjnaejblgheoaaGreat
/- The document's answers for package tree: the parent. -/
namespace Go.Proofs.YtdjnaejblgheoaaGreat
open Go.RowKit
set_option linter.unusedVariables false
set_option linter.unusedSimpArgs false
theorem IntsOut.ints {w w' : World} {zs : List Int} {e : Ending} (h : IntsOut w zs e w') : ∃ A n c, e = .returned (.slice A n c) ∧ n = zs.length ∧ Ints w' A n zs ∧ Below w.heap.size w w' := by
  obtain ⟨A, n, c, h1, h2, h3⟩ := h
  have hi := (ownsRow_cells h2).ints
  exact ⟨A, n, c, h1, hi.1.symm, hi, h3⟩
end Go.Proofs.YtdjnaejblgheoaaGreat
/- The document's answers for package tree: rooms; rows of rooms compared. -/
namespace Go.Proofs.YtdjnaejblgheoaaGreat
open Go.RowKit
set_option linter.unusedVariables false
set_option linter.unusedSimpArgs false
def encRm (p : Int × Int) : List Value := [.int .i64 p.1, .int .i64 p.2]
theorem encRm_len (p : Int × Int) : (encRm p).length = 2 := rfl
theorem room_info : (Tryz.prog.info? 49).map (fun i => (i.zero, i.size, i.bytes)) = some (some (.agg #[.int .i64 0, .int .i64 0]), 2, 16) := by kernel_rfl
end Go.Proofs.YtdjnaejblgheoaaGreat
/- Rooms up to a node. Nothing of the program stands here. -/
namespace Go.Proofs.YtdjnaejblgheoaaGreat
open Go.RowKit
set_option linter.unusedVariables false
set_option linter.unusedSimpArgs false
/-- the rooms of the first k nodes. -/
def roomsTo (L : List Nd) (W : Int) (k : Nat) : List (Int × Int) := (List.range k).map (roomP L W)
theorem roomsTo_zero (L : List Nd) (W : Int) : roomsTo L W 0 = [] := rfl
theorem roomsTo_len (L : List Nd) (W : Int) (k : Nat) : (roomsTo L W k).length = k := by unfold roomsTo; rw [List.length_map, List.length_range]
theorem roomsTo_step (L : List Nd) (W : Int) (k : Nat) : roomsTo L W (k + 1) = roomsTo L W k ++ [roomP L W k] := by
  unfold roomsTo
  rw [List.range_succ, List.map_append]
  rfl
theorem roomsTo_cells (L : List Nd) (W : Int) (k : Nat) : (roomsTo L W (k + 1)).flatMap encRm = (roomsTo L W k).flatMap encRm ++ [.int .i64 (roomP L W k).1, .int .i64 (roomP L W k).2] := by
  rw [roomsTo_step, List.flatMap_append]
  rfl
theorem roomsTo_get {L : List Nd} {W : Int} {k i : Nat} (h : i < k) : (roomsTo L W k)[i]? = some (roomP L W i) := by
  unfold roomsTo
  rw [List.getElem?_map, List.getElem?_range h]
  rfl
/-- all rooms on any width. -/
def roomsI (L : List Nd) (W : Int) : List (Int × Int) := if W < 1 ∨ maxX < W then [] else roomsTo L W L.length
end Go.Proofs.YtdjnaejblgheoaaGreat
/- The program's package tree: the room that an inset leaves. -/
namespace Go.Proofs.YtdjnaejblgheoaaGreat
open Go.RowKit
set_option linter.unusedVariables false
set_option linter.unusedSimpArgs false
theorem sum_two {x i : Int} (h0 : 0 ≤ x) (h1 : x ≤ 1099511627776) (h2 : 0 ≤ i) (h3 : i ≤ 1099511627776) : sumL [x, i] = min (x + i) 1099511627776 := by
  show lim (lim (0 + lim x) + lim i) = _
  rw [lim_in (n := x) (by omega) h1, lim_in (n := 0 + x) (by omega) (by omega), lim_in (n := i) (by omega) h3]
  unfold lim
  omega
set_option maxHeartbeats 2000000 in
set_option maxRecDepth 100000 in
theorem twithin_to {x y i p q : Int} (x0 : 0 ≤ x) (x1 : x ≤ 1099511627776) (y0 : 1 ≤ y) (y1 : y ≤ 1099511627776) (i0 : 0 ≤ i) (i1 : i ≤ 1099511627776) (hp : min (x + i) 1099511627776 = p) (hq : max (y - i - i) 1 = q) (w : World) :
    Calls Tryz.prog 38 #[.agg #[.int .i64 x, .int .i64 y], .int .i64 i] w fun e w' => e = .returned (.agg #[.int .i64 p, .int .i64 q]) ∧ Below w.heap.size w w' := by
  have HP := Lib.hid (show sumL [x, i] = p by rw [sum_two x0 x1 i0 i1, hp])
  have HQ := Lib.hid (show max (y - 2 * i) 1 = q by rw [← hq]; omega)
  have hw1 : IntKind.i64.wrap (2 * i) = 2 * i := IntWalk.i64_in _ (by omega)
  have hw2 : IntKind.i64.wrap (y - 2 * i) = y - 2 * i := IntWalk.i64_in _ (by omega)
  clear hp hq
  go_enter Tryz.func38, Tryz.ntmps38
  go_wp2_with fail
  generalize hW : (w.alloc (.cells #[.int .i64 x, .int .i64 y] 49)).alloc (.cells #[.int .i64 0, .int .i64 0] 49) = W
  have hA : Box W w.heap.size [.int .i64 x, .int .i64 y] := by rw [← hW]; exact (Box.new2 _ _ _ _).alloc _
  have hR : Box W (w.heap.size + 1) [.int .i64 0, .int .i64 0] := by rw [← hW]; exact Box.new2' _ _ _ _ _ (by simp)
  have HB := Lib.hid (show Below w.heap.size w W by rw [← hW]; go_grown)
  clear hW
  obtain ⟨a0, a1⟩ := On.of2 hA
  refine wp_region_held_tail 12 (S := fun W' => On W W') (by kernel_rfl) (by kernel_rfl) rfl (On.refl _).drew (fun h0 => ?_)
  simp only [headOf, List.take_succ_cons, List.take_zero, List.getElem_toArray, List.getElem_cons_succ, List.getElem_cons_zero]
  refine wpAnyH_take (i := 0) (v := ?_) rfl (by kernel_rfl) (by kernel_rfl) (by kernel_rfl) (fun _ _ _ h => h) (Or.inl ⟨by rfl, ?_⟩) h0 ?_
  rotate_left
  · intro w hSw; (try dsimp only at hSw); go_simp; with_reducible rfl
  try simp only [Act.put, List.setIfInBounds_toArray, List.set_cons_zero, List.set_cons_succ]
  refine wpAnyH_take (i := 1) (v := ?_) rfl (by kernel_rfl) (by kernel_rfl) (by kernel_rfl) (fun _ _ _ h => h) (Or.inl ⟨by rfl, ?_⟩) h0 ?_
  rotate_left
  · intro w hSw; (try dsimp only at hSw); go_simp; with_reducible rfl
  try simp only [Act.put, List.setIfInBounds_toArray, List.set_cons_zero, List.set_cons_succ]
  refine wpAnyH_take (i := 2) (v := ?_) rfl (by kernel_rfl) (by kernel_rfl) (by kernel_rfl) (fun _ _ _ h => h) (Or.inl ⟨by rfl, ?_⟩) h0 ?_
  rotate_left
  · intro w hSw; (try dsimp only at hSw); go_simp; with_reducible rfl
  try simp only [Act.put, List.setIfInBounds_toArray, List.set_cons_zero, List.set_cons_succ]
  refine wpAnyH_take (i := 5) (v := ?_) rfl (by kernel_rfl) (by kernel_rfl) (by kernel_rfl) (fun _ _ _ h => h) (Or.inl ⟨by rfl, ?_⟩) h0 ?_
  rotate_left
  · intro w hSw; (try dsimp only at hSw); go_simp; with_reducible rfl
  try simp only [Act.put, List.setIfInBounds_toArray, List.set_cons_zero, List.set_cons_succ]
  refine wpAnyH_take (i := 6) (v := ?_) rfl (by kernel_rfl) (by kernel_rfl) (by kernel_rfl) (fun _ _ _ h => h) (Or.inl ⟨by rfl, ?_⟩) h0 ?_
  rotate_left
  · intro w hSw; (try dsimp only at hSw); go_simp; with_reducible rfl
  try simp only [Act.put, List.setIfInBounds_toArray, List.set_cons_zero, List.set_cons_succ]
  refine wpAnyH_take (i := 7) (v := ?_) rfl (by kernel_rfl) (by kernel_rfl) (by kernel_rfl) (fun _ _ _ h => h) (Or.inl ⟨by rfl, ?_⟩) h0 ?_
  rotate_left
  · intro w hSw; (try dsimp only at hSw); go_simp; with_reducible rfl
  try simp only [Act.put, List.setIfInBounds_toArray, List.set_cons_zero, List.set_cons_succ]
  refine wpAnyH_take (i := 8) (v := ?_) rfl (by kernel_rfl) (by kernel_rfl) (by kernel_rfl) (fun _ _ _ h => h) (Or.inl ⟨by rfl, ?_⟩) h0 ?_
  rotate_left
  · intro w hSw; (try dsimp only at hSw); go_simp; with_reducible rfl
  try simp only [Act.put, List.setIfInBounds_toArray, List.set_cons_zero, List.set_cons_succ]
  refine wpAnyH_take (i := 9) (v := ?_) rfl (by kernel_rfl) (by kernel_rfl) (by kernel_rfl) (fun _ _ _ h => h) (Or.inl ⟨by rfl, ?_⟩) h0 ?_
  rotate_left
  · intro w hSw; (try dsimp only at hSw); go_simp; with_reducible rfl
  try simp only [Act.put, List.setIfInBounds_toArray, List.set_cons_zero, List.set_cons_succ]
  refine wpAnyH_take (i := 10) (v := ?_) rfl (by kernel_rfl) (by kernel_rfl) (by kernel_rfl) (fun _ _ _ h => h) (Or.inl ⟨by rfl, ?_⟩) h0 ?_
  rotate_left
  · intro w hSw; (try dsimp only at hSw); go_simp; with_reducible rfl
  try simp only [Act.put, List.setIfInBounds_toArray, List.set_cons_zero, List.set_cons_succ]
  refine wpAnyH_ready (rs := [3]) (by kernel_rfl) (by simp) ?_
  refine AllReadyH.cons rfl (fun K hK => ?_) AllReadyH.nil
  go_simp
  refine hK.out _ _ (On.alloc h0 _) (fun h1 => ?_)
  clear hK K
  try simp only [Act.put, List.setIfInBounds_toArray, List.set_cons_zero, List.set_cons_succ]
  refine wpAnyH_ready (rs := [4]) (by kernel_rfl) (by simp) ?_
  refine AllReadyH.cons rfl (fun K hK => ?_) AllReadyH.nil
  go_simp
  refine (add_any _ _ _ _ _ ((Ints.new2 W 3 x i).below (Below.refl _ _).drew rfl)).mono ?_
  rintro e v2 ⟨rfl, rfl⟩
  refine hK.out _ _ h1 (fun h2 => ?_)
  clear hK K
  try simp only [Act.put, List.setIfInBounds_toArray, List.set_cons_zero, List.set_cons_succ]
  refine wpAnyH_take (i := 11) (v := ?_) rfl (by kernel_rfl) (by kernel_rfl) (by kernel_rfl) (fun _ _ _ h => h) (Or.inl ⟨by rfl, ?_⟩) h2 ?_
  rotate_left
  · intro w hSw; (try dsimp only at hSw); go_simp; with_reducible rfl
  try simp only [Act.put, List.setIfInBounds_toArray, List.set_cons_zero, List.set_cons_succ]
  refine wpAnyH_done (by kernel_rfl) ?_ _
  show wpList _ _ _ _ _ _
  replace hR := On.box hR _ h2
  replace HB := Lib.hid (below_then HB.out h2)
  clear a0 a1 hA h0 h1 h2
  generalize (W.alloc (.cells #[.int .i64 x, .int .i64 i] 3)).drew = V at hR HB ⊢
  obtain ⟨r0, r1, f0, f1, r4⟩ := hR.of2
  rw [HP.out]
  have hbs := HB.out.size
  go_wp2_with fail
  have hY := (hR.set 0 (.int .i64 p) (by simp)).set 1 (.int .i64 (max (y - 2 * i) 1)) (by simp)
  have s0 := hY.2.2 0 _ rfl
  have s1 := hY.2.2 1 _ rfl
  exact bodyPost_ret (v := .agg #[.int .i64 p, .int .i64 q]) (by rw [← HQ.out]; simp [results, Tryz.results38, go_sem, s0, s1]) rfl ⟨rfl, (HB.out.setCell (by simp) _).setCell (by simp) _⟩
end Go.Proofs.YtdjnaejblgheoaaGreat
/- The program's package words: the range over the places behind words. -/
namespace Go.Proofs.YtdjnaejblgheoaaGreat
open Go.RowKit Go.Shelf
set_option linter.unusedVariables false
set_option linter.unusedSimpArgs false
attribute [local go_sem] Oper.semAt_some
theorem wide_deep9 (k : Nat) : Fence.wide.depth.isSome = true → 1 ≤ k := fun h => by cases h
theorem cell_of9 {W : World} {b : Nat} {v : Value} {t : TypeId} (h : W.heap[b]? = some (.cells #[v] t)) : W.cell? ⟨b, 0, none⟩ = some v := by simp [World.cell?, h]
theorem boxed_kept9 {B k : Nat} {t : TypeId} {v : Value} {X Y : World} {row : Option Nat} (hs : Boxed X k t v) (hg : X.grownBy Y row) (hr : ∀ r, row = some r → B ≤ r ∧ ∃ o : Obj, X.heap[r]? = some o ∧ o.isCells = false) : Boxed Y k t v :=
  hs.kept hg (fun e' => by
    obtain ⟨_, o, ho, hc⟩ := hr k e'.symm
    rw [show X.heap[k]? = _ from hs] at ho; cases ho; cases hc)
theorem grown_of_below9 {w w' : World} (h : Below w.heap.size w w') (row : Option Nat) : w.grownBy w' row := ⟨h.os, h.tape, h.output, h.size, fun k hk _ => h.block k hk⟩
/-- how many words lie behind the place a. -/
def leftN (zs : List Int) (a : Int) : Nat := if 0 ≤ a ∧ a < (zs.length : Int) then zs.length - a.toNat else 0
/-- how wide the run is behind k words; a space less than none, ahead of the first. -/
def wideK (zs : List Int) (sp a : Int) : Nat → Int
  | 0 => -sp
  | k + 1 => wideN zs sp a.toNat (a.toNat + (k + 1))
/-- an element of the range: how many words ahead. -/
abbrev K9 := { k : Nat // k ≤ 1000 }
def enc9 (zs : List Int) (sp a : Int) (x : K9) : Array Value := #[.int .i64 (a + ((x.1 : Nat) : Int) + 1), .int .i64 (wideK zs sp a (x.1 + 1))]
theorem wideK_step {zs : List Int} {sp a : Int} {k : Nat} (h0 : 0 ≤ a) (h : a.toNat + k < zs.length) : wideK zs sp a (k + 1) = wideK zs sp a k + (sp + wordI zs (a.toNat + k)) := by
  cases k with
  | zero =>
    show wideN zs sp a.toNat (a.toNat + 1) = -sp + (sp + wordI zs (a.toNat + 0))
    rw [wideN_one (by omega), Nat.add_zero]; omega
  | succ k =>
    show wideN zs sp a.toNat (a.toNat + (k + 1 + 1)) = wideN zs sp a.toNat (a.toNat + (k + 1)) + (sp + wordI zs (a.toNat + (k + 1)))
    rw [show a.toNat + (k + 1 + 1) = a.toNat + (k + 1) + 1 by omega, wideN_step (by omega) (by omega)]; omega
theorem wideK_bd {zs : List Int} {sp : Int} (h : Near9 zs sp) (hl : zs.length ≤ 1000) (a : Int) (k : Nat) : -35184372088832 ≤ wideK zs sp a k ∧ wideK zs sp a k ≤ 2000 * 35184372088832 := by
  cases k with
  | zero =>
    have h1 := h.1
    unfold farN at h1
    show -35184372088832 ≤ -sp ∧ -sp ≤ 2000 * 35184372088832
    omega
  | succ k =>
    have h1 := wideN_bd h a.toNat (a.toNat + (k + 1))
    have h2 : 2 * (zs.length : Int) * farN ≤ 2000 * farN := Int.mul_le_mul_of_nonneg_right (by omega) (by unfold farN; omega)
    unfold farN at *
    show -35184372088832 ≤ wideN zs sp a.toNat (a.toNat + (k + 1)) ∧ wideN zs sp a.toNat (a.toNat + (k + 1)) ≤ 2000 * 35184372088832
    omega
/-- a world from which the range can read: its three boxes, and the words. -/
def Reads9 (zs : List Int) (sp a : Int) (A : Option Addr) (m c b : Nat) (V : World) : Prop := V.cell? ⟨b, 0, none⟩ = some (.slice A m c) ∧ V.cell? ⟨b + 1, 0, none⟩ = some (.int .i64 sp) ∧ V.cell? ⟨b + 2, 0, none⟩ = some (.int .i64 a) ∧ Ints V A m zs
set_option maxRecDepth 100000 in
set_option maxHeartbeats 4000000 in
theorem ends1_in (n l b : Nat) {zs : List Int} {sp a : Int} (hn : Near9 zs sp) {A : Option Addr} {m c : Nat} (hm : m ≤ 1000) (ha : I64w a) (hl : zs.length = m)
    (G : World → Prop) (Kp : World → World → Prop) (hG : ∀ V, G V → Reads9 zs sp a A m c b V) (hGd : ∀ V, G V → G V.drew) (hGK : ∀ X Y, G X → Kp X Y → G Y)
    (J Jx : List K9 → World → Prop) (W : World) (hW : G W) (hJ : AbidesFrom W.heap.size J)
    (hY : ∀ pre x W1, J pre W1 → pre.length < 1001 → YieldAt Fence.wide (n - 1) Tryz.prog l (enc9 zs sp a x) W1 fun e W' =>
      (e = .returned (.bool true) ∧ J (pre ++ [x]) W' ∧ Kp W1 W') ∨ (e = .returned (.bool false) ∧ Jx (pre ++ [x]) W'))
    (h0 : J [] W) :
    CallsIn Fence.wide n Tryz.prog 67 #[.func (.yield l) #[] #[], .pointer (some ⟨b + 2, 0, none⟩), .pointer (some ⟨b, 0, none⟩), .pointer (some ⟨b + 1, 0, none⟩)] W fun e W' => (∃ v, e = .returned v) ∧
      ((∃ xs : List K9, xs.map (·.1) = List.range (leftN zs a) ∧ J xs W') ∨ (∃ pre : List K9, (∃ q, q < leftN zs a ∧ pre.map (·.1) = List.range (q + 1)) ∧ Jx pre W')) := by
  have HG := Lib.hid hG
  have HGd := Lib.hid hGd
  have HGK := Lib.hid hGK
  have HY := Lib.hid hY
  have HJ := Lib.hid hJ
  have HL := Lib.hid hl
  have HN := Lib.hid hn
  obtain ⟨c0, c1, c2, _⟩ := hG W hW
  obtain ⟨ha1, ha2⟩ := ha
  obtain ⟨⟨sp0, sp1⟩, _⟩ := id hn
  unfold farN at sp1
  clear hG hGd hGK hY hJ hn hl
  refine callsIn_of_wp Tryz.func67 rfl trivial ?_ rfl
  simp only [Tryz.ntmps67, List.size_toArray, List.length_cons, List.length_nil, Nat.reduceAdd, Nat.reduceSub, Array.replicate_succ, Array.replicate_zero, List.push_toArray, List.append_toArray, List.nil_append, List.cons_append]
  by_cases h1 : a < 0
  · have HE := Lib.hid (show leftN zs a = 0 by unfold leftN; rw [if_neg (by omega)])
    gi_wp2
    refine bodyPost_ret (results_none rfl _ _ _) rfl ?_
    exact ⟨⟨_, rfl⟩, .inl ⟨[], by rw [HE.out]; rfl, h0⟩⟩
  by_cases h2 : (m : Int) ≤ a
  · have HE := Lib.hid (show leftN zs a = 0 by unfold leftN; rw [if_neg (by have := HL.out; omega)])
    gi_wp2
    refine bodyPost_ret (results_none rfl _ _ _) rfl ?_
    exact ⟨⟨_, rfl⟩, .inl ⟨[], by rw [HE.out]; rfl, h0⟩⟩
  obtain ⟨i, rfl⟩ : ∃ i : Nat, a = (i : Int) := ⟨a.toNat, by omega⟩
  have him : i < m := by omega
  have HE := Lib.hid (show leftN zs (i : Int) = m - i by unfold leftN; rw [if_pos (by have := HL.out; omega), Int.toNat_natCast, HL.out])
  have HJ0 := Lib.hid h0
  have HW := Lib.hid hW
  have hd0 : decide ((i : Int) < 0) = false := decide_eq_false (by omega)
  have hd1 : decide ((m : Int) ≤ (i : Int)) = false := decide_eq_false (by omega)
  have hd2 : decide (m ≤ i) = false := decide_eq_false (by omega)
  clear h0 hW h1 h2
  gi_wp2
  gi_loopw [5, 6] (fun t i' wr => ∃ (k : Nat) (z : Int) (pre : List K9), t = .int .i64 z ∧ i' = .int .i64 ((i + k + 1 : Nat) : Int) ∧ i + k ≤ m ∧ Hid (z = wideK zs sp (i : Int) k) ∧ Hid (pre.map (·.1) = List.range k) ∧ Hid (J pre wr) ∧ Hid (G wr)) (fun _ i' _ => m + 1 - (intOf i').toNat)
  case atStart => exact ⟨0, _, [], rfl, by go_num, by omega, Lib.hid (by show _ = -sp; go_num), Lib.hid rfl, HJ0, HW⟩
  case round =>
    obtain ⟨k, z, pre, rfl, rfl, hkm, HZ, HP, HJp, HO⟩ := hrel
    obtain ⟨c0, c1, c2, hints⟩ := HG.out wr HO.out
    have HI := Lib.hid hints
    have hzb := wideK_bd HN.out (by rw [HL.out]; omega) (i : Int) k
    rw [← HZ.out] at hzb
    obtain ⟨hz0, hz1⟩ := hzb
    clear hints
    by_cases hlt : i + k < m
    · have hlt2 : ((i + k + 1 : Nat) : Int) ≤ (m : Int) := by omega
      obtain ⟨b', off, rfl, hc⟩ := HI.out.at_ (show i + k < m by omega)
      obtain ⟨u, hu⟩ : ∃ u, zs[i + k]?.getD 0 = u := ⟨_, rfl⟩
      rw [hu] at hc
      have hub := word_bd HN.out (i + k)
      unfold wordI at hub
      rw [hu] at hub
      obtain ⟨hu0, hu1⟩ := hub
      unfold farN at hu1
      have HZ2 := Lib.hid (show z + (sp + u) = wideK zs sp (i : Int) (k + 1) by rw [wideK_step (by omega) (by rw [HL.out]; omega), HZ.out, Int.toNat_natCast]; unfold wordI; rw [hu])
      have hlen : pre.length < 1001 := by
        have h1 := congrArg List.length HP.out
        rw [List.length_map, List.length_range] at h1; omega
      obtain ⟨kx, hkx⟩ : ∃ x : K9, x.1 = k := ⟨⟨k, by omega⟩, rfl⟩
      have hbd : Below wr.heap.size wr wr.drew := Below.drew (Below.refl _ _)
      have HOd := Lib.hid (HGd.out wr HO.out)
      obtain ⟨fn, tmps, assign, body, hy, hR⟩ := HY.out pre kx wr.drew (HJ.out pre wr wr.drew none HJp.out (grown_of_below9 hbd none) (fun r e => by cases e)) hlen
      have henc : enc9 zs sp (i : Int) kx = #[.int .i64 ((i : Int) + (k : Int) + 1), .int .i64 (z + (sp + u))] := by
        unfold enc9; rw [hkx, ← HZ2.out]
      rw [henc] at hy
      have HP2 := Lib.hid (show (pre ++ [kx]).map (·.1) = List.range (k + 1) by rw [List.map_append, HP.out, List.range_succ]; simp [hkx])
      clear hu hkx hlen hbd
      gi_wp2_with (fail)
      gi_region
      gi_wp2_with (fail)
      refine ⟨wide_deep9 _, ?_⟩
      refine hR.mono ?_
      rintro e W3 (⟨rfl, hJ4, hk4⟩ | ⟨rfl, hx4⟩)
      · have HJ4 := Lib.hid hJ4
        have HO4 := Lib.hid (HGK.out _ _ HOd.out hk4)
        clear hJ4 hk4 hy hR c0 c1 c2 hc
        gi_wp2_with (fail)
        go_roundw
        case rel => exact ⟨k + 1, z + (sp + u), pre ++ [kx], rfl, by go_num, by omega, HZ2, HP2, HJ4, HO4⟩
        case measure => simp [intOf] <;> omega
      · gi_wp2
        refine bodyPost_ret (results_none rfl _ _ _) rfl ?_
        exact ⟨⟨_, rfl⟩, .inr ⟨pre ++ [kx], ⟨k, by rw [HE.out]; omega, HP2.out⟩, hx4⟩⟩
    · have hge : (m : Int) < ((i + k + 1 : Nat) : Int) := by omega
      gi_wp2
      go_end0
      exact ⟨⟨_, rfl⟩, .inl ⟨pre, by rw [HP.out, HE.out, show k = m - i by omega], HJp.out⟩⟩
/-- the range, as its callers take it. -/
theorem ends_stops (b : Nat) (w0 : World) {zs : List Int} {sp a : Int} (hn : Near9 zs sp) {A : Option Addr} {m c : Nat} (hm : m ≤ 1000) (ha : I64w a) (hl : zs.length = m)
    (G : World → Prop) (Kp : World → World → Prop) (hG : ∀ V, G V → Reads9 zs sp a A m c b V) (hGd : ∀ V, G V → G V.drew) (hGK : ∀ X Y, G X → Kp X Y → G Y) (hG0 : ∀ V, On w0 V → G V) (n : Nat) :
    SeqStopsK Fence.wide n Tryz.prog 67 #[.pointer (some ⟨b + 2, 0, none⟩), .pointer (some ⟨b, 0, none⟩), .pointer (some ⟨b + 1, 0, none⟩)] (enc9 zs sp a) Kp (fun xs => xs.map (·.1) = List.range (leftN zs a)) (fun pre => ∃ q, q < leftN zs a ∧ pre.map (·.1) = List.range (q + 1)) 1001 w0 :=
  fun l J Jx W hW hJ hJx hY h0 => ends1_in n l b hn hm ha hl G Kp hG hGd hGK J Jx W (hG0 W hW) hJ hY h0
theorem ends_in (A : Option Addr) (m c : Nat) (sp a : Int) (w : World) : Calls Tryz.prog 33 #[.slice A m c, .int .i64 sp, .int .i64 a] w fun e w' => e = .returned (.func (.func 67) #[] #[.pointer (some ⟨w.heap.size + 2, 0, none⟩), .pointer (some ⟨w.heap.size, 0, none⟩), .pointer (some ⟨w.heap.size + 1, 0, none⟩)]) ∧ w' = ((w.alloc (.cells #[.slice A m c] 38)).alloc (.cells #[.int .i64 sp] 3)).alloc (.cells #[.int .i64 a] 3) := by
  go_enter Tryz.func33, Tryz.ntmps33
  go_wp2_with fail
  go_ret
  exact ⟨rfl, rfl⟩
theorem three_boxes (w : World) (u v x : Value) (t1 t2 t3 : TypeId) (V : World) (hV : V = ((w.alloc (.cells #[u] t1)).alloc (.cells #[v] t2)).alloc (.cells #[x] t3)) : V.heap[w.heap.size]? = some (.cells #[u] t1) ∧ V.heap[w.heap.size + 1]? = some (.cells #[v] t2) ∧ V.heap[w.heap.size + 2]? = some (.cells #[x] t3) ∧ On w V ∧ V.heap.size = w.heap.size + 3 := by
  subst hV
  refine ⟨(Below.heap_alloc _ _ _ (by simp; omega)).trans ((Below.heap_alloc _ _ _ (by simp)).trans (World.alloc_heap_new w _)), (Below.heap_alloc _ _ _ (by simp)).trans ?_, ?_, (((Below.refl _ w).alloc (Nat.le_refl _) _).alloc (by simp) _).alloc (by simp; omega) _, by simp⟩
  · have := World.alloc_heap_new (w.alloc (.cells #[u] t1)) (.cells #[v] t2)
    rwa [World.size_alloc] at this
  · have := World.alloc_heap_new ((w.alloc (.cells #[u] t1)).alloc (.cells #[v] t2)) (.cells #[x] t3)
    rwa [World.size_alloc, World.size_alloc] at this
end Go.Proofs.YtdjnaejblgheoaaGreat
