import Derived.Test.YtamakeogaipdiaaJA00
import Derived.Test.YtamakeogaipdiaaRows
import Derived.Test.YtamakeogaipdiaaJA01
import Derived.OwnWalk
import Derived.Deep.WholeRow
import Derived.DeepKeys
import Derived.Lib.SmallJoins
import Derived.Deep.MidRow
import Derived.BigQuiet
import Derived.Deep.QuietTactic
import Derived.RangeFuncBox
import Derived.RangeFuncNested
import Derived.RangeFuncBound
import Derived.RangeFuncCalls
import Derived.RangeFuncLeaves
import Derived.Shelf.Abstract
import Derived.Shelf.RegionOpen
import Derived.WalkKit
import Derived.OwnWalkIn
import Derived.TacticsInMore
import Derived.LoopNIn
import Derived.LoopIn
import Derived.Maps.AppendAt
import Derived.Lib.MinMax
import Derived.Test.YtamakeogaipdiaaJA02
/- The document's answers for package lex: one byte, and the size of a character. -/
namespace Go.Proofs.Ytamakeogaipdiaa
open Go.RowKit
set_option linter.unusedVariables false
set_option linter.unusedSimpArgs false
theorem in_any (s : ByteArray) (k : Nat) (a b : Int) (w : World) (hk : k ≤ 1000000) (hs : s.size ≤ 1000000) : Calls Try.prog 55 #[.string s, .int .i64 k, .int .u8 a, .int .u8 b] w fun e w' => e = .returned (.bool (inB s k a b)) ∧ w = w' := by
  by_cases h1 : k < s.size
  · have hb := bAt_get s k h1
    have h2 : (k : Int) < (s.size : Int) := by omega
    by_cases h3 : a ≤ bAt s k
    all_goals
      go_enter Try.func55, Try.ntmps55
      go_wp2
      go_ret
      exact ⟨ret_bool (by rw [inB_at h1]; first | (simp [h3]; done) | (rw [decide_eq_false (show ¬ a ≤ bAt s k by omega)]; rfl)), rfl⟩
  · have h2 : (s.size : Int) ≤ (k : Int) := by omega
    go_enter Try.func55, Try.ntmps55
    go_wp2
    go_ret
    exact ⟨ret_bool (inB_ge h1 a b).symm, rfl⟩
theorem in_at {s : ByteArray} {x : Int} {k : Nat} (hx : x = (k : Int)) (a b : Int) (w : World) (hk : k ≤ 1000000) (hs : s.size ≤ 1000000) : Calls Try.prog 55 #[.string s, .int .i64 x, .int .u8 a, .int .u8 b] w fun e w' => e = .returned (.bool (inB s k a b)) ∧ w = w' := by
  subst hx; exact in_any s k a b w hk hs
theorem more_any (s : ByteArray) (k n : Nat) (w : World) (hk : k ≤ 900000) (hn : n ≤ 3) (hs : s.size ≤ 1000000) : Calls Try.prog 66 #[.string s, .int .i64 k, .int .i64 n] w fun e w' => e = .returned (.bool (moreB s k n)) ∧ w = w' := by
  go_enter Try.func66, Try.ntmps66
  go_wp2_with fail
  go_loopw [7] (fun i wr => ∃ j : Nat, j ≤ n ∧ i = .int .i64 j ∧ moreB s k j = true ∧ wr = w) (fun i _ => n - (intOf i).toNat)
  case atStart => exact ⟨0, by omega, rfl, rfl, rfl⟩
  case round =>
    obtain ⟨j, hj, rfl, hm, rfl⟩ := hrel
    have HM := Lib.hid hm
    clear hm
    by_cases hlt : j < n
    · obtain ⟨v, hv⟩ : ∃ v, inB s (k + j) 128 191 = v := ⟨_, rfl⟩
      cases v
      · have HN := Lib.hid (moreB_no (i := k) hlt hv)
        go_wp2_with (go_at_call 55; refine (in_at (k := k + j) (by omega) _ _ _ (by omega) hs).mono ?_; rintro e w' ⟨rfl, rfl⟩)
        go_ret
        exact ⟨ret_bool HN.out.symm, rfl⟩
      · have HN := Lib.hid (show moreB s k (j + 1) = true by show (moreB s k j && inB s (k + j) 128 191) = true; rw [HM.out, hv]; rfl)
        go_wp2_with (go_at_call 55; refine (in_at (k := k + j) (by omega) _ _ _ (by omega) hs).mono ?_; rintro e w' ⟨rfl, rfl⟩)
        go_roundw
        case rel => exact ⟨j + 1, by omega, by go_num, HN.out, by first | rfl | trivial⟩
        case measure => simp [intOf]; omega
    · obtain rfl : j = n := by omega
      go_wp2_with fail
      go_ret
      exact ⟨ret_bool HM.out.symm, rfl⟩
theorem more_at {s : ByteArray} {x y : Int} {k n : Nat} (hx : x = (k : Int)) (hy : y = (n : Int)) (w : World) (hk : k ≤ 900000) (hn : n ≤ 3) (hs : s.size ≤ 1000000) : Calls Try.prog 66 #[.string s, .int .i64 x, .int .i64 y] w fun e w' => e = .returned (.bool (moreB s k n)) ∧ w = w' := by
  subst hx hy; exact more_any s k n w hk hn hs
theorem in_k1 (s : ByteArray) (k : Nat) (a b : Int) (w : World) (hk : k ≤ 800000) (hs : s.size ≤ 1000000) : Calls Try.prog 55 #[.string s, .int .i64 ((k : Int) + 1), .int .u8 a, .int .u8 b] w fun e w' => e = .returned (.bool (inB s (k + 1) a b)) ∧ w = w' := in_at (by omega) a b w (by omega) hs
theorem more_k1_1 (s : ByteArray) (k : Nat) (w : World) (hk : k ≤ 800000) (hs : s.size ≤ 1000000) : Calls Try.prog 66 #[.string s, .int .i64 ((k : Int) + 1), .int .i64 1] w fun e w' => e = .returned (.bool (moreB s (k + 1) 1)) ∧ w = w' := more_at (by omega) (by omega) w (by omega) (by omega) hs
theorem more_k1_2 (s : ByteArray) (k : Nat) (w : World) (hk : k ≤ 800000) (hs : s.size ≤ 1000000) : Calls Try.prog 66 #[.string s, .int .i64 ((k : Int) + 1), .int .i64 2] w fun e w' => e = .returned (.bool (moreB s (k + 1) 2)) ∧ w = w' := more_at (by omega) (by omega) w (by omega) (by omega) hs
theorem more_k1_3 (s : ByteArray) (k : Nat) (w : World) (hk : k ≤ 800000) (hs : s.size ≤ 1000000) : Calls Try.prog 66 #[.string s, .int .i64 ((k : Int) + 1), .int .i64 3] w fun e w' => e = .returned (.bool (moreB s (k + 1) 3)) ∧ w = w' := more_at (by omega) (by omega) w (by omega) (by omega) hs
theorem more_k2_1 (s : ByteArray) (k : Nat) (w : World) (hk : k ≤ 800000) (hs : s.size ≤ 1000000) : Calls Try.prog 66 #[.string s, .int .i64 ((k : Int) + 2), .int .i64 1] w fun e w' => e = .returned (.bool (moreB s (k + 2) 1)) ∧ w = w' := more_at (by omega) (by omega) w (by omega) (by omega) hs
theorem more_k2_2 (s : ByteArray) (k : Nat) (w : World) (hk : k ≤ 800000) (hs : s.size ≤ 1000000) : Calls Try.prog 66 #[.string s, .int .i64 ((k : Int) + 2), .int .i64 2] w fun e w' => e = .returned (.bool (moreB s (k + 2) 2)) ∧ w = w' := more_at (by omega) (by omega) w (by omega) (by omega) hs
theorem more_k2_3 (s : ByteArray) (k : Nat) (w : World) (hk : k ≤ 800000) (hs : s.size ≤ 1000000) : Calls Try.prog 66 #[.string s, .int .i64 ((k : Int) + 2), .int .i64 3] w fun e w' => e = .returned (.bool (moreB s (k + 2) 3)) ∧ w = w' := more_at (by omega) (by omega) w (by omega) (by omega) hs
end Go.Proofs.Ytamakeogaipdiaa
/- Tokens in memory; what a reader of scripts answers. -/
namespace Go.Proofs.Ytamakeogaipdiaa
open Go.RowKit
set_option linter.unusedVariables false
set_option linter.unusedSimpArgs false
def textV : Option Nat → Value
  | none => .tuple #[.int .i64 0, .bool true]
  | some p => .tuple #[.int .i64 (p : Int), .bool false]
def encT (t : Tok) : List Value := [.int .i64 t.kind, .int .i32 t.sign, .int .i64 t.n, .int .i64 t.at_]
theorem encT_len (t : Tok) : (encT t).length = 4 := rfl
theorem toks_at {w : World} {A : Option Addr} {n : Nat} {zs : List Tok} (h : Rows 4 encT w A n zs) {i : Nat} (hi : i < n) :
    ∃ b off x y u v, A = some ⟨b, off, none⟩ ∧ b < w.heap.size ∧ zs[i]? = some ⟨x, y, u, v⟩ ∧ w.cell? ⟨b, off + i * 4, none⟩ = some (.int .i64 x) ∧ w.cell? ⟨b, off + i * 4 + 1, none⟩ = some (.int .i32 y) ∧ w.cell? ⟨b, off + i * 4 + 2, none⟩ = some (.int .i64 u) ∧ w.cell? ⟨b, off + i * 4 + 3, none⟩ = some (.int .i64 v) := by
  obtain ⟨b, off, ⟨x, y, u, v⟩, h1, h2, h3, h4⟩ := h.at_ hi
  exact ⟨b, off, x, y, u, v, h1, h2, h3, h4 0 _ rfl, h4 1 _ rfl, h4 2 _ rfl, h4 3 _ rfl⟩
theorem tok_info : (Try.prog.info? 75).map (fun i => (i.zero, i.size, i.bytes)) = some (some (.agg #[.int .i64 0, .int .i32 0, .int .i64 0, .int .i64 0]), 4, 32) := by kernel_rfl
def LexPost (w : World) (s : ByteArray) (e : Ending) (w' : World) : Prop :=
  (∃ toks A n c, lexB s = (some toks, 0) ∧ e = .returned (.tuple #[.slice A n c, .int .i64 0, .int .i64 0]) ∧ Rows 4 encT w' A n toks ∧ (n ≤ s.size ∧ n ≤ c ∧ ∀ p, A = some p → p.block < w'.heap.size) ∧ Below w.heap.size w w') ∨
  (∃ k : Nat, lexB s = (none, k) ∧ e = .returned (.tuple #[.slice none 0 0, .int .i64 (k : Int), .int .i64 1]) ∧ k < s.size ∧ Below w.heap.size w w')
theorem owns_cap {w : World} {base : Nat} {e : TypeId} {size : Nat} {A : Option Addr} {n c : Nat} {xs : List Value} (h : w.ownsRow base e size (.slice A n c) n xs) : n ≤ c := by
  rcases h.2 with ⟨h1, h2⟩ | ⟨g, cap, cur, h1, _, _, h2, _⟩
  · omega
  · injection h1 with _ _ h1; omega
theorem owns_at {w : World} {base : Nat} {e : TypeId} {size : Nat} {A : Option Addr} {n c : Nat} {xs : List Value} (h : w.ownsRow base e size (.slice A n c) n xs) : ∀ p, A = some p → p.block < w.heap.size := by
  intro p hp
  subst hp
  rcases h.2 with ⟨h1, h2⟩ | ⟨g, cap, cur, h1, _, h2, _⟩
  · injection h1 with h1; cases h1
  · injection h1 with h1; injection h1 with h1; subst h1
    exact (Array.getElem?_eq_some_iff.1 h2).1
theorem tok_cells (w : World) (a b c d : Int) (t : TypeId) (n : Nat) (hn : n = w.heap.size) : Cells (w.alloc (.cells #[.int .i64 a, .int .i32 b, .int .i64 c, .int .i64 d] t)) (some ⟨n, 0, none⟩) 1 4 [.int .i64 a, .int .i32 b, .int .i64 c, .int .i64 d] := by
  subst hn
  refine ⟨rfl, by decide, fun _ => ⟨_, _, rfl, by simp, fun j u hu => ?_⟩⟩
  rw [Nat.zero_add]; exact (Box.new w [.int .i64 a, .int .i32 b, .int .i64 c, .int .i64 d] t).2.2 j u hu
theorem tok_cell4 (a b c d : Int) : ∀ u ∈ ([.int .i64 a, .int .i32 b, .int .i64 c, .int .i64 d] : List Value), u.oneCell' = true := by
  intro u hu; simp at hu; rcases hu with rfl | rfl | rfl | rfl <;> rfl
theorem toks_snoc (out : List Tok) (t : Tok) : (out ++ [t]).flatMap encT = out.flatMap encT ++ encT t := by rw [List.flatMap_append]; simp
end Go.Proofs.Ytamakeogaipdiaa
/- A style as cells. -/
namespace Go.Proofs.Ytamakeogaipdiaa
open Go.RowKit
set_option linter.unusedVariables false
set_option linter.unusedSimpArgs false
def encS12 (s : Sty) : List Value := [.int .i64 s.top, .int .i64 s.bottom, .int .i64 s.padTop, .int .i64 s.padBottom, .int .i64 s.inset, .int .i64 s.orphans, .int .i64 s.widows, .int .i64 s.head, .int .i64 s.before, .int .i64 s.after, .int .i64 s.inside, .int .i64 s.clear]
end Go.Proofs.Ytamakeogaipdiaa
/- Nodes in memory; what a reader of nodes answers. -/
namespace Go.Proofs.Ytamakeogaipdiaa
open Go.RowKit
set_option linter.unusedVariables false
set_option linter.unusedSimpArgs false
structure NdM where
  kind : Int
  size : Int
  sty : Sty
  line : Int
  space : Int
  A : Option Addr
  n : Nat
  c : Nat
  side : Int
  w : Int
  h : Int
def encM (m : NdM) : List Value := [.int .i64 m.kind, .int .i64 m.size, .int .i64 m.sty.top, .int .i64 m.sty.bottom, .int .i64 m.sty.padTop, .int .i64 m.sty.padBottom, .int .i64 m.sty.inset, .int .i64 m.sty.orphans, .int .i64 m.sty.widows, .int .i64 m.sty.head, .int .i64 m.sty.before, .int .i64 m.sty.after, .int .i64 m.sty.inside, .int .i64 m.sty.clear,
  .int .i64 m.line, .int .i64 m.space, .slice m.A m.n m.c, .int .i64 m.side, .int .i64 m.w, .int .i64 m.h]
theorem encM_len (m : NdM) : (encM m).length = 20 := rfl
theorem encM_one (m : NdM) : ∀ u ∈ encM m, u.oneCell' = true := by
  intro u hu
  simp only [encM, List.mem_cons, List.not_mem_nil, or_false] at hu
  rcases hu with h | h | h | h | h | h | h | h | h | h | h | h | h | h | h | h | h | h | h | h <;> subst h <;> rfl
theorem encMs_one (zs : List NdM) : ∀ u ∈ zs.flatMap encM, u.oneCell' = true := by
  intro u hu
  obtain ⟨m, _, hm⟩ := List.mem_flatMap.1 hu
  exact encM_one m u hm
/-- the node x lies there as m; its words in a row of their own, from block base on. -/
def Holds (base : Nat) (w : World) (m : NdM) (x : Nd) : Prop := (x.kind = m.kind ∧ x.size = m.size ∧ x.sty = m.sty ∧ x.line = m.line ∧ x.space = m.space ∧ x.side = m.side ∧ x.w = m.w ∧ x.h = m.h) ∧ w.ownsRow base 3 1 (.slice m.A m.n m.c) m.n (x.words.map (Value.int .i64))
def Holds2 (base : Nat) (w : World) (zs : List NdM) (l : List Nd) : Prop := zs.length = l.length ∧ ∀ (i : Nat) (m : NdM) (x : Nd), zs[i]? = some m → l[i]? = some x → Holds base w m x
theorem Holds2.below {base : Nat} {w w' : World} {zs : List NdM} {l : List Nd} (h : Holds2 base w zs l) (hb : Below w.heap.size w w') : Holds2 base w' zs l :=
  ⟨h.1, fun i m x h1 h2 => ⟨(h.2 i m x h1 h2).1, owns_below (h.2 i m x h1 h2).2 hb⟩⟩
theorem Holds2.nil (base : Nat) (w : World) : Holds2 base w [] [] := ⟨rfl, fun i m x h => by simp at h⟩
theorem Holds2.append {base : Nat} {w : World} {zs zs' : List NdM} {l l' : List Nd} (h : Holds2 base w zs l) (h' : Holds2 base w zs' l') : Holds2 base w (zs ++ zs') (l ++ l') := by
  refine ⟨by rw [List.length_append, List.length_append, h.1, h'.1], fun i m x h1 h2 => ?_⟩
  by_cases hi : i < zs.length
  · rw [List.getElem?_append_left hi] at h1
    rw [List.getElem?_append_left (by rw [← h.1]; exact hi)] at h2
    exact h.2 i m x h1 h2
  · rw [List.getElem?_append_right (by omega)] at h1
    rw [List.getElem?_append_right (by rw [← h.1]; omega), ← h.1] at h2
    exact h'.2 _ m x h1 h2
theorem Holds2.one {base : Nat} {w : World} {m : NdM} {x : Nd} (h : Holds base w m x) : Holds2 base w [m] [x] := by
  refine ⟨rfl, fun i m' x' h1 h2 => ?_⟩
  cases i with
  | zero => simp at h1 h2; subst h1 h2; exact h
  | succ i => simp at h1
/-- the slice's block is one from base on. -/
def Far (base : Nat) (A : Option Addr) : Prop := ∀ p, A = some p → base ≤ p.block
theorem Far.nil (base : Nat) : Far base .none := fun p h => by cases h
theorem Far.at_ {base g : Nat} (h : base ≤ g) : Far base (some ⟨g, 0, .none⟩) := fun p e => by cases e; exact h
theorem Far.up {base base' : Nat} {A : Option Addr} (h : Far base A) (hb : base' ≤ base) : Far base' A := fun p e => Nat.le_trans hb (h p e)
theorem Far.owns {w : World} {base : Nat} {e : TypeId} {size : Nat} {A : Option Addr} {n c : Nat} {xs : List Value} (h : w.ownsRow base e size (.slice A n c) n xs) : Far base A := fun p hp => owns_block h p.block (by subst hp; rfl)
/-- all blocks from base on are as they were. -/
def Same (base : Nat) (w w' : World) : Prop := w.heap.size ≤ w'.heap.size ∧ ∀ k, base ≤ k → k < w.heap.size → w'.heap[k]? = w.heap[k]?
theorem Same.refl (base : Nat) (w : World) : Same base w w := ⟨Nat.le_refl _, fun _ _ _ => rfl⟩
theorem Same.below {base : Nat} {w w' : World} (h : Below w.heap.size w w') : Same base w w' := ⟨h.size, fun k _ hk => h.block k hk⟩
theorem Same.set {base : Nat} (w : World) {m : Nat} (hm : m < base) (j : Nat) (v : Value) : Same base w (w.setCell ⟨m, j, .none⟩ v) :=
  ⟨by simp, fun k hk _ => Below.heap_setCell _ _ _ _ (fun e => by simp at e; omega)⟩
theorem Same.trans {base : Nat} {a b c : World} (h : Same base a b) (k : Same base b c) : Same base a c := ⟨Nat.le_trans h.1 k.1, fun i hi hl => (k.2 i hi (Nat.lt_of_lt_of_le hl h.1)).trans (h.2 i hi hl)⟩
theorem Rows.same {α : Type} {k : Nat} {enc : α → List Value} {w w' : World} {A : Option Addr} {n : Nat} {zs : List α} {base : Nat} (h : Rows k enc w A n zs) (hA : Far base A) (hs : Same base w w') : Rows k enc w' A n zs :=
  ⟨h.1, h.2.1, fun hn => by
    obtain ⟨b, off, e, hl, hc⟩ := h.2.2 hn
    have hb := hA _ e
    exact ⟨b, off, e, Nat.lt_of_lt_of_le hl hs.1, fun i x hx j v hv => (World.cell?_of_block (w := w) (a := ⟨b, _, .none⟩) (hs.2 b hb hl)).trans (hc i x hx j v hv)⟩⟩
theorem owns_same {w w' : World} {base : Nat} {e : TypeId} {size : Nat} {v : Value} {n : Nat} {xs : List Value} (h : w.ownsRow base e size v n xs) (hs : Same base w w') : w'.ownsRow base e size v n xs := by
  refine ⟨h.1, ?_⟩
  rcases h.2 with h2 | ⟨g, cap, cur, h1, h2, h3, h4⟩
  · exact .inl h2
  · exact .inr ⟨g, cap, cur, h1, h2, (hs.2 g h2 (Array.getElem?_eq_some_iff.1 h3).1).trans h3, h4⟩
theorem owns_up {w : World} {base base' : Nat} {e : TypeId} {size : Nat} {v : Value} {n : Nat} {xs : List Value} (h : w.ownsRow base e size v n xs) (hb : base' ≤ base) : w.ownsRow base' e size v n xs := by
  refine ⟨h.1, ?_⟩
  rcases h.2 with h2 | ⟨g, cap, cur, h1, h2, h3⟩
  · exact .inl h2
  · exact .inr ⟨g, cap, cur, h1, by omega, h3⟩
/-- a step that turns a row of another type. -/
theorem owns_grown {w w' : World} {base base' : Nat} {e e' : TypeId} {size size' : Nat} {v v' : Value} {n n' : Nat} {xs xs' : List Value} (h : w.ownsRow base e size v n xs) (h' : w.ownsRow base' e' size' v' n' xs') (hne : e ≠ e') (hg : w.grownBy w' v'.ownBlock) : w'.ownsRow base e size v n xs := by
  refine ⟨h.1, ?_⟩
  rcases h.2 with h2 | ⟨g, cap, cur, h1, h2, h3, h4⟩
  · exact .inl h2
  · refine .inr ⟨g, cap, cur, h1, h2, (hg.block g (Array.getElem?_eq_some_iff.1 h3).1 (fun q => ?_)).trans h3, h4⟩
    rcases h'.2 with ⟨k, _⟩ | ⟨g', cap', cur', k, _, k3, _⟩
    · rw [k] at q; cases q
    · rw [k] at q
      injection q with q
      rw [show g = g' from q, k3] at h3
      injection h3 with h3
      injection h3 with _ h3 _
      exact hne h3.symm
theorem Holds2.grown {base base' : Nat} {w w' : World} {zs : List NdM} {l : List Nd} {e' : TypeId} {size' n' : Nat} {v' : Value} {xs' : List Value} (h : Holds2 base w zs l) (h' : w.ownsRow base' e' size' v' n' xs') (hne : 3 ≠ e') (hg : w.grownBy w' v'.ownBlock) : Holds2 base w' zs l :=
  ⟨h.1, fun i m x h1 h2 => ⟨(h.2 i m x h1 h2).1, owns_grown (h.2 i m x h1 h2).2 h' hne hg⟩⟩
theorem Holds2.same {base : Nat} {w w' : World} {zs : List NdM} {l : List Nd} (h : Holds2 base w zs l) (hs : Same base w w') : Holds2 base w' zs l :=
  ⟨h.1, fun i m x h1 h2 => ⟨(h.2 i m x h1 h2).1, owns_same (h.2 i m x h1 h2).2 hs⟩⟩
theorem Holds2.up {base base' : Nat} {w : World} {zs : List NdM} {l : List Nd} (h : Holds2 base w zs l) (hb : base' ≤ base) : Holds2 base' w zs l :=
  ⟨h.1, fun i m x h1 h2 => ⟨(h.2 i m x h1 h2).1, owns_up (h.2 i m x h1 h2).2 hb⟩⟩
theorem Holds.ints {base : Nat} {w : World} {m : NdM} {x : Nd} (h : Holds base w m x) : Ints w m.A m.n x.words := (ownsRow_cells h.2).ints
/-- nodes in memory, all of it from block base on. -/
def Nds (base : Nat) (w : World) (A : Option Addr) (n : Nat) (l : List Nd) : Prop := ∃ zs : List NdM, Rows 20 encM w A n zs ∧ Holds2 base w zs l ∧ Far base A
theorem Nds.same {base : Nat} {w w' : World} {A : Option Addr} {n : Nat} {l : List Nd} (h : Nds base w A n l) (hs : Same base w w') : Nds base w' A n l := by
  obtain ⟨zs, h1, h2, h3⟩ := h
  exact ⟨zs, h1.same h3 hs, h2.same hs, h3⟩
theorem Nds.below {base : Nat} {w w' : World} {A : Option Addr} {n : Nat} {l : List Nd} (h : Nds base w A n l) (hb : Below w.heap.size w w') : Nds base w' A n l := h.same (Same.below hb)
theorem Nds.up {base base' : Nat} {w : World} {A : Option Addr} {n : Nat} {l : List Nd} (h : Nds base w A n l) (hb : base' ≤ base) : Nds base' w A n l := by
  obtain ⟨zs, h1, h2, h3⟩ := h
  exact ⟨zs, h1, h2.up hb, h3.up hb⟩
theorem Nds.nil (base : Nat) (w : World) : Nds base w .none 0 [] := ⟨[], Rows.nil _ _, Holds2.nil _ _, Far.nil _⟩
theorem Nds.len {base : Nat} {w : World} {A : Option Addr} {n : Nat} {l : List Nd} (h : Nds base w A n l) : l.length = n := by
  obtain ⟨zs, h1, h2, _⟩ := h
  rw [← h2.1]; exact h1.1
/-- a number of nodes is no more than that of the tokens. -/
theorem Parse.len {l : List Tok} {t : Bool} {i : Nat} {out : List Nd} {r : Res (List Nd)} (h : Parse l t i out r) : ∀ x b, r = .ok x b → x.length + i ≤ out.length + b := by
  have hbox : ∀ i kind side e x b, boxR l i kind side e = .ok x b → x.length + i ≤ b := by
    intro i kind side e x b hr
    unfold boxR at hr
    split at hr
    · cases hr
    split at hr
    · cases hr
    split at hr
    · cases hr
    · cases hr; simp; omega
  induction h with
  | stop _ => intro x b h; cases h; omega
  | more _ _ _ ih1 ih2 => intro x b h; have := ih1 _ _ rfl; have := ih2 _ _ h; simp at *; omega
  | fail _ _ _ => intro x b h; cases h
  | blockA _ _ => intro x b h; cases h
  | blockN _ _ _ _ => intro x b h; cases h
  | blockE _ _ _ _ _ => intro x b h; cases h
  | block _ g2 _ _ ih => intro x b h; cases h; have := ih _ _ rfl; have := g2.le; simp [Res.at_] at *; omega
  | textL _ _ => intro x b h; cases h
  | textS _ _ _ => intro x b h; cases h
  | textW _ _ _ _ _ => intro x b h; cases h
  | text _ _ _ g4 _ _ => intro x b h; cases h; have := g4.le; simp; omega
  | mono _ => intro x b h; have := hbox _ _ _ _ _ _ h; simp; omega
  | left _ _ => intro x b h; have := hbox _ _ _ _ _ _ h; simp; omega
  | right _ _ => intro x b h; have := hbox _ _ _ _ _ _ h; simp; omega
  | side _ _ _ => intro x b h; cases h
def gotV (A : Option Addr) (n c : Nat) (p wrong : Int) : Value := .agg #[.slice A n c, .int .i64 p, .int .i64 wrong]
/-- what one of the readers answers. -/
def GotR (w : World) (r : Res (List Nd)) (e : Ending) (w' : World) : Prop := match r with
  | .ok x b => ∃ A n c, e = .returned (gotV A n c b 0) ∧ Nds w.heap.size w' A n x ∧ Below w.heap.size w w'
  | .bad p => e = .returned (gotV none 0 0 p 1) ∧ Below w.heap.size w w'
def GotP (toks : List Tok) (t : Bool) (i : Nat) (w : World) (e : Ending) (w' : World) : Prop := ∃ r, Parse toks t i [] r ∧ GotR w r e w'
/-- a block that holds a struct, read whole. -/
theorem box_load {P : Program} {w : World} {n k : Nat} {vs : List Value} (h : Box w n vs) (hk : vs.length = k) (cs : Array Value) (hc : cs = vs.toArray) : (loadCellsFrom ⟨n, 0, none⟩ 0 k #[]).run P w = .ok cs w := by
  subst hk hc
  have := run_loadCells_list (P := P) w ⟨n, 0, none⟩ vs (fun j v hv => by
    rw [Go.WideShapes.add_plain, Nat.zero_add]; exact h.2.2 j v hv)
  simpa [loadCells] using this
theorem box3_of {w : World} {n : Nat} {a b c : Value} (h : Box w n [a, b, c]) : (w.cell? ⟨n, 0, none⟩ = some a ∧ w.cell? ⟨n, 1, none⟩ = some b ∧ w.cell? ⟨n, 2, none⟩ = some c) ∧ (w.frozen? ⟨n, 0, none⟩ = false ∧ w.frozen? ⟨n, 1, none⟩ = false ∧ w.frozen? ⟨n, 2, none⟩ = false) ∧ n < w.heap.size :=
  ⟨⟨h.2.2 0 _ rfl, h.2.2 1 _ rfl, h.2.2 2 _ rfl⟩, ⟨h.2.1 _, h.2.1 _, h.2.1 _⟩, h.1⟩
theorem rows_box {α : Type} {k : Nat} {enc : α → List Value} (hk : ∀ x, (enc x).length = k) {w : World} {n : Nat} {zs : List α} (h : Box w n (zs.flatMap enc)) (hl : zs.length ≤ 1000000) : Rows k enc w (some ⟨n, 0, none⟩) zs.length zs := by
  refine ⟨rfl, by omega, fun _ => ⟨n, 0, rfl, h.1, fun i x hx j v hv => ?_⟩⟩
  rw [Nat.zero_add]
  exact h.2.2 _ _ (flat_get hk zs i x j v hx hv)
theorem box_new (w : World) (vs : List Value) (t : TypeId) (n : Nat) (h : n = w.heap.size) (cs : Array Value) (hc : cs = vs.toArray) : Box (w.alloc (.cells cs t)) n vs := by subst h hc; exact Box.new w vs t
end Go.Proofs.Ytamakeogaipdiaa
/- Styles compared; nodes compared. -/
namespace Go.Proofs.Ytamakeogaipdiaa
open Go.RowKit
set_option linter.unusedVariables false
set_option linter.unusedSimpArgs false
def litS (s : Sty) : List Lit := [.int .i64 s.top, .int .i64 s.bottom, .int .i64 s.padTop, .int .i64 s.padBottom, .int .i64 s.inset, .int .i64 s.orphans, .int .i64 s.widows, .int .i64 s.head, .int .i64 s.before, .int .i64 s.after, .int .i64 s.inside, .int .i64 s.clear]
def styB (s t : Sty) : Bool := s.top == t.top && s.bottom == t.bottom && s.padTop == t.padTop && s.padBottom == t.padBottom && s.inset == t.inset && s.orphans == t.orphans && s.widows == t.widows && s.head == t.head && s.before == t.before && s.after == t.after && s.inside == t.inside && s.clear == t.clear
theorem styB_iff (s t : Sty) : styB s t = true ↔ s = t := by
  obtain ⟨a0, a1, a2, a3, a4, a5, a6, a7, a8, a9, a10, a11⟩ := s
  obtain ⟨b0, b1, b2, b3, b4, b5, b6, b7, b8, b9, b10, b11⟩ := t
  simp [styB, and_assoc]
theorem litS_iff (s t : Sty) : litS s = litS t ↔ s = t := by
  obtain ⟨a0, a1, a2, a3, a4, a5, a6, a7, a8, a9, a10, a11⟩ := s
  obtain ⟨b0, b1, b2, b3, b4, b5, b6, b7, b8, b9, b10, b11⟩ := t
  simp [litS]
theorem part_int (xs : Array Value) (k : Nat) (v : Value) (h : xs[k]? = some v) (w : World) : (part 3 xs k).run Try.prog w = .ok v w := run_part_plain w (by kernel_rfl) h
theorem ite_ok {p : Prop} [Decidable p] {c : Bool} {w : World} : (if p then Result.ok c w else Result.ok false w) = Result.ok (decide p && c) w := by split <;> simp_all
theorem ite_and {b : Bool} {c : Bool} {w : World} : (if (!b) = true then Result.ok false w else Result.ok c w) = Result.ok (b && c) w := by cases b <;> rfl
set_option maxRecDepth 10000 in
theorem sty_equal (s t : Sty) (w : World) : (Op.equalIn 10000 43 (.agg (encS12 s).toArray) (.agg (encS12 t).toArray)).run Try.prog w = .ok (styB s t) w := by
  obtain ⟨a0, a1, a2, a3, a4, a5, a6, a7, a8, a9, a10, a11⟩ := s
  obtain ⟨b0, b1, b2, b3, b4, b5, b6, b7, b8, b9, b10, b11⟩ := t
  rw [show (10000 : Nat) = 9999 + 1 from rfl, run_equalIn_struct w 9999 _ _ _ (by kernel_rfl) (by kernel_rfl)]
  have hi : ∀ (a b : Int) (w : World), (Op.equalIn 9999 3 (.int .i64 a) (.int .i64 b)).run Try.prog w = .ok (a == b) w := fun a b w => run_equalIn_int w 9998 3 .i64 .i64 a b Try.underlying3
  simp [Program.fieldsOf, Try.underlying43, Op.eqFields, encS12, part_int, hi, styB, ite_and]
  simp only [ite_ok]
  congr 1
  rw [Bool.eq_iff_iff]
  simp [and_assoc]
/-- two nodes are the same. -/
def ndB (x y : Nd) : Bool := x.kind == y.kind && x.size == y.size && styB x.sty y.sty && x.line == y.line && x.space == y.space && x.side == y.side && x.w == y.w && x.h == y.h && x.words == y.words
theorem ndB_iff (x y : Nd) : ndB x y = true ↔ x = y := by
  obtain ⟨a0, a1, a2, a3, a4, a5, a6, a7, a8⟩ := x
  obtain ⟨b0, b1, b2, b3, b4, b5, b6, b7, b8⟩ := y
  simp [ndB, styB_iff]
  constructor
  · rintro ⟨⟨⟨⟨⟨⟨⟨⟨h1, h2⟩, h3⟩, h4⟩, h5⟩, h6⟩, h7⟩, h8⟩, h9⟩
    exact ⟨h1, h2, h3, h4, h5, h9, h6, h7, h8⟩
  · rintro ⟨h1, h2, h3, h4, h5, h9, h6, h7, h8⟩
    exact ⟨⟨⟨⟨⟨⟨⟨⟨h1, h2⟩, h3⟩, h4⟩, h5⟩, h6⟩, h7⟩, h8⟩, h9⟩
/-- a node that can be read there: its words, too. -/
def Shows (w : World) (m : NdM) (x : Nd) : Prop := (x.kind = m.kind ∧ x.size = m.size ∧ x.sty = m.sty ∧ x.line = m.line ∧ x.space = m.space ∧ x.side = m.side ∧ x.w = m.w ∧ x.h = m.h) ∧ Ints w m.A m.n x.words
theorem Shows.below {w w' : World} {m : NdM} {x : Nd} (h : Shows w m x) (hb : Below w.heap.size w w') : Shows w' m x := ⟨h.1, (h.2.cells.below hb rfl).ints⟩
theorem Holds.shows {base : Nat} {w : World} {m : NdM} {x : Nd} (h : Holds base w m x) : Shows w m x := ⟨h.1, h.ints⟩
/-- nodes that can be read there. -/
def Sees (w : World) (A : Option Addr) (n : Nat) (l : List Nd) : Prop := ∃ zs : List NdM, Rows 20 encM w A n zs ∧ zs.length = l.length ∧ ∀ (i : Nat) (m : NdM) (x : Nd), zs[i]? = some m → l[i]? = some x → Shows w m x
theorem Sees.below {w w' : World} {A : Option Addr} {n : Nat} {l : List Nd} (h : Sees w A n l) (hb : Below w.heap.size w w') : Sees w' A n l := by
  obtain ⟨zs, h1, h2, h3⟩ := h
  exact ⟨zs, h1.below hb, h2, fun i m x h4 h5 => (h3 i m x h4 h5).below hb⟩
theorem Nds.sees {base : Nat} {w : World} {A : Option Addr} {n : Nat} {l : List Nd} (h : Nds base w A n l) : Sees w A n l := by
  obtain ⟨zs, h1, h2, h3⟩ := h
  exact ⟨zs, h1, h2.1, fun i m x h4 h5 => (h2.2 i m x h4 h5).shows⟩
theorem Sees.len {w : World} {A : Option Addr} {n : Nat} {l : List Nd} (h : Sees w A n l) : l.length = n := by
  obtain ⟨zs, h1, h2, _⟩ := h
  rw [← h2]; exact h1.1
end Go.Proofs.Ytamakeogaipdiaa
/- The program's package valid: an odd number is looked for. -/
namespace Go.Proofs.Ytamakeogaipdiaa
open Go.RowKit
set_option linter.unusedVariables false
set_option linter.unusedSimpArgs false
def oddB (a b n : Int) : Bool := !fromB n a b
theorem odd1_any (n a b : Int) (g3 g4 : Nat) (w : World) (h3 : w.cell? ⟨g3, 0, none⟩ = some (.int .i64 a)) (h4 : w.cell? ⟨g4, 0, none⟩ = some (.int .i64 b)) : Calls Try.prog 96 #[.int .i64 n, .pointer (some ⟨g3, 0, none⟩), .pointer (some ⟨g4, 0, none⟩)] w fun e w' => e = .returned (.bool (oddB a b n)) ∧ w = w' := by
  by_cases h : n < a
  all_goals
    go_enter Try.func96, Try.ntmps96
    go_wp2_with fail
    go_ret
    refine ⟨ret_bool ?_, rfl⟩
    rw [Bool.eq_iff_iff]
    simp [oddB, fromB] <;> omega
theorem odd1_to {n a b : Int} {v : Bool} (hv : oddB a b n = v) {g3 g4 : Nat} (w : World) (h3 : w.cell? ⟨g3, 0, none⟩ = some (.int .i64 a)) (h4 : w.cell? ⟨g4, 0, none⟩ = some (.int .i64 b)) : Calls Try.prog 96 #[.int .i64 n, .pointer (some ⟨g3, 0, none⟩), .pointer (some ⟨g4, 0, none⟩)] w fun e w' => e = .returned (.bool v) ∧ w = w' := by
  subst hv; exact odd1_any n a b g3 g4 w h3 h4
theorem any_at {zs : List Int} {a b : Int} {k : Nat} (hk : k < zs.length) (h : oddB a b (zs[k]?.getD 0) = true) : zs.any (oddB a b) = true := by
  rw [List.any_eq_true]
  refine ⟨zs[k], List.getElem_mem hk, ?_⟩
  simpa [hk] using h
theorem any_no {zs : List Int} {a b : Int} (h : ∀ j, j < zs.length → oddB a b (zs[j]?.getD 0) = false) : zs.any (oddB a b) = false := by
  rw [List.any_eq_false]
  intro z hz
  obtain ⟨j, hj, rfl⟩ := List.getElem_of_mem hz
  have := h j hj
  simp [hj] at this
  simp [this]
set_option maxHeartbeats 2000000 in
theorem indexf_any (zs : List Int) (a b : Int) (g3 g4 : Nat) (A : Option Addr) (n c : Nat) (w : World) (hz : Ints w A n zs) (h3 : w.cell? ⟨g3, 0, none⟩ = some (.int .i64 a)) (h4 : w.cell? ⟨g4, 0, none⟩ = some (.int .i64 b)) :
    Calls Try.prog 98 #[.slice A n c, .func (.func 96) #[] #[.pointer (some ⟨g3, 0, none⟩), .pointer (some ⟨g4, 0, none⟩)]] w fun e w' => ∃ i : Int, e = .returned (.int .i64 i) ∧ decide (0 ≤ i) = zs.any (oddB a b) ∧ w = w' := by
  have hl := hz.1
  have hn := hz.2.1
  have HZ := Lib.hid hz
  have H3 := Lib.hid h3
  have H4 := Lib.hid h4
  clear hz h3 h4
  go_enter Try.func98, Try.ntmps98
  go_wp2_with fail
  go_loopw [8] (fun i wr => ∃ k : Nat, k ≤ n ∧ i = .int .i64 k ∧ (∀ j, j < k → oddB a b (zs[j]?.getD 0) = false) ∧ wr = w) (fun i _ => n - (intOf i).toNat)
  case atStart => exact ⟨0, by omega, rfl, fun j hj => by omega, rfl⟩
  case round =>
    obtain ⟨k, hk, rfl, hno, rfl⟩ := hrel
    have HN := Lib.hid hno
    clear hno
    by_cases hlt : k < n
    · have hk2 : (k : Int) < (n : Int) := by omega
      obtain ⟨b1, o1, rfl, hc⟩ := HZ.out.at_ hlt
      obtain ⟨u, hu⟩ : ∃ u, zs[k]?.getD 0 = u := ⟨_, rfl⟩
      obtain ⟨v, hv⟩ : ∃ v, oddB a b u = v := ⟨_, rfl⟩
      rw [hu] at hc
      have HU := Lib.hid hu
      have HV := Lib.hid hv
      clear hv hu
      go_wp2_with fail
      refine (odd1_to HV.out _ H3.out H4.out).mono ?_
      rintro e w' ⟨rfl, rfl⟩
      cases v with
      | true =>
        have HY := Lib.hid (any_at (zs := zs) (a := a) (b := b) (k := k) (by omega) (by rw [HU.out]; exact HV.out))
        go_wp2_with fail
        go_ret
        exact ⟨_, rfl, by rw [HY.out]; simp, rfl⟩
      | false =>
        go_wp2_with fail
        go_roundw
        case rel => exact ⟨k + 1, by omega, by go_num, fun j hj => by
          by_cases e : j = k
          · subst e; rw [HU.out]; exact HV.out
          · exact HN.out j (by omega), by first | rfl | trivial⟩
        case measure => simp [intOf]; omega
    · have hk2 : (n : Int) ≤ (k : Int) := by omega
      have HY := Lib.hid (any_no (zs := zs) (a := a) (b := b) (fun j hj => HN.out j (by omega)))
      go_wp2_with fail
      go_ret
      exact ⟨_, rfl, by rw [HY.out]; simp, rfl⟩
theorem contains_any (zs : List Int) (a b : Int) (g3 g4 : Nat) (A : Option Addr) (n c : Nat) (w : World) (hz : Ints w A n zs) (h3 : w.cell? ⟨g3, 0, none⟩ = some (.int .i64 a)) (h4 : w.cell? ⟨g4, 0, none⟩ = some (.int .i64 b)) :
    Calls Try.prog 95 #[.slice A n c, .func (.func 96) #[] #[.pointer (some ⟨g3, 0, none⟩), .pointer (some ⟨g4, 0, none⟩)]] w fun e w' => e = .returned (.bool (zs.any (oddB a b))) ∧ w = w' := by
  have HZ := Lib.hid hz
  have H3 := Lib.hid h3
  have H4 := Lib.hid h4
  clear hz h3 h4
  go_enter Try.func95, Try.ntmps95
  go_wp2_with fail
  refine (indexf_any zs a b g3 g4 _ _ _ _ HZ.out H3.out H4.out).mono ?_
  rintro e w' ⟨i, rfl, hi, rfl⟩
  have HI := Lib.hid hi
  clear hi
  go_wp2_with fail
  go_ret
  exact ⟨ret_bool HI.out, rfl⟩
theorem cell_new1 (w : World) (v : Value) (t : TypeId) (n : Nat) (h : n = w.heap.size) : (w.alloc (.cells #[v] t)).cell? ⟨n, 0, none⟩ = some v := by subst h; exact (Box.new w [v] t).2.2 0 _ rfl
theorem podd_any (zs : List Int) (a b : Int) (A : Option Addr) (n c : Nat) (w : World) (hz : Ints w A n zs) :
    Calls Try.prog 83 #[.int .i64 a, .int .i64 b, .slice A n c] w fun e w' => e = .returned (.bool (zs.any (oddB a b))) ∧ Below w.heap.size w w' := by
  have HZ := Lib.hid hz
  clear hz
  go_enter Try.func83, Try.ntmps83
  go_wp2_with fail
  refine (contains_any zs a b _ _ _ _ _ _ (HZ.out.below (B := w.heap.size) (by go_grown) rfl) (On.cell (cell_new1 w _ _ _ rfl) _ (Below.alloc (Below.refl _ _) (Nat.le_refl _) _)) (cell_new1 _ _ _ _ (by simp))).mono ?_
  rintro e w' ⟨rfl, rfl⟩
  go_wp2_with fail
  go_ret
  exact ⟨rfl, by go_grown⟩
theorem podd_to {zs : List Int} {a b : Int} {v : Bool} (hv : zs.any (oddB a b) = v) {A : Option Addr} {n c : Nat} (w : World) (hz : Ints w A n zs) :
    Calls Try.prog 83 #[.int .i64 a, .int .i64 b, .slice A n c] w fun e w' => e = .returned (.bool v) ∧ Below w.heap.size w w' := by
  subst hv; exact podd_any zs a b A n c w hz
end Go.Proofs.Ytamakeogaipdiaa
/- Rows of nodes that come in: each node's cells, its words. (Written by program: tools/drafts/gennodeopen.py.) -/
namespace Go.Proofs.Ytamakeogaipdiaa
open Go.ChangeShapes Go.WideShapes Go.ChangeAt Go.RowKit Go.Joins
set_option linter.unusedVariables false
set_option linter.unusedSimpArgs false
theorem cellsNode : Try.prog.cellsOf 45 = 20 := by kernel_rfl
theorem cellsStyle : Try.prog.cellsOf 43 = 12 := by kernel_rfl
theorem cellsInt5 : Try.prog.cellsOf 3 = 1 := by kernel_rfl
theorem cellsInts5 : Try.prog.cellsOf 23 = 1 := by kernel_rfl
section
variable {H : Type} {enc : TypeId × Value → H} {W : World}
theorem trod_field {fs : Array Field} {t : TypeId} {fuel : Nat} {cs : List Value} {x : DataW H × List MemPlace} (ht : Try.prog.underlying t = some (.struct fs)) (h : DataW.trod enc Try.prog W 0 (fun _ => true) true fuel t cs = some x) :
    cs.length = Try.prog.cellsOf t ∧ ∃ n, ∀ (i : Nat) (f : Field), fs[i]? = some f → ∃ y, DataW.trod enc Try.prog W 0 (fun _ => true) true n f.type ((cs.drop f.offset).take (Try.prog.cellsOf f.type)) = some y := by
  obtain ⟨xs, n, _, _, hl, hlen, hf⟩ := DataW.trod_struct ht h
  refine ⟨hl, n, fun i f hi => ?_⟩
  have hlt : i < xs.length := by rw [hlen]; exact (Array.getElem?_eq_some_iff.1 hi).1
  exact ⟨xs[i], by rw [hf i f hi, List.getElem?_eq_getElem hlt]⟩
theorem trod_words {fuel : Nat} {cs : List Value} {x : DataW H × List MemPlace} (h : DataW.trod enc Try.prog W 0 (fun _ => true) true fuel 23 cs = some x) : ∃ A n c zs, cs = [.slice A n c] ∧ Ints W A n zs := by
  rcases open_ints Try.underlying23 Try.underlying3 cellsInt5 h with ⟨hcs, _⟩ | ⟨a, len, cap, zs, hcs, _, hl, hm, hz, _, hcell, hw⟩
  · exact ⟨none, 0, 0, [], hcs, Ints.nil _ _⟩
  · simp only [if_true] at hz
    refine ⟨_, len, cap, zs.take len, hcs, ⟨by rw [List.length_take]; omega, by unfold maxLen at hm; omega, fun hn => ?_⟩⟩
    obtain ⟨b, off, spot⟩ := a
    have hspot : spot = none := by simpa [Addr.add] using World.cell?_spot (hcell 0 (by omega))
    subst hspot
    have hc0 : ∀ k, k < len → W.cell? ⟨b, off + k, none⟩ = some (.int .i64 ((zs.take len)[k]?.getD 0)) := by
      intro k hk
      rw [← add_plain, hcell k (by omega)]
      simp [hk]
    exact ⟨b, off, rfl, cell_lt (hc0 0 hn), hc0⟩
set_option maxRecDepth 100000 in
theorem trod_sty {fuel : Nat} {cs : List Value} {x : DataW H × List MemPlace} (h : DataW.trod enc Try.prog W 0 (fun _ => true) true fuel 43 cs = some x) : ∃ s : Sty, cs = encS12 s := by
  obtain ⟨hl, n, hf⟩ := trod_field Try.underlying43 h
  rw [cellsStyle] at hl
  match cs, hl with
  | [x0, x1, x2, x3, x4, x5, x6, x7, x8, x9, x10, x11], _ =>
    obtain ⟨y0, h0⟩ := hf 0 _ rfl
    simp only [List.getElem_toArray, List.getElem_cons_zero, List.getElem_cons_succ, cellsInt5] at h0
    obtain ⟨a0, e0, _, _⟩ := DataW.trod_int Try.underlying3 h0
    simp at e0
    subst e0
    obtain ⟨y1, h1⟩ := hf 1 _ rfl
    simp only [List.getElem_toArray, List.getElem_cons_zero, List.getElem_cons_succ, cellsInt5] at h1
    obtain ⟨a1, e1, _, _⟩ := DataW.trod_int Try.underlying3 h1
    simp at e1
    subst e1
    obtain ⟨y2, h2⟩ := hf 2 _ rfl
    simp only [List.getElem_toArray, List.getElem_cons_zero, List.getElem_cons_succ, cellsInt5] at h2
    obtain ⟨a2, e2, _, _⟩ := DataW.trod_int Try.underlying3 h2
    simp at e2
    subst e2
    obtain ⟨y3, h3⟩ := hf 3 _ rfl
    simp only [List.getElem_toArray, List.getElem_cons_zero, List.getElem_cons_succ, cellsInt5] at h3
    obtain ⟨a3, e3, _, _⟩ := DataW.trod_int Try.underlying3 h3
    simp at e3
    subst e3
    obtain ⟨y4, h4⟩ := hf 4 _ rfl
    simp only [List.getElem_toArray, List.getElem_cons_zero, List.getElem_cons_succ, cellsInt5] at h4
    obtain ⟨a4, e4, _, _⟩ := DataW.trod_int Try.underlying3 h4
    simp at e4
    subst e4
    obtain ⟨y5, h5⟩ := hf 5 _ rfl
    simp only [List.getElem_toArray, List.getElem_cons_zero, List.getElem_cons_succ, cellsInt5] at h5
    obtain ⟨a5, e5, _, _⟩ := DataW.trod_int Try.underlying3 h5
    simp at e5
    subst e5
    obtain ⟨y6, h6⟩ := hf 6 _ rfl
    simp only [List.getElem_toArray, List.getElem_cons_zero, List.getElem_cons_succ, cellsInt5] at h6
    obtain ⟨a6, e6, _, _⟩ := DataW.trod_int Try.underlying3 h6
    simp at e6
    subst e6
    obtain ⟨y7, h7⟩ := hf 7 _ rfl
    simp only [List.getElem_toArray, List.getElem_cons_zero, List.getElem_cons_succ, cellsInt5] at h7
    obtain ⟨a7, e7, _, _⟩ := DataW.trod_int Try.underlying3 h7
    simp at e7
    subst e7
    obtain ⟨y8, h8⟩ := hf 8 _ rfl
    simp only [List.getElem_toArray, List.getElem_cons_zero, List.getElem_cons_succ, cellsInt5] at h8
    obtain ⟨a8, e8, _, _⟩ := DataW.trod_int Try.underlying3 h8
    simp at e8
    subst e8
    obtain ⟨y9, h9⟩ := hf 9 _ rfl
    simp only [List.getElem_toArray, List.getElem_cons_zero, List.getElem_cons_succ, cellsInt5] at h9
    obtain ⟨a9, e9, _, _⟩ := DataW.trod_int Try.underlying3 h9
    simp at e9
    subst e9
    obtain ⟨y10, h10⟩ := hf 10 _ rfl
    simp only [List.getElem_toArray, List.getElem_cons_zero, List.getElem_cons_succ, cellsInt5] at h10
    obtain ⟨a10, e10, _, _⟩ := DataW.trod_int Try.underlying3 h10
    simp at e10
    subst e10
    obtain ⟨y11, h11⟩ := hf 11 _ rfl
    simp only [List.getElem_toArray, List.getElem_cons_zero, List.getElem_cons_succ, cellsInt5] at h11
    obtain ⟨a11, e11, _, _⟩ := DataW.trod_int Try.underlying3 h11
    simp at e11
    subst e11
    exact ⟨⟨a0, a1, a2, a3, a4, a5, a6, a7, a8, a9, a10, a11⟩, rfl⟩
set_option maxRecDepth 100000 in
theorem trod_node {fuel : Nat} {cs : List Value} {x : DataW H × List MemPlace} (h : DataW.trod enc Try.prog W 0 (fun _ => true) true fuel 45 cs = some x) : ∃ m : NdM, cs = encM m ∧ ∃ ws, Ints W m.A m.n ws := by
  obtain ⟨hl, n, hf⟩ := trod_field Try.underlying45 h
  rw [cellsNode] at hl
  match cs, hl with
  | [x0, x1, x2, x3, x4, x5, x6, x7, x8, x9, x10, x11, x12, x13, x14, x15, x16, x17, x18, x19], _ =>
    obtain ⟨y0, h0⟩ := hf 0 _ rfl
    simp only [List.getElem_toArray, List.getElem_cons_zero, List.getElem_cons_succ, cellsInt5] at h0
    obtain ⟨a0, e0, _, _⟩ := DataW.trod_int Try.underlying3 h0
    simp at e0
    subst e0
    obtain ⟨y1, h1⟩ := hf 1 _ rfl
    simp only [List.getElem_toArray, List.getElem_cons_zero, List.getElem_cons_succ, cellsInt5] at h1
    obtain ⟨a1, e1, _, _⟩ := DataW.trod_int Try.underlying3 h1
    simp at e1
    subst e1
    obtain ⟨y3, h3⟩ := hf 3 _ rfl
    simp only [List.getElem_toArray, List.getElem_cons_zero, List.getElem_cons_succ, cellsInt5] at h3
    obtain ⟨a3, e3, _, _⟩ := DataW.trod_int Try.underlying3 h3
    simp at e3
    subst e3
    obtain ⟨y4, h4⟩ := hf 4 _ rfl
    simp only [List.getElem_toArray, List.getElem_cons_zero, List.getElem_cons_succ, cellsInt5] at h4
    obtain ⟨a4, e4, _, _⟩ := DataW.trod_int Try.underlying3 h4
    simp at e4
    subst e4
    obtain ⟨y6, h6⟩ := hf 6 _ rfl
    simp only [List.getElem_toArray, List.getElem_cons_zero, List.getElem_cons_succ, cellsInt5] at h6
    obtain ⟨a6, e6, _, _⟩ := DataW.trod_int Try.underlying3 h6
    simp at e6
    subst e6
    obtain ⟨y7, h7⟩ := hf 7 _ rfl
    simp only [List.getElem_toArray, List.getElem_cons_zero, List.getElem_cons_succ, cellsInt5] at h7
    obtain ⟨a7, e7, _, _⟩ := DataW.trod_int Try.underlying3 h7
    simp at e7
    subst e7
    obtain ⟨y8, h8⟩ := hf 8 _ rfl
    simp only [List.getElem_toArray, List.getElem_cons_zero, List.getElem_cons_succ, cellsInt5] at h8
    obtain ⟨a8, e8, _, _⟩ := DataW.trod_int Try.underlying3 h8
    simp at e8
    subst e8
    obtain ⟨y2, h2⟩ := hf 2 _ rfl
    simp only [List.getElem_toArray, List.getElem_cons_zero, List.getElem_cons_succ, cellsStyle] at h2
    obtain ⟨s, e2⟩ := trod_sty h2
    simp [encS12] at e2
    obtain ⟨rfl, rfl, rfl, rfl, rfl, rfl, rfl, rfl, rfl, rfl, rfl, rfl⟩ := e2
    obtain ⟨y5, h5⟩ := hf 5 _ rfl
    simp only [List.getElem_toArray, List.getElem_cons_zero, List.getElem_cons_succ, cellsInts5] at h5
    obtain ⟨A, k, c, ws, e5, hws⟩ := trod_words h5
    simp at e5
    subst e5
    exact ⟨⟨a0, a1, s, a3, a4, A, k, c, a6, a7, a8⟩, rfl, ws, hws⟩
theorem shows_list : ∀ (zs : List NdM), (∀ z ∈ zs, ∃ ws, Ints W z.A z.n ws) → ∃ l : List Nd, zs.length = l.length ∧ ∀ (i : Nat) (m : NdM) (x : Nd), zs[i]? = some m → l[i]? = some x → Shows W m x
  | [], _ => ⟨[], rfl, fun i m x h => by simp at h⟩
  | z :: zs, hz => by
    obtain ⟨ws, hw⟩ := hz z (by simp)
    obtain ⟨l, h1, h2⟩ := shows_list zs (fun y hy => hz y (by simp [hy]))
    refine ⟨⟨z.kind, z.size, z.sty, z.line, z.space, ws, z.side, z.w, z.h⟩ :: l, by simp [h1], fun i m x e1 e2 => ?_⟩
    cases i with
    | zero =>
      simp at e1 e2
      subst e1 e2
      exact ⟨⟨rfl, rfl, rfl, rfl, rfl, rfl, rfl, rfl⟩, hw⟩
    | succ i => exact h2 i m x (by simpa using e1) (by simpa using e2)
set_option maxRecDepth 100000 in
theorem open_nodes {base : Nat} {v : Value} {d : DataW H} {p : List MemPlace} (hv : Value.okWide Try.prog W .any base 22 v) (h : DataW.Trod enc Try.prog W 0 (fun _ => true) true 22 v d p) :
    ∃ A n c l, v = .slice A n c ∧ Sees W A n l := by
  obtain ⟨A, n, c, zs, h1, _, _, h4, h5⟩ := open_rows encM (fun m => ∃ ws, Ints W m.A m.n ws) Try.underlying22 cellsNode (by decide) encM_len (fun fuel cs y hy => trod_node hy) hv h
  obtain ⟨l, h6, h7⟩ := shows_list zs h5
  exact ⟨A, n, c, l, h1, zs, h4, h6, h7⟩
set_option maxRecDepth 100000 in
theorem open_nodesC {base : Nat} {v : Value} {d : DataW H} {p : List MemPlace} (hv : Value.okWide Try.prog W .any base 22 v) (h : DataW.Trod enc Try.prog W 0 (fun _ => true) true 22 v d p) :
    ∃ A n c l, v = .slice A n c ∧ (n ≤ c ∧ c ≤ 9223372036854775807) ∧ Sees W A n l := by
  obtain ⟨A, n, c, zs, h1, h2, h3, h4, h5⟩ := open_rows encM (fun m => ∃ ws, Ints W m.A m.n ws) Try.underlying22 cellsNode (by decide) encM_len (fun fuel cs y hy => trod_node hy) hv h
  obtain ⟨l, h6, h7⟩ := shows_list zs h5
  exact ⟨A, n, c, l, h1, ⟨h2, by unfold maxLen at h3; omega⟩, zs, h4, h6, h7⟩
end
end Go.Proofs.Ytamakeogaipdiaa
/- What a script is read as; what a reader of scripts answers. -/
namespace Go.Proofs.Ytamakeogaipdiaa
open Go.RowKit
set_option linter.unusedVariables false
set_option linter.unusedSimpArgs false
/-- what a script is read as, by the document's words. -/
def ReadB (s : ByteArray) (r : Option (List Nd) × Nat) : Prop := (∃ k, lexB s = (none, k) ∧ r = (none, k)) ∨ (∃ toks q, lexB s = (some toks, q) ∧ Read toks s.size r)
theorem ReadB.det {s : ByteArray} {r r' : Option (List Nd) × Nat} (h : ReadB s r) (h' : ReadB s r') : r = r' := by
  rcases h with ⟨k, h1, rfl⟩ | ⟨t, q, h1, h2⟩ <;> rcases h' with ⟨k', h1', rfl⟩ | ⟨t', q', h1', h2'⟩ <;> rw [h1] at h1'
  · injection h1' with _ h; rw [h]
  · injection h1' with h _; cases h
  · injection h1' with h _; cases h
  · injection h1' with h _; injection h with h; subst h; exact h2.det h2'
/-- what Of answers. -/
def OfPost (w : World) (s : ByteArray) (e : Ending) (w' : World) : Prop :=
  (∃ x A n c, ReadB s (some x, 0) ∧ e = .returned (.tuple #[.slice A n c, .int .i64 0, .int .i64 0]) ∧ Nds w.heap.size w' A n x ∧ Below w.heap.size w w') ∨
  (∃ k : Nat, ReadB s (none, k) ∧ e = .returned (.tuple #[.slice none 0 0, .int .i64 (k : Int), .int .i64 1]) ∧ Below w.heap.size w w')
end Go.Proofs.Ytamakeogaipdiaa
/- Nodes in memory: what rows and blocks of them are. (Of no function.) -/
namespace Go.Proofs.Ytamakeogaipdiaa
open Go.RowKit
set_option linter.unusedVariables false
set_option linter.unusedSimpArgs false
def zeroM (kind side : Int) : NdM := ⟨kind, 1, .none, 0, 0, none, 0, 0, side, 0, 0⟩
theorem int_info5 : (Try.prog.info? 3).map (fun i => (i.zero, i.size, i.bytes)) = some (some (.int .i64 0), 1, 8) := by kernel_rfl
theorem node_info5 : (Try.prog.info? 45).map (fun i => (i.zero, i.size, i.bytes)) = some (some (.agg #[.int .i64 0, .int .i64 0, .int .i64 0, .int .i64 0, .int .i64 0, .int .i64 0, .int .i64 0, .int .i64 0, .int .i64 0, .int .i64 0, .int .i64 0, .int .i64 0, .int .i64 0, .int .i64 0, .int .i64 0, .int .i64 0, .slice none 0 0, .int .i64 0, .int .i64 0, .int .i64 0]), 20, 176) := by kernel_rfl
def cellNat (w : World) (a : Addr) : Nat := match w.cell? a with
  | some (.int _ z) => z.toNat
  | _ => 0
theorem blk_not_row {w : World} {T : Nat} {t e : TypeId} {vs : List Value} {base size n : Nat} {v : Value} {xs : List Value} (h : Blk w T t vs) (hne : t ≠ e) (ho : w.ownsRow base e size v n xs) : ∀ k, v.ownBlock = some k → k ≠ T := by
  intro k hk e'
  subst e'
  rcases ho.2 with ⟨q, _⟩ | ⟨g, cap, cur, q, _, q3, _⟩
  · rw [q] at hk; cases hk
  · rw [q] at hk
    injection hk with hk
    rw [show k = g from hk.symm] at h
    rw [show w.heap[g]? = _ from h] at q3
    injection q3 with q3
    injection q3 with _ q3 _
    exact hne q3
theorem owns_one {w : World} {e : TypeId} {size base : Nat} (vs : List Value) (hl : vs.length = size) (h0 : 0 < size) (hb : base ≤ w.heap.size) (h1 : ∀ u ∈ vs, u.oneCell' = true) (n : Nat) (hn : n = w.heap.size) (cs : Array Value) (hc : cs = vs.toArray) : (w.alloc (.cells cs e)).ownsRow base e size (.slice (some ⟨n, 0, none⟩) 1 1) 1 vs := by
  subst hn hc
  exact ⟨by omega, .inr ⟨w.heap.size, 1, vs.toArray, rfl, hb, World.alloc_heap_new w _, by decide, by decide, by simp [hl], by rw [Nat.one_mul, ← hl]; simp⟩⟩
theorem yields_row {P : Program} {a : Act} {o : Oper} {S : World → Prop} (t : TypeId) (x : Operand) (ho : o.op = .load t x) (g : Nat) (hx : a.eval x = .pointer (some ⟨g, 0, none⟩)) (te : TypeId) (cs : Array Value) (d : TypeDesc)
    (hS : ∀ w, S w → w.heap[g]? = some (.cells cs te (0, 0))) (hu : P.underlying t = some d) (hd : (match d with | .struct _ | .array _ _ => true | _ => false) = true) (hi : (P.info? t).map (·.size) = some cs.size) :
    ∀ w, S w → (execOp a.eval o).run P w = .ok (.value (.agg cs)) w := fun w hw => by
  have hr := run_loadVar_row (P := P) w g te t cs (0, 0) d (hS w hw) hu hd hi
  unfold execOp
  simp only [ho, hx, Instr.loadAt, Instr.sureAddr, Sem.run_bind, Sem.run_pure, Result.andThen_ok, hr]
end Go.Proofs.Ytamakeogaipdiaa
/- A script that is written out; answers by value. -/
namespace Go.Proofs.Ytamakeogaipdiaa
open Go.RowKit
set_option linter.unusedVariables false
set_option linter.unusedSimpArgs false
def ReadOk (w : World) (x : List Nd) (e : Ending) (w' : World) : Prop := ∃ A n c, e = .returned (.tuple #[.slice A n c, .int .i64 0, .int .i64 0]) ∧ Nds w.heap.size w' A n x ∧ Below w.heap.size w w'
theorem of_ok {w w' : World} {s : ByteArray} {e : Ending} {x : List Nd} (h : ReadB s (some x, 0)) (hp : OfPost w s e w') : ReadOk w x e w' := by
  rcases hp with ⟨x', A, n, c, h1, h2, h3, h4⟩ | ⟨k, h1, _⟩
  · have := h.det h1
    injection this with h5 _; injection h5 with h5; subst h5
    exact ⟨A, n, c, h2, h3, h4⟩
  · have := h.det h1
    injection this with h5 _; cases h5
theorem of_bad {w w' : World} {s : ByteArray} {e : Ending} {k : Nat} (h : ReadB s (none, k)) (hp : OfPost w s e w') : e = .returned (.tuple #[.slice none 0 0, .int .i64 (k : Int), .int .i64 1]) ∧ Below w.heap.size w w' := by
  rcases hp with ⟨x', A, n, c, h1, _⟩ | ⟨k', h1, h2, h3⟩
  · have := h.det h1
    injection this with h5 _; cases h5
  · have := h.det h1
    injection this with _ h5; subst h5
    exact ⟨h2, h3⟩
/-- a script that is written out. -/
def evalF (s : ByteArray) : Option (Option (List Nd) × Nat) := match lexB s with
  | (some toks, 0) => readF toks s.size
  | (none, k) => some (none, k)
  | _ => none
theorem evalF_ok {s : ByteArray} {r : Option (List Nd) × Nat} (h : evalF s = some r) : ReadB s r := by
  unfold evalF at h
  split at h
  · rename_i toks h1; exact .inr ⟨toks, 0, h1, readF_ok h⟩
  · rename_i k h1; cases h; exact .inl ⟨k, h1, rfl⟩
  · cases h
end Go.Proofs.Ytamakeogaipdiaa
/- Nodes that can be read: each one's cells. -/
namespace Go.Proofs.Ytamakeogaipdiaa
open Go.RowKit
set_option linter.unusedVariables false
set_option linter.unusedSimpArgs false
theorem rows_range {w : World} {A : Option Addr} {n k : Nat} {zs : List NdM} (h : Rows 20 encM w A n zs) (hk : k < n) : ∃ b off m, A = some ⟨b, off, none⟩ ∧ b < w.heap.size ∧ zs[k]? = some m ∧ w.rangeAt b (off + k * 20) (encM m) := by
  obtain ⟨b, off, m, h1, h2, h3, h4⟩ := h.at_ hk
  exact ⟨b, off, m, h1, h2, h3, h4⟩
theorem range_on {w : World} {b o : Nat} {cs : List Value} (h : w.rangeAt b o cs) : ∀ W', On w W' → W'.rangeAt b o cs := fun W' hW j v hv => On.cell (h j v hv) W' hW
theorem Sees.at_ {w : World} {A : Option Addr} {n k : Nat} {l : List Nd} (h : Sees w A n l) (hk : k < n) : ∃ b off m x, A = some ⟨b, off, none⟩ ∧ b < w.heap.size ∧ l[k]? = some x ∧ w.rangeAt b (off + k * 20) (encM m) ∧ Shows w m x := by
  obtain ⟨zs, h1, h2, h3⟩ := h
  obtain ⟨b, off, m, e1, e2, e3, e4⟩ := rows_range h1 hk
  have hl := h1.1
  have hx : l[k]? = some (l[k]'(by omega)) := List.getElem?_eq_getElem _
  exact ⟨b, off, m, _, e1, e2, hx, e4, h3 k m _ e3 hx⟩
theorem Sees.bound {w : World} {A : Option Addr} {n : Nat} {l : List Nd} (h : Sees w A n l) : n ≤ 9223372036854775807 := by
  obtain ⟨zs, h1, _⟩ := h
  exact h1.2.1
theorem Sees.on {w w' : World} {A : Option Addr} {n : Nat} {l : List Nd} (h : Sees w A n l) (hb : On w w') : Sees w' A n l := h.below hb
theorem Sees.nil (w : World) : Sees w none 0 [] := ⟨[], Rows.nil _ _, rfl, fun i m x h => by simp at h⟩
end Go.Proofs.Ytamakeogaipdiaa
/- The document's answers for package tree: who holds whom. (Split off TreeRef.) -/
namespace Go.Proofs.Ytamakeogaipdiaa
open Go.RowKit
set_option linter.unusedVariables false
set_option linter.unusedSimpArgs false
/-- whole numbers in a new row of the call's own. -/
def IntsOut (w : World) (zs : List Int) (e : Ending) (w' : World) : Prop := ∃ A n c, e = .returned (.slice A n c) ∧ w'.ownsRow w.heap.size 3 1 (.slice A n c) n (zs.map (Value.int .i64)) ∧ Below w.heap.size w w'
theorem vhas_to {L : List Nd} {a : Int} {v : Bool} (hv : hasI L a = v) {A : Option Addr} {n c : Nat} {w : World} (h : Sees w A n L) : Calls Try.prog 65 #[.slice A n c, .int .i64 a] w fun e w' => e = .returned (.bool v) ∧ w = w' := by
  have hl := h.len
  have hb := h.bound
  subst hv
  by_cases h0 : 0 ≤ a
  · by_cases h1 : a < (n : Int)
    · have HV := Lib.hid (show hasI L a = true from hasI_iff.2 ⟨h0, by omega⟩)
      clear h hl
      go_enter Try.func65, Try.ntmps65
      go_wp2_with fail
      go_ret
      exact ⟨ret_bool HV.out.symm, rfl⟩
    · have HV := Lib.hid (show hasI L a = false by rcases hq : hasI L a with _ | _; rfl; have := (hasI_iff.1 hq).2; omega)
      have h2 : (n : Int) ≤ a := by omega
      clear h hl
      go_enter Try.func65, Try.ntmps65
      go_wp2_with fail
      go_ret
      exact ⟨ret_bool HV.out.symm, rfl⟩
  · have HV := Lib.hid (show hasI L a = false by rcases hq : hasI L a with _ | _; rfl; have := (hasI_iff.1 hq).1; omega)
    have h2 : a < 0 := by omega
    clear h hl
    go_enter Try.func65, Try.ntmps65
    go_wp2_with fail
    go_ret
    exact ⟨ret_bool HV.out.symm, rfl⟩
set_option maxHeartbeats 1000000 in
set_option maxRecDepth 100000 in
theorem vholds_to {L : List Nd} (hn : Nested L) {a b : Int} {v : Bool} (hv : holdsI L a b = v) {A : Option Addr} {n c : Nat} {w : World} (h : Sees w A n L) (hn2 : n ≤ 100000) : Calls Try.prog 51 #[.slice A n c, .int .i64 a, .int .i64 b] w fun e w' => e = .returned (.bool v) ∧ w = w' := by
  have HA := Lib.hid h
  have hl := h.len
  rcases hqa : hasI L a with _ | _
  · have HV := Lib.hid (show false = v by rw [← hv]; unfold holdsI; rw [hqa]; rfl)
    have HQ := Lib.hid hqa
    clear h hv hqa hl
    go_enter Try.func51, Try.ntmps51
    go_wp2_with fail
    refine (vhas_to HQ.out HA.out).mono ?_
    rintro e w1 ⟨rfl, rfl⟩
    go_wp2_with fail
    go_ret
    exact ⟨ret_bool HV.out, rfl⟩
  rcases hqb : hasI L b with _ | _
  · have HV := Lib.hid (show false = v by rw [← hv]; unfold holdsI; rw [hqa, hqb]; rfl)
    have HQ := Lib.hid hqa
    have HQ2 := Lib.hid hqb
    clear h hv hqa hqb hl
    go_enter Try.func51, Try.ntmps51
    go_wp2_with fail
    refine (vhas_to HQ.out HA.out).mono ?_
    rintro e w1 ⟨rfl, rfl⟩
    go_wp2_with fail
    refine (vhas_to HQ2.out HA.out).mono ?_
    rintro e w1 ⟨rfl, rfl⟩
    go_wp2_with fail
    go_ret
    exact ⟨ret_bool HV.out, rfl⟩
  obtain ⟨a0, a1⟩ := hasI_iff.1 hqa
  obtain ⟨b0, b1⟩ := hasI_iff.1 hqb
  obtain ⟨i, rfl⟩ : ∃ i : Nat, a = (i : Int) := ⟨a.toNat, by omega⟩
  obtain ⟨j, rfl⟩ : ∃ j : Nat, b = (j : Int) := ⟨b.toNat, by omega⟩
  have hin : i < n := by omega
  obtain ⟨b1', o1, m1, x1, rfl, hb1, e1, r1, s1⟩ := h.at_ hin
  have c1 := r1 1 _ rfl
  have hms : m1.size = x1.size := s1.1.2.1.symm
  obtain ⟨z, hz⟩ : ∃ z, m1.size = z := ⟨_, rfl⟩
  have c1' : w.cell? ⟨b1', o1 + i * 20 + 1, none⟩ = some (.int .i64 z) := by rw [← hz]; exact c1
  have hnx := hn i x1 e1
  have hz0 : 1 ≤ z ∧ z ≤ 100000 := by have := hnx.1; have := hnx.2.1; omega
  obtain ⟨z0, z1⟩ := hz0
  have hv2 : holdP L i j = v := by rw [← hv]; unfold holdsI; rw [hqa, hqb]; simp
  have hin2 : (i : Int) < (n : Int) := by omega
  have hjn : (j : Int) < (n : Int) := by omega
  have HQ := Lib.hid hqa
  have HQ2 := Lib.hid hqb
  by_cases hij : i ≤ j
  · by_cases hlt : (j : Int) - (i : Int) < z
    · have HV := Lib.hid (show true = v by rw [← hv2]; exact (holdP_iff.2 ⟨x1, e1, by omega, hij, by omega⟩).symm)
      have h1 : (i : Int) ≤ (j : Int) := by omega
      clear h hv hv2 hqa hqb hl hms hz c1 hnx r1 s1 e1 a0 a1 b0 b1
      go_enter Try.func51, Try.ntmps51
      go_wp2_with fail
      refine (vhas_to HQ.out HA.out).mono ?_
      rintro e w1 ⟨rfl, rfl⟩
      go_wp2_with fail
      refine (vhas_to HQ2.out HA.out).mono ?_
      rintro e w1 ⟨rfl, rfl⟩
      go_wp2_with fail
      go_ret
      exact ⟨ret_bool HV.out, rfl⟩
    · have HV := Lib.hid (show false = v by
        rw [← hv2]
        rcases hq : holdP L i j with _ | _
        · rfl
        · obtain ⟨x, g1, _, _, g4⟩ := holdP_iff.1 hq
          rw [e1] at g1; injection g1 with g1; subst g1; omega)
      have h1 : (i : Int) ≤ (j : Int) := by omega
      have h2 : z ≤ (j : Int) - (i : Int) := by omega
      have hd : decide ((j : Int) - (i : Int) < z) = false := by simp; omega
      clear h hv hv2 hqa hqb hl hms hz c1 hnx r1 s1 e1 a0 a1 b0 b1 hlt
      go_enter Try.func51, Try.ntmps51
      go_wp2_with fail
      refine (vhas_to HQ.out HA.out).mono ?_
      rintro e w1 ⟨rfl, rfl⟩
      go_wp2_with fail
      refine (vhas_to HQ2.out HA.out).mono ?_
      rintro e w1 ⟨rfl, rfl⟩
      go_wp2_with fail
      go_ret
      exact ⟨ret_bool HV.out, rfl⟩
  · have HV := Lib.hid (show false = v by
      rw [← hv2]
      rcases hq : holdP L i j with _ | _
      · rfl
      · obtain ⟨x, _, _, g3, _⟩ := holdP_iff.1 hq; omega)
    have h1 : (j : Int) < (i : Int) := by omega
    clear h hv hv2 hqa hqb hl hms hz c1 hnx r1 s1 e1 a0 a1 b0 b1 hij
    go_enter Try.func51, Try.ntmps51
    go_wp2_with fail
    refine (vhas_to HQ.out HA.out).mono ?_
    rintro e w1 ⟨rfl, rfl⟩
    go_wp2_with fail
    refine (vhas_to HQ2.out HA.out).mono ?_
    rintro e w1 ⟨rfl, rfl⟩
    go_wp2_with fail
    go_ret
    exact ⟨ret_bool HV.out, rfl⟩
theorem ints_snoc (zs : List Int) (z : Int) : (zs ++ [z]).map (Value.int .i64) = zs.map (Value.int .i64) ++ [.int .i64 z] := by simp
theorem cells_ofone (w : World) (t : TypeId) (v : Value) : Cells (w.alloc (.cells #[v] t)) (some ⟨w.heap.size, 0, none⟩) 1 1 [v] :=
  ⟨rfl, by decide, fun _ => ⟨w.heap.size, 0, rfl, by simp, fun j u hu => by
    have := (Box.new w [v] t).2.2 j u hu
    rw [Nat.zero_add]; exact this⟩⟩
theorem int_info8 : (Try.prog.info? 3).map (fun i => (i.zero, i.size, i.bytes)) = some (some (.int .i64 0), 1, 8) := by kernel_rfl
/-- those found so far: of the places from k on, below b, the last one first. -/
def upFrom (L : List Nd) (b k : Nat) : List Nat := (backTo L b b).filter fun i => decide (k ≤ i)
theorem upFrom_all (L : List Nd) (b : Nat) : upFrom L b 0 = backTo L b b := by
  unfold upFrom
  rw [List.filter_eq_self]
  intro i _
  simp
theorem upFrom_none (L : List Nd) (b : Nat) : upFrom L b b = [] := by
  unfold upFrom
  rw [List.filter_eq_nil_iff]
  intro i hi
  have := (up_mem.1 hi).1
  simp; omega
theorem filter_up {L : List Nd} {b : Nat} : ∀ {i k : Nat}, k < i → ((backTo L b i).filter fun j => decide (k ≤ j)) = ((backTo L b i).filter fun j => decide (k + 1 ≤ j)) ++ (if holdP L k b then [k] else [])
  | 0, k, h => by omega
  | i + 1, k, h => by
    have hlow : ∀ m, m ≤ k + 1 → ((backTo L b m).filter fun j => decide (k + 1 ≤ j)) = [] := fun m hm => by
      rw [List.filter_eq_nil_iff]
      intro j hj
      have := (up_mem.1 hj).1
      simp; omega
    rcases Nat.eq_or_lt_of_le (Nat.le_of_lt_succ h) with hk | hk
    · subst hk
      rw [hlow (k + 1) (Nat.le_refl _), up_succ]
      have hno : ((backTo L b k).filter fun j => decide (k ≤ j)) = [] := by
        rw [List.filter_eq_nil_iff]
        intro j hj
        have := (up_mem.1 hj).1
        simp; omega
      split
      · rw [List.filter_cons_of_pos (by simp), hno]; rfl
      · rw [hno]; rfl
    · have ih := filter_up (L := L) (b := b) (i := i) hk
      rw [up_succ]
      split
      · rw [List.filter_cons_of_pos (by simp; omega), List.filter_cons_of_pos (by simp; omega), ih, List.cons_append]
      · exact ih
theorem upFrom_step {L : List Nd} {b k : Nat} (h : k < b) : upFrom L b k = upFrom L b (k + 1) ++ (if holdP L k b then [k] else []) := filter_up h
theorem upFrom_len (L : List Nd) (b k : Nat) : (upFrom L b k).length ≤ b := Nat.le_trans (List.length_filter_le _ _) (up_len b)
def natsI (l : List Nat) : List Int := l.map fun i : Nat => (i : Int)
theorem holdsI_nat {L : List Nd} {i b : Nat} (hi : i < L.length) (hb : b < L.length) : holdsI L (i : Int) (b : Int) = holdP L i b := by
  unfold holdsI
  rw [hasI_iff.2 ⟨by omega, by omega⟩, hasI_iff.2 ⟨by omega, by omega⟩]
  simp
end Go.Proofs.Ytamakeogaipdiaa
/- slices.Collect over an iterator that reads memory. -/
namespace Go.Proofs.Ytamakeogaipdiaa
open Go.RowKit Go.Shelf
set_option linter.unusedVariables false
set_option linter.unusedSimpArgs false
attribute [local go_sem] Oper.semAt_some
theorem wide_deep (k : Nat) : Fence.wide.depth.isSome = true → 1 ≤ k := fun h => by cases h
theorem grown_of_below {w w' : World} (h : Below w.heap.size w w') (row : Option Nat) : w.grownBy w' row := ⟨h.os, h.tape, h.output, h.size, fun k hk _ => h.block k hk⟩
set_option maxRecDepth 100000 in
set_option maxHeartbeats 2000000 in
theorem appendSeq_in (n : Nat) (hn : 2 ≤ n) (g : Nat) (lb : Array Value) (eg : ∀ args w, (callFunc g args).run Try.prog w = .ok (.enter g args) w)
    (S Sp : List Int → Prop) (N n₀ : Nat) (hN : N ≤ 1000000) (w w0 : World) (hn₀ : n₀ ≤ w.heap.size) (hb0 : Below w0.heap.size w0 w) (hseq : SeqStopsK Fence.wide (n - 1) Try.prog g lb (fun x : Int => #[Value.int .i64 x]) (Below n₀) S Sp N w0) :
    CallsIn Fence.wide n Try.prog 92 #[.slice none 0 0, .func (.func g) #[] lb] w fun e w' => ∃ xs v, e = .returned v ∧ S xs ∧ w'.ownsRow w.heap.size 3 1 v xs.length (xs.map (Value.int .i64)) ∧ Below w.heap.size w w' := by
  have h1 : 1 ≤ n := by omega
  obtain ⟨i0, hi, hz0, hz1, hz2⟩ := info_parts int_info8
  refine callsIn_of_wp_marks Try.func92 rfl trivial ?_ rfl
  simp only [Try.ntmps92, List.size_toArray, List.length_cons, List.length_nil, Nat.reduceAdd, Nat.reduceSub, Array.replicate_succ, Array.replicate_zero, List.push_toArray, List.append_toArray, List.nil_append, List.cons_append]
  gi_wp2
  have bO := Boxed.new w 23 (.slice none 0 0)
  have hB0 : Below w.heap.size w (w.alloc (.cells #[.slice none 0 0] 23)) := (Below.refl _ w).alloc (Nat.le_refl _) _
  refine wpIn_rangeFunc_ownG (F := Fence.wide) rfl h1 (gf := g) (lb := lb) rfl trivial eg hseq belowK_t (belowK_b (by simp; omega)) (hb0.trans (hB0.mono hb0.size)) (fun _ => rfl)
    (fun pre W => (∃ v, Boxed W w.heap.size 23 v ∧ W.ownsRow w.heap.size 3 1 v pre.length (pre.map (Value.int .i64)) ∧ True) ∧ Below w.heap.size w W)
    (fun _ _ _ => False)
    (OwnFrom.and (Own.from (holdsRow_own w.heap.size w.heap.size 23 3 1 (fun pre : List Int => pre.length) (fun pre => pre.map (Value.int .i64)) (fun pre v => True)) _) (ownFrom_below (Nat.le_refl _) (by simp)))
    (fun _ _ _ _ _ hs _ _ => hs)
    ⟨⟨_, bO, World.ownsRow_nil _ _ _ _, trivial⟩, hB0⟩
    (fun x => { tmps := #[.slice none 0 0, .func (.func g) #[] lb, .pointer (some ⟨w.heap.size, 0, none⟩), undef, .slice none 0 0, .int .i64 x, .func (.func g) #[] lb, .int .i64 x, undef, undef, undef, undef, undef], defers := [] }) ?assign ?body ?done ?stop
  case assign =>
    intro l x W K hK
    gi_wp2
    exact hK
  case body =>
    rintro l pre x W ⟨⟨v, hv, hrow, _⟩, hB⟩ hlt
    have hc := hv.cell
    gi_wp2_with (gi_at_builtin; refine wpListIn_append_own _ rfl _ _ 23 rfl w.heap.size 3 i0 (.int .i64 0) 1 8 Try.underlying23 hi hz0 hz1 hz2 rfl (by decide) _ _ _ rfl (hrow.alloc _) ⟨W.heap.size, 0, none⟩ 1 1 [.int .i64 x] rfl rfl (cell_one_new _ _ _) (by simp [Value.oneCell']) (by simp [maxLen]; omega) (by omega) (by have := hB.size; simp; omega) ?_; intro v' w1 hown' hgrow _; obtain ⟨g', cap', rfl⟩ := ownsRow_succ hown'; obtain ⟨hv1, hv2, hr2, hk2, hb2⟩ := hv.appended (by decide) hrow hB.size (Nat.le_refl _) hown' hgrow; have hc1 := hv1.cell; have hf1 := hv1.frozen)
    exact ⟨hk2.from _, hb2.mono hn₀, ⟨_, hv2, by simpa using hr2, trivial⟩, hB.trans hb2⟩
  case done =>
    rintro D ys W hD hS ⟨⟨v, hv, hrow, _⟩, hB⟩ hK
    have hc := hv.cell
    gi_wp2
    refine ⟨by simp, .inl ⟨_, _, rfl, run_takeDeferred hK, ?_⟩⟩
    exact ⟨_, results_tmp rfl _ _ _, ys, v, rfl, hS, ownsRow_putObj hrow _ hK rfl, hB.trans (belowK_b (w := w) (Nat.le_refl _) W D _ _ (by simp at hD; omega) hK rfl rfl)⟩
  case stop =>
    rintro D c pre W _ _ h _
    exact h.elim
set_option maxRecDepth 100000 in
set_option maxHeartbeats 2000000 in
/-- slices.Collect of such an iterator: what it gives, in a new row. -/
theorem collect_to (g : Nat) (lb : Array Value) (eg : ∀ args w, (callFunc g args).run Try.prog w = .ok (.enter g args) w)
    (S Sp : List Int → Prop) (N n₀ : Nat) (hN : N ≤ 1000000) (w w0 : World) (hn₀ : n₀ ≤ w.heap.size) (hb0 : Below w0.heap.size w0 w) (hseq : ∀ m, SeqStopsK Fence.wide m Try.prog g lb (fun x : Int => #[Value.int .i64 x]) (Below n₀) S Sp N w0) :
    Calls Try.prog 76 #[.func (.func g) #[] lb] w fun e w' => ∃ xs v, e = .returned v ∧ S xs ∧ w'.ownsRow w.heap.size 3 1 v xs.length (xs.map (Value.int .i64)) ∧ Below w.heap.size w w' := by
  have hap := callsIn_wide.1 (appendSeq_in 2 (Nat.le_refl _) g lb eg S Sp N n₀ hN w w0 hn₀ hb0 (hseq _))
  go_enter Try.func76, Try.ntmps76
  go_wp2_with fail
  refine hap.mono ?_
  rintro e w1 ⟨xs, v, rfl, h1, h2, h3⟩
  go_wp2_with fail
  go_ret
  exact ⟨xs, v, rfl, h1, h2, h3⟩
end Go.Proofs.Ytamakeogaipdiaa
/- The program's package valid: how much a node is; sums put together. -/
namespace Go.Proofs.Ytamakeogaipdiaa
open Go.RowKit
set_option linter.unusedVariables false
set_option linter.unusedSimpArgs false
def encSm (s : Sm) : List Value := [.int .i64 s.depth, .int .i64 s.pieces, .int .i64 s.nodes, .int .i64 s.heights]
def sumV (s : Sm) : Value := .agg #[.int .i64 s.depth, .int .i64 s.pieces, .int .i64 s.nodes, .int .i64 s.heights]
def timesI (line many : Int) : Int := if 1099511627777 / many < line then 1099511627777 else line * many
theorem timesI_cut {line many : Int} (h1 : 1 ≤ line) (h2 : 1 ≤ many) : timesI line many = cut (line * many) := by
  unfold timesI cut cutN
  have hm : 0 ≤ line * many := Int.mul_nonneg (by omega) (by omega)
  by_cases h : 1099511627777 / many < line
  · rw [if_pos h]
    have := (Int.ediv_lt_iff_lt_mul (by omega : 0 < many)).1 h
    omega
  · rw [if_neg h]
    have := (Int.le_ediv_iff_mul_le (by omega : 0 < many)).1 (by omega : line ≤ 1099511627777 / many)
    omega
theorem ptimes_any (line many : Int) (w : World) (h1 : 1 ≤ line) (h2 : 1 ≤ many) (h3 : many ≤ 9223372036854775807) : Calls Try.prog 97 #[.int .i64 line, .int .i64 many] w fun e w' => e = .returned (.int .i64 (timesI line many)) ∧ w = w' := by
  have q0 := Int.ediv_nonneg (show (0 : Int) ≤ 1099511627777 by decide) (show 0 ≤ many by omega)
  have q1 := Int.ediv_le_self many (show (0 : Int) ≤ 1099511627777 by decide)
  have hz : (many == 0) = false := by simp; omega
  have hz2 : ¬ many = 0 := by omega
  by_cases h : 1099511627777 / many < line
  · have HV := Lib.hid (show timesI line many = 1099511627777 by unfold timesI; rw [if_pos h])
    go_enter Try.func97, Try.ntmps97
    go_wp2_with fail
    go_ret
    exact ⟨ret_int (by rw [HV.out]), rfl⟩
  · have HV := Lib.hid (show timesI line many = line * many by unfold timesI; rw [if_neg h])
    have hle := (Int.le_ediv_iff_mul_le (by omega : 0 < many)).1 (by omega : line ≤ 1099511627777 / many)
    have hm : 0 ≤ line * many := Int.mul_nonneg (by omega) (by omega)
    have hwr : IntKind.i64.wrap (line * many) = line * many := by rw [IntKind.wrap_i64]; omega
    have h' : line ≤ 1099511627777 / many := by omega
    clear h hle hm
    go_enter Try.func97, Try.ntmps97
    go_wp2_with fail
    go_ret
    exact ⟨ret_int (by rw [HV.out]), rfl⟩
theorem ptimes_to {line many v : Int} (hv : timesI line many = v) (w : World) (h1 : 1 ≤ line) (h2 : 1 ≤ many) (h3 : many ≤ 9223372036854775807) : Calls Try.prog 97 #[.int .i64 line, .int .i64 many] w fun e w' => e = .returned (.int .i64 v) ∧ w = w' := by
  subst hv; exact ptimes_any line many w h1 h2 h3
def plusS (s x : Sm) : Sm := ⟨max s.depth x.depth, wr (s.pieces + x.pieces), s.nodes + x.nodes, min (s.heights + x.heights) cutN⟩
set_option maxHeartbeats 4000000 in
set_option maxRecDepth 100000 in
theorem ptogether_any (s x : Sm) (b c : Nat) (w : World) (hB : Box w b [.int .i64 s.depth, .int .i64 s.pieces, .int .i64 s.nodes, .int .i64 s.heights, .int .i64 x.depth, .int .i64 x.pieces, .int .i64 x.nodes, .int .i64 x.heights])
    (h1 : 0 ≤ s.depth) (h2 : wr s.pieces = s.pieces) (h3 : 0 ≤ s.nodes ∧ s.nodes ≤ 1152921504606846976) (h4 : 0 ≤ s.heights ∧ s.heights ≤ 1099511627777) (k1 : 0 ≤ x.depth) (k3 : 0 ≤ x.nodes ∧ x.nodes ≤ 1152921504606846976) (k4 : 0 ≤ x.heights ∧ x.heights ≤ 1152921504606846976) :
    Calls Try.prog 90 #[.slice (some ⟨b, 0, none⟩) 2 c] w fun e w' => e = .returned (sumV (plusS s x)) ∧ Below w.heap.size w w' := by
  obtain ⟨d0, p0, n0, g0⟩ := s
  obtain ⟨d1, p1, n1, g1⟩ := x
  simp only at *
  obtain ⟨p, hp⟩ : ∃ p, IntKind.i64.wrap (p0 + p1) = p := ⟨_, rfl⟩
  have hp2 : wr (p0 + p1) = p := hp
  have hp0 : IntKind.i64.wrap p0 = p0 := h2
  obtain ⟨n, hn⟩ : ∃ n, n0 + n1 = n := ⟨_, rfl⟩
  obtain ⟨d, hd⟩ : ∃ d, max d0 d1 = d := ⟨_, rfl⟩
  obtain ⟨g, hg⟩ : ∃ g, min (g0 + g1) 1099511627777 = g := ⟨_, rfl⟩
  have HV := Lib.hid (show plusS ⟨d0, p0, n0, g0⟩ ⟨d1, p1, n1, g1⟩ = ⟨d, p, n, g⟩ by unfold plusS cutN; simp only [hp2, hn, hd, hg])
  clear hp2 h2
  have m0 : max 0 d0 = d0 := by omega
  have m1 : min g0 1099511627777 = g0 := by omega
  have HB := Lib.hid hB
  have hlt := hB.1
  clear hB
  go_enter Try.func90, Try.ntmps90
  go_wp2_with fail
  go_loopw [8] (fun i wr => ∃ k : Nat, i = .int .i64 k ∧ Below w.heap.size w wr ∧ Box wr w.heap.size [.int .i64 0, .int .i64 0, .int .i64 0, .int .i64 0] ∧ ((k = 0 ∧ Box wr (w.heap.size + 1) [.int .i64 0, .int .i64 0, .int .i64 0, .int .i64 0]) ∨ (k = 1 ∧ Box wr (w.heap.size + 1) [.int .i64 d0, .int .i64 p0, .int .i64 n0, .int .i64 g0]) ∨ (k = 2 ∧ Box wr (w.heap.size + 1) [.int .i64 d, .int .i64 p, .int .i64 n, .int .i64 g]))) (fun i _ => 2 - (intOf i).toNat)
  case atStart => exact ⟨0, rfl, by go_grown, (box_new w _ _ _ rfl _ rfl).alloc _, .inl ⟨rfl, box_new _ _ _ _ (by simp) _ rfl⟩⟩
  case round =>
    obtain ⟨k, rfl, hon, hX, hk⟩ := hrel
    have hD := hon.size
    have hbb := HB.out.belowB hon hlt
    have HX := Lib.hid hX
    have HO := Lib.hid hon
    rcases hk with ⟨rfl, hS⟩ | ⟨rfl, hS⟩ | ⟨rfl, hS⟩
    · have HS := Lib.hid hS
      have c0 := hbb.2.2 0 _ rfl
      have c1 := hbb.2.2 1 _ rfl
      have c2 := hbb.2.2 2 _ rfl
      have c3 := hbb.2.2 3 _ rfl
      have s0 := hS.2.2 0 _ rfl
      have s1 := hS.2.2 1 _ rfl
      have s2 := hS.2.2 2 _ rfl
      have s3 := hS.2.2 3 _ rfl
      have f0 := hS.2.1 0
      have f1 := hS.2.1 1
      have f2 := hS.2.1 2
      have f3 := hS.2.1 3
      have hl := hS.1
      have hne : ¬ w.heap.size + 1 = wr.heap.size := by omega
      clear hX hon hbb hS
      go_wp2_with fail
      go_roundw
      case rel =>
        refine ⟨1, by go_num, (((((HO.out.setCell (by simp) _).setCell (by simp) _).setCell (by simp) _).setCell (by simp) _).alloc (by simp; omega) _), ((((HX.out.set_other (by omega) _ _).set_other (by omega) _ _).set_other (by omega) _ _).set_other (by omega) _ _).alloc _, .inr (.inl ⟨rfl, ?_⟩)⟩
        exact ((((HS.out.set 0 _ (by simp)).set 1 _ (by simp)).set 2 _ (by simp)).set 3 _ (by simp)).alloc _
      case measure => simp [intOf]
    · have HS := Lib.hid hS
      have c0 := hbb.2.2 4 _ rfl
      have c1 := hbb.2.2 5 _ rfl
      have c2 := hbb.2.2 6 _ rfl
      have c3 := hbb.2.2 7 _ rfl
      have s0 := hS.2.2 0 _ rfl
      have s1 := hS.2.2 1 _ rfl
      have s2 := hS.2.2 2 _ rfl
      have s3 := hS.2.2 3 _ rfl
      have f0 := hS.2.1 0
      have f1 := hS.2.1 1
      have f2 := hS.2.1 2
      have f3 := hS.2.1 3
      have hl := hS.1
      have hne : ¬ w.heap.size + 1 = wr.heap.size := by omega
      clear hX hon hbb hS
      go_wp2_with fail
      go_roundw
      case rel =>
        refine ⟨2, by go_num, (((((HO.out.setCell (by simp) _).setCell (by simp) _).setCell (by simp) _).setCell (by simp) _).alloc (by simp; omega) _), ((((HX.out.set_other (by omega) _ _).set_other (by omega) _ _).set_other (by omega) _ _).set_other (by omega) _ _).alloc _, .inr (.inr ⟨rfl, ?_⟩)⟩
        exact ((((HS.out.set 0 _ (by simp)).set 1 _ (by simp)).set 2 _ (by simp)).set 3 _ (by simp)).alloc _
      case measure => simp [intOf]
    · have HS := Lib.hid hS
      have s0 := hS.2.2 0 _ rfl
      have s1 := hS.2.2 1 _ rfl
      have s2 := hS.2.2 2 _ rfl
      have s3 := hS.2.2 3 _ rfl
      have x0 := hX.2.2 0 _ rfl
      have x1 := hX.2.2 1 _ rfl
      have x2 := hX.2.2 2 _ rfl
      have x3 := hX.2.2 3 _ rfl
      have f0 := hX.2.1 0
      have f1 := hX.2.1 1
      have f2 := hX.2.1 2
      have f3 := hX.2.1 3
      have hl := hX.1
      clear hX hon hbb hS
      go_wp2_with fail
      have hY := (((HX.out.set 0 (.int .i64 d) (by simp)).set 1 (.int .i64 p) (by simp)).set 2 (.int .i64 n) (by simp)).set 3 (.int .i64 g) (by simp)
      have r0 := hY.2.2 0 _ rfl
      have r1 := hY.2.2 1 _ rfl
      have r2 := hY.2.2 2 _ rfl
      have r3 := hY.2.2 3 _ rfl
      refine bodyPost_ret (v := .agg #[.int .i64 d, .int .i64 p, .int .i64 n, .int .i64 g]) (by simp [results, Try.results90, go_sem, r0, r1, r2, r3]) rfl ⟨by rw [HV.out]; rfl, ?_⟩
      exact (((HO.out.setCell (by simp) _).setCell (by simp) _).setCell (by simp) _).setCell (by simp) _
theorem ptogether_to {s x y : Sm} (hy : plusS s x = y) {b c : Nat} (w : World) (hB : Box w b [.int .i64 s.depth, .int .i64 s.pieces, .int .i64 s.nodes, .int .i64 s.heights, .int .i64 x.depth, .int .i64 x.pieces, .int .i64 x.nodes, .int .i64 x.heights])
    (h1 : 0 ≤ s.depth) (h2 : wr s.pieces = s.pieces) (h3 : 0 ≤ s.nodes ∧ s.nodes ≤ 1152921504606846976) (h4 : 0 ≤ s.heights ∧ s.heights ≤ 1099511627777) (k1 : 0 ≤ x.depth) (k3 : 0 ≤ x.nodes ∧ x.nodes ≤ 1152921504606846976) (k4 : 0 ≤ x.heights ∧ x.heights ≤ 1152921504606846976) :
    Calls Try.prog 90 #[.slice (some ⟨b, 0, none⟩) 2 c] w fun e w' => e = .returned (sumV y) ∧ Below w.heap.size w w' := by
  subst hy; exact ptogether_any s x b c w hB h1 h2 h3 h4 k1 k3 k4
end Go.Proofs.Ytamakeogaipdiaa
/- What the functions of valid are asked of nodes. (Split off ValidTopIs.) -/
namespace Go.Proofs.Ytamakeogaipdiaa
open Go.RowKit
set_option linter.unusedVariables false
set_option linter.unusedSimpArgs false
def PreV (l : List Nd) (w : World) (A : Option Addr) (n : Nat) : Prop := Sees w A n l ∧ n ≤ 100000
theorem PreV.below {l : List Nd} {w w' : World} {A : Option Addr} {n : Nat} (h : PreV l w A n) (hb : Below w.heap.size w w') : PreV l w' A n := ⟨h.1.below hb, h.2⟩
theorem doc_ans {l : List Nd} {a : Sm × Int} (ha : ansV l = a) (h : IsDoc l) : a = (sumB l, 0) := by rw [← ha]; unfold ansV; rw [if_pos ((docB_iff l).2 h)]
theorem no_ans {l : List Nd} {a : Sm × Int} (ha : ansV l = a) (h : ¬ IsDoc l) : a = (.none, 4) := by rw [← ha]; unfold ansV; rw [if_neg (fun e => h ((docB_iff l).1 e))]
end Go.Proofs.Ytamakeogaipdiaa
/- A style among a node's cells; a style of zeros. (Split off ValidMay.) -/
namespace Go.Proofs.Ytamakeogaipdiaa
open Go.RowKit
set_option linter.unusedVariables false
set_option linter.unusedSimpArgs false
theorem sty_range {w : World} {g : Nat} {m : NdM} (h : Box w g (encM m)) : w.rangeAt g (0 + 2) (encS12 m.sty) := fun j v hv => by
  have hj : j < 12 := (List.getElem?_eq_some_iff.1 hv).1
  refine h.2.2 (2 + j) v ?_
  show (([.int .i64 m.kind, .int .i64 m.size] : List Value) ++ (encS12 m.sty ++ [.int .i64 m.line, .int .i64 m.space, .slice m.A m.n m.c, .int .i64 m.side, .int .i64 m.w, .int .i64 m.h]))[2 + j]? = _
  rw [List.getElem?_append_right (by simp), List.getElem?_append_left (by simp [encS12]; omega)]
  simpa using hv
def zeroS : List Value := [.int .i64 0, .int .i64 0, .int .i64 0, .int .i64 0, .int .i64 0, .int .i64 0, .int .i64 0, .int .i64 0, .int .i64 0, .int .i64 0, .int .i64 0, .int .i64 0]
theorem sty_equal0 (s : Sty) (w : World) : (Op.equalIn 10000 43 (.agg (encS12 s).toArray) (.agg #[.int .i64 0, .int .i64 0, .int .i64 0, .int .i64 0, .int .i64 0, .int .i64 0, .int .i64 0, .int .i64 0, .int .i64 0, .int .i64 0, .int .i64 0, .int .i64 0])).run Try.prog w = .ok (styB s .none) w := sty_equal s .none w
end Go.Proofs.Ytamakeogaipdiaa
/- Kin in memory: three rows of numbers and a number, and how they grow. -/
namespace Go.Proofs.Ytamakeogaipdiaa
open Go.RowKit
set_option linter.unusedVariables false
set_option linter.unusedSimpArgs false
theorem intsK_succ (p : Nat → Bool) (n : Nat) : intsK p (n + 1) = intsK p n ++ (if p n then [(n : Int)] else []) := by
  unfold intsK
  rw [List.range_succ, List.filter_append, List.map_append]
  congr 1
  rcases h : p n with _ | _
  · simp [h]
  · simp [h]
theorem intsK_len (p : Nat → Bool) : ∀ n, (intsK p n).length ≤ n := fun n => by
  unfold intsK
  rw [List.length_map]
  exact Nat.le_trans (List.length_filter_le _ _) (by simp)
/-- the kin of a place, in memory: where its rows lie. -/
structure KnM where
  A1 : Option Addr
  n1 : Nat
  c1 : Nat
  A2 : Option Addr
  n2 : Nat
  c2 : Nat
  A3 : Option Addr
  n3 : Nat
  c3 : Nat
  text : Int
def KnM.none : KnM := ⟨Option.none, 0, 0, Option.none, 0, 0, Option.none, 0, 0, 0⟩
def encKn (m : KnM) : List Value := [.slice m.A1 m.n1 m.c1, .slice m.A2 m.n2 m.c2, .slice m.A3 m.n3 m.c3, .int .i64 m.text]
theorem encKn_len (m : KnM) : (encKn m).length = 4 := rfl
theorem encKn_one (m : KnM) : ∀ u ∈ encKn m, u.oneCell' = true := by
  intro u hu
  simp [encKn] at hu
  rcases hu with rfl | rfl | rfl | rfl <;> rfl
/-- what it says. -/
structure KnSee (w : World) (m : KnM) (x : Kn) : Prop where
  e : Ints w m.A1 m.n1 x.ends
  b : Ints w m.A2 m.n2 x.begs
  o : Ints w m.A3 m.n3 x.both
  t : m.text = x.text
theorem KnSee.below {w w' : World} {m : KnM} {x : Kn} (h : KnSee w m x) (hb : Below w.heap.size w w') : KnSee w' m x := ⟨h.e.below hb rfl, h.b.below hb rfl, h.o.below hb rfl, h.t⟩
/-- no kin. -/
def Kn.no : Kn := ⟨[], [], [], 0⟩
theorem KnSee.no (w : World) : KnSee w KnM.none Kn.no := ⟨Ints.nil _ _, Ints.nil _ _, Ints.nil _ _, rfl⟩
/-- kin that are handed back. -/
def KnOut (w : World) (x : Kn) (e : Ending) (w' : World) : Prop := ∃ m, e = .returned (.agg (encKn m).toArray) ∧ KnSee w' m x ∧ Below w.heap.size w w'
theorem owns_keep16 {w w6 : World} {base : Nat} {e : TypeId} {size : Nat} {v : Value} {n : Nat} {xs : List Value} {row : Option Nat} (h : w.ownsRow base e size v n xs) (hg : w.grownBy w6 row) (hr : ∀ k, v.ownBlock = some k → row ≠ some k) : w6.ownsRow base e size v n xs := by
  refine ⟨h.1, ?_⟩
  rcases h.2 with h2 | ⟨g, cap, cur, h1, h2, h3, h4⟩
  · exact .inl h2
  · exact .inr ⟨g, cap, cur, h1, h2, (hg.block g (Array.getElem?_eq_some_iff.1 h3).1 (fun e => hr g (by rw [h1]; rfl) e.symm)).trans h3, h4⟩
theorem owns_base16 {w : World} {base b2 : Nat} {e : TypeId} {size : Nat} {v : Value} {n : Nat} {xs : List Value} (h : w.ownsRow base e size v n xs) (hb : b2 ≤ base) : w.ownsRow b2 e size v n xs := by
  refine ⟨h.1, ?_⟩
  rcases h.2 with h2 | ⟨g, cap, cur, h1, h2, h3⟩
  · exact .inl h2
  · exact .inr ⟨g, cap, cur, h1, by omega, h3⟩
/-- kin that grow, in block D, their rows behind it. -/
structure KnB (D : Nat) (w : World) (m : KnM) (x : Kn) : Prop where
  box : Box w D (encKn m)
  e : w.ownsRow (D + 1) 3 1 (.slice m.A1 m.n1 m.c1) m.n1 (x.ends.map (Value.int .i64))
  b : w.ownsRow (D + 1) 3 1 (.slice m.A2 m.n2 m.c2) m.n2 (x.begs.map (Value.int .i64))
  o : w.ownsRow (D + 1) 3 1 (.slice m.A3 m.n3 m.c3) m.n3 (x.both.map (Value.int .i64))
  ab : Apart m.A2 m.n2 m.c2 m.A1 m.n1 m.c1
  ao : Apart m.A2 m.n2 m.c2 m.A3 m.n3 m.c3
  t : m.text = x.text
theorem KnB.see {D : Nat} {w : World} {m : KnM} {x : Kn} (h : KnB D w m x) : KnSee w m x := ⟨(ownsRow_cells h.e).ints, (ownsRow_cells h.b).ints, (ownsRow_cells h.o).ints, h.t⟩
theorem KnB.below {D : Nat} {w w' : World} {m : KnM} {x : Kn} (h : KnB D w m x) (hb : Below w.heap.size w w') : KnB D w' m x := ⟨h.box.below hb, owns_below h.e hb, owns_below h.b hb, owns_below h.o hb, h.ab, h.ao, h.t⟩
section
variable {D : Nat} {w w2 : World} {m : KnM} {x : Kn} {z : Int} {A' : Option Addr} {c' : Nat} {t : TypeId}
theorem apart_new {A2 : Option Addr} {n2 c2 n' base q : Nat} {xs : List Value} {xs2 : List Value} {k : Nat} (hB : w.ownsRow base 3 1 (.slice A2 n2 c2) q xs) (hE : w2.ownsRow w.heap.size 3 1 (.slice A' n' c') k xs2) : Apart A2 n2 c2 A' n' c' := by
  intro r h1 h2
  have := owns_block_lt hB r h1
  have := owns_block hE r h2
  omega
/-- a number is put ahead of the ends. -/
theorem KnB.end_ (h : KnB D w m x) (hg : (w.alloc (.cells #[.int .i64 z] t)).grownBy w2 (some w.heap.size))
    (hown : w2.ownsRow w.heap.size 3 1 (.slice A' (1 + m.n1) c') (1 + m.n1) ([Value.int .i64 z] ++ x.ends.map (Value.int .i64))) :
    KnB D (w2.setCell ⟨D, 0, none⟩ (.slice A' (1 + m.n1) c')) { m with A1 := A', n1 := 1 + m.n1, c1 := c' } { x with ends := z :: x.ends } := by
  have hD := h.box.1
  have ha : Below w.heap.size w (w.alloc (.cells #[.int .i64 z] t)) := (Below.refl _ _).alloc (Nat.le_refl _) _
  have keep : ∀ {v : Value} {n : Nat} {xs : List Value}, w.ownsRow (D + 1) 3 1 v n xs → w2.ownsRow (D + 1) 3 1 v n xs := fun {v n xs} ho => owns_keep16 (owns_below ho ha) hg (fun k hk e => by injection e with e; have := owns_block_lt ho k hk; omega)
  have hbox : Box w2 D (encKn m) := (h.box.below ha).grown hg (fun k hk => by injection hk with hk; omega)
  refine ⟨hbox.set 0 _ (by simp [encKn]), owns_set (owns_base16 hown (by omega)) (by omega) _ _, owns_set (keep h.b) (by omega) _ _, owns_set (keep h.o) (by omega) _ _, apart_new h.b hown, h.ao, h.t⟩
/-- a number is put ahead of both. -/
theorem KnB.both_ (h : KnB D w m x) (hg : (w.alloc (.cells #[.int .i64 z] t)).grownBy w2 (some w.heap.size))
    (hown : w2.ownsRow w.heap.size 3 1 (.slice A' (1 + m.n3) c') (1 + m.n3) ([Value.int .i64 z] ++ x.both.map (Value.int .i64))) :
    KnB D (w2.setCell ⟨D, 2, none⟩ (.slice A' (1 + m.n3) c')) { m with A3 := A', n3 := 1 + m.n3, c3 := c' } { x with both := z :: x.both } := by
  have hD := h.box.1
  have ha : Below w.heap.size w (w.alloc (.cells #[.int .i64 z] t)) := (Below.refl _ _).alloc (Nat.le_refl _) _
  have keep : ∀ {v : Value} {n : Nat} {xs : List Value}, w.ownsRow (D + 1) 3 1 v n xs → w2.ownsRow (D + 1) 3 1 v n xs := fun {v n xs} ho => owns_keep16 (owns_below ho ha) hg (fun k hk e => by injection e with e; have := owns_block_lt ho k hk; omega)
  have hbox : Box w2 D (encKn m) := (h.box.below ha).grown hg (fun k hk => by injection hk with hk; omega)
  refine ⟨hbox.set 2 _ (by simp [encKn]), owns_set (keep h.e) (by omega) _ _, owns_set (keep h.b) (by omega) _ _, owns_set (owns_base16 hown (by omega)) (by omega) _ _, h.ab, apart_new h.b hown, h.t⟩
/-- a number is put behind those that begin. -/
theorem KnB.beg_ (h : KnB D w m x) (hg : (w.alloc (.cells #[.int .i64 z] t)).grownBy w2 (Value.slice m.A2 m.n2 m.c2).ownBlock)
    (hown : w2.ownsRow (D + 1) 3 1 (.slice A' (m.n2 + 1) c') (m.n2 + 1) (x.begs.map (Value.int .i64) ++ [Value.int .i64 z]))
    (h5 : (Value.slice A' (m.n2 + 1) c').ownBlock = (Value.slice m.A2 m.n2 m.c2).ownBlock ∨ (Value.slice A' (m.n2 + 1) c').ownBlock = some (w.alloc (.cells #[.int .i64 z] t)).heap.size) :
    KnB D (w2.setCell ⟨D, 1, none⟩ (.slice A' (m.n2 + 1) c')) { m with A2 := A', n2 := m.n2 + 1, c2 := c' } { x with begs := x.begs ++ [z] } := by
  have hD := h.box.1
  have ha : Below w.heap.size w (w.alloc (.cells #[.int .i64 z] t)) := (Below.refl _ _).alloc (Nat.le_refl _) _
  have e1 := owns_below h.e ha
  have o1 := owns_below h.o ha
  have hbox : Box w2 D (encKn m) := (h.box.below ha).grown hg (fun k hk e => by have := owns_block h.b k hk; omega)
  refine ⟨hbox.set 1 _ (by simp [encKn]), owns_set (owns_other h.ab e1 hg) (by omega) _ _, owns_set (by simpa using hown) (by omega) _ _, owns_set (owns_other h.ao o1 hg) (by omega) _ _, Apart.left h.ab e1 h5, Apart.left h.ao o1 h5, h.t⟩
theorem KnB.text_ (h : KnB D w m x) (z : Int) : KnB D (w.setCell ⟨D, 3, none⟩ (.int .i64 z)) { m with text := z } { x with text := z } :=
  ⟨h.box.set 3 _ (by simp [encKn]), owns_set h.e (by omega) _ _, owns_set h.b (by omega) _ _, owns_set h.o (by omega) _ _, h.ab, h.ao, rfl⟩
theorem KnB.set_far (h : KnB D w m x) {N : Nat} (hN : N < D) (j : Nat) (v : Value) : KnB D (w.setCell ⟨N, j, none⟩ v) m x :=
  ⟨h.box.set_other (by omega) _ _, owns_set h.e (by omega) _ _, owns_set h.b (by omega) _ _, owns_set h.o (by omega) _ _, h.ab, h.ao, h.t⟩
theorem ints_ones (l : List Int) : ∀ u ∈ l.map (Value.int .i64), u.oneCell' = true := fun u hu => by
  obtain ⟨z, _, rfl⟩ := List.mem_map.1 hu
  rfl
end
/-- the kin found among the first nodes. -/
def kinTo (L : List Nd) (of : List Int) (k : Int) (n : Nat) : Kn := ⟨(intsK (endK L of k) n).reverse, intsK (begK L of k) n, (intsK (bothK L of k) n).reverse, -1⟩
theorem kinTo_none {L : List Nd} {of : List Int} {k : Int} {n : Nat} (h : blockK L n = false ∨ (holdA L of n (k - 1) = false ∧ holdA L of n k = false)) : kinTo L of k (n + 1) = kinTo L of k n := by
  unfold kinTo
  rw [intsK_succ, intsK_succ, intsK_succ]
  have h1 : endK L of k n = false := by unfold endK; rcases h with h | ⟨h, _⟩ <;> rw [h] <;> simp
  have h2 : begK L of k n = false := by unfold begK; rcases h with h | ⟨_, h⟩ <;> rw [h] <;> simp
  have h3 : bothK L of k n = false := by unfold bothK; rcases h with h | ⟨h, _⟩ <;> rw [h] <;> simp
  rw [h1, h2, h3]
  simp
theorem kinTo_end {L : List Nd} {of : List Int} {k : Int} {n : Nat} (h : blockK L n = true) (h1 : holdA L of n (k - 1) = true) (h2 : holdA L of n k = false) : kinTo L of k (n + 1) = { kinTo L of k n with ends := (n : Int) :: (kinTo L of k n).ends } := by
  unfold kinTo
  rw [intsK_succ, intsK_succ, intsK_succ]
  unfold endK begK bothK
  rw [h, h1, h2]
  simp
theorem kinTo_beg {L : List Nd} {of : List Int} {k : Int} {n : Nat} (h : blockK L n = true) (h1 : holdA L of n (k - 1) = false) (h2 : holdA L of n k = true) : kinTo L of k (n + 1) = { kinTo L of k n with begs := (kinTo L of k n).begs ++ [(n : Int)] } := by
  unfold kinTo
  rw [intsK_succ, intsK_succ, intsK_succ]
  unfold endK begK bothK
  rw [h, h1, h2]
  simp
theorem kinTo_both {L : List Nd} {of : List Int} {k : Int} {n : Nat} (h : blockK L n = true) (h1 : holdA L of n (k - 1) = true) (h2 : holdA L of n k = true) : kinTo L of k (n + 1) = { kinTo L of k n with both := (n : Int) :: (kinTo L of k n).both } := by
  unfold kinTo
  rw [intsK_succ, intsK_succ, intsK_succ]
  unfold endK begK bothK
  rw [h, h1, h2]
  simp
theorem kinTo_all (L : List Nd) (of : List Int) (k : Int) : kinK L of k = { kinTo L of k L.length with text := textK of k } := rfl
theorem kinTo_lens (L : List Nd) (of : List Int) (k : Int) (n : Nat) : (kinTo L of k n).ends.length ≤ n ∧ (kinTo L of k n).begs.length ≤ n ∧ (kinTo L of k n).both.length ≤ n := by
  unfold kinTo
  simp only [List.length_reverse]
  exact ⟨intsK_len _ _, intsK_len _ _, intsK_len _ _⟩
end Go.Proofs.Ytamakeogaipdiaa
/- The document's answers for package kin: who holds an atom, which atoms a block holds. -/
namespace Go.Proofs.Ytamakeogaipdiaa
open Go.RowKit
set_option linter.unusedVariables false
set_option linter.unusedSimpArgs false
set_option maxHeartbeats 1000000 in
set_option maxRecDepth 100000 in
theorem vkhold_to {L : List Nd} {of : List Int} (h : KinOk L of) {b : Nat} {k : Int} {v : Bool} (hv : holdA L of b k = v) {A B : Option Addr} {n c m d : Nat} {w : World} (hS : Sees w A n L) (hI : Ints w B m of) (hn : n ≤ 100000) (hb : b < L.length) :
    Calls Try.prog 36 #[.slice A n c, .slice B m d, .int .i64 (b : Int), .int .i64 k] w fun e w' => e = .returned (.bool v) ∧ w = w' := by
  have hl := hI.1
  have hm := hI.2.1
  by_cases h0 : 0 ≤ k
  · by_cases h1 : k < (m : Int)
    · obtain ⟨i, rfl⟩ : ∃ i : Nat, k = (i : Int) := ⟨k.toNat, by omega⟩
      have hi : i < m := by omega
      obtain ⟨b1, o1, j, x, rfl, c1, ha, hx, _⟩ := of_cell h hI hi
      have hj := (List.getElem?_eq_some_iff.1 hx).1
      have hh : holdsI L (b : Int) (j : Int) = v := by rw [← hv, holdsI_nat hb hj, holdA_at ha]
      have HC := Lib.hid (vholds_to (c := c) h.doc.2.nested hh hS hn)
      clear hS hI hl h ha hx hv hh hj hb
      go_enter Try.func36, Try.ntmps36
      go_wp2_with fail
      refine HC.out.mono ?_
      rintro e w1 ⟨rfl, rfl⟩
      go_wp2_with fail
      go_ret
      exact ⟨rfl, rfl⟩
    · have HV := Lib.hid (show false = v by rw [← hv, holdA_out (by omega)])
      have h2 : (m : Int) ≤ k := by omega
      clear hS hI hl h hv hb h1
      go_enter Try.func36, Try.ntmps36
      go_wp2_with fail
      go_ret
      exact ⟨ret_bool HV.out, rfl⟩
  · have HV := Lib.hid (show false = v by rw [← hv, holdA_out (by omega)])
    have h2 : k < 0 := by omega
    clear hS hI hl h hv hb h0
    go_enter Try.func36, Try.ntmps36
    go_wp2_with fail
    go_ret
    exact ⟨ret_bool HV.out, rfl⟩
/-- what has been found of p to q, when all from k on has been gone through. -/
def heldTo (p q k : Int) : Int × Int := if k < q ∧ p < q then (max k p, q) else (0, 0)
theorem heldTo_all {p q k : Int} (h : q ≤ k) : heldTo p q k = (0, 0) := by unfold heldTo; rw [if_neg (by omega)]
set_option maxHeartbeats 2000000 in
set_option maxRecDepth 100000 in
theorem vkheld_to {L : List Nd} {of : List Int} (h : KinOk L of) {b : Nat} {p q : Int} (hv : heldK L of (b : Int) = (p, q)) {A B : Option Addr} {n c m d : Nat} {w : World} (hS : Sees w A n L) (hI : Ints w B m of) (hn : n ≤ 100000) (hm : m ≤ 1000000) (hb : b < L.length) :
    Calls Try.prog 16 #[.slice A n c, .slice B m d, .int .i64 (b : Int)] w fun e w' => e = .returned (.tuple #[.int .i64 p, .int .i64 q]) ∧ w = w' := by
  have hl := hI.1
  have hln := hS.len
  have hbn : b < n := by omega
  have hbn2 : (b : Int) < (n : Int) := by omega
  obtain ⟨b1, o1, m1, x1, hA, hb1, e1, r1, s1⟩ := hS.at_ hbn
  have c0 : w.cell? ⟨b1, o1 + b * 20, none⟩ = some (.int .i64 m1.kind) := r1 0 _ rfl
  have hk : x1.kind = m1.kind := s1.1.1
  obtain ⟨kd, hkd⟩ : ∃ kd, m1.kind = kd := ⟨_, rfl⟩
  rw [hkd] at c0 hk
  obtain ⟨P, hP⟩ : ∃ P : Int, (cutI of (b : Int) : Int) = P := ⟨_, rfl⟩
  obtain ⟨Q0, hQ0⟩ : ∃ Q : Int, (cutI of ((b : Int) + x1.size) : Int) = Q := ⟨_, rfl⟩
  obtain ⟨Q, hQ⟩ : ∃ Q : Int, (if kd = 1 then Q0 else P) = Q := ⟨_, rfl⟩
  have hQm : Q0 ≤ (m : Int) := by have := cutI_le of ((b : Int) + x1.size); omega
  have hPm : P ≤ (m : Int) := by have := cutI_le of (b : Int); omega
  have hP0 : 0 ≤ P := by omega
  have HH := Lib.hid (fun i : Nat => holdA_iff h e1 (k := (i : Int)))
  have HV := Lib.hid (show heldTo P Q 0 = (p, q) by
    rw [← hv, heldK_nat of e1, hk, hP, hQ0]
    unfold heldTo
    by_cases h1 : kd = 1
    · rw [if_pos h1] at hQ
      subst hQ
      by_cases h2 : P < Q0
      · rw [if_pos ⟨by omega, h2⟩, if_pos ⟨h1, by omega⟩]
        rw [Int.max_eq_right hP0]
      · rw [if_neg (fun h9 => h2 h9.2), if_neg (fun h9 => h2 (by omega))]
    · rw [if_neg h1] at hQ
      subst hQ
      rw [if_neg (by omega), if_neg (fun h9 => h1 h9.1)])
  have HC := Lib.hid (fun (k : Int) (v : Bool) (hv : holdA L of b k = v) => vkhold_to (c := c) (d := d) h hv hS hI hn hb)
  have HL := Lib.hid hl
  have HQQ := Lib.hid hQ
  have HPE := Lib.hid hP
  have HQE := Lib.hid hQ0
  have hQle : Q ≤ (m : Int) := by rw [← hQ]; split <;> omega
  subst hA
  clear hS hI hl h hv hk hkd r1 s1 e1 hP hQ0 hQ hln hb
  go_enter Try.func16, Try.ntmps16
  go_wp2_with fail
  go_loopw [8, 9, 10] (fun f t i wr => ∃ (k : Nat) (u v : Int), f = .int .i64 u ∧ t = .int .i64 v ∧ i = .int .i64 ((k : Int) - 1) ∧ k ≤ m ∧ Hid (heldTo P Q (k : Int) = (u, v)) ∧ wr = w) (fun _ _ i _ => (intOf i + 1).toNat)
  case atStart => exact ⟨m, 0, 0, rfl, rfl, by go_num, Nat.le_refl _, Lib.hid (heldTo_all hQle), rfl⟩
  case round =>
    obtain ⟨k, u, v, rfl, rfl, rfl, hkm, HT, rfl⟩ := hrel
    cases k with
    | zero =>
      have h1 : ((0 : Nat) : Int) - 1 < 0 := by omega
      have HE := Lib.hid (show (u, v) = (p, q) by rw [← HT.out, ← HV.out]; rfl)
      go_wp2_with fail
      exact bodyPost_ret (v := .tuple #[.int .i64 u, .int .i64 v]) (by simp [results, Try.results16, go_sem]) rfl ⟨by have := HE.out; injection this with g1 g2; rw [g1, g2], rfl⟩
    | succ k =>
      have hkk : ((k + 1 : Nat) : Int) - 1 = (k : Int) := by omega
      rw [hkk]
      have h1 : (0 : Int) ≤ (k : Int) := by omega
      clear hkk
      rcases hh : holdA L of b (k : Int) with _ | _
      · have HN := Lib.hid (show heldTo P Q (k : Int) = (u, v) by
          rw [← HT.out]
          have h2 : ¬ (P ≤ (k : Int) ∧ (k : Int) < Q0) := fun h9 => by
            rw [(HH.out k).2 ⟨⟨by omega, by have := HL.out; omega⟩, by have := HPE.out; omega, by have := HQE.out; omega⟩] at hh; cases hh
          have h3 := HQQ.out
          unfold heldTo
          split at h3
          all_goals (split <;> split <;> first | rfl | (exfalso; omega) | (congr 1; omega)))
        have HHH := Lib.hid hh
        clear hh
        go_wp2_with fail
        refine (HC.out _ _ HHH.out).mono ?_
        rintro e w1 ⟨rfl, rfl⟩
        go_wp2_with fail
        go_roundw
        case rel => exact ⟨k, u, v, rfl, rfl, by go_num, by omega, HN, trivial⟩
        case measure => simp [intOf] <;> omega
      · have HHH := Lib.hid hh
        have hin := (HH.out k).1 hh
        by_cases hk1 : kd = 1
        · have hq1 : P ≤ (k : Int) ∧ (k : Int) < Q := by
            have h3 := HQQ.out
            rw [if_pos hk1] at h3
            have := HPE.out
            have := HQE.out
            omega
          by_cases hv0 : v = 0
          · have HN := Lib.hid (show heldTo P Q (k : Int) = ((k : Int), (k : Int) + 1) by
              have h4 := HT.out
              unfold heldTo at h4 ⊢
              rw [if_pos (by omega)]
              split at h4
              · injection h4 with h5 h6; omega
              · rw [Int.max_eq_left (by omega)]; congr 1; omega)
            subst hk1
            subst hv0
            clear hh hin hq1
            go_wp2_with fail
            refine (HC.out _ _ HHH.out).mono ?_
            rintro e w1 ⟨rfl, rfl⟩
            go_wp2_with fail
            go_roundw
            case rel => exact ⟨k, (k : Int), (k : Int) + 1, rfl, by go_num, by go_num, by omega, HN, trivial⟩
            case measure => simp [intOf] <;> omega
          · have HN := Lib.hid (show heldTo P Q (k : Int) = ((k : Int), v) by
              have h4 := HT.out
              unfold heldTo at h4 ⊢
              rw [if_pos (by omega)]
              split at h4
              · injection h4 with h5 h6; rw [Int.max_eq_left (by omega), h6]
              · injection h4 with h5 h6; omega)
            have hv1 : (v == 0) = false := by simpa using hv0
            subst hk1
            clear hh hin hq1
            go_wp2_with fail
            refine (HC.out _ _ HHH.out).mono ?_
            rintro e w1 ⟨rfl, rfl⟩
            go_wp2_with fail
            go_roundw
            case rel => exact ⟨k, (k : Int), v, rfl, rfl, by go_num, by omega, HN, trivial⟩
            case measure => simp [intOf] <;> omega
        · have HN := Lib.hid (show heldTo P Q (k : Int) = (u, v) by
            rw [← HT.out]
            have h3 := HQQ.out
            rw [if_neg hk1] at h3
            unfold heldTo
            rw [if_neg (by omega), if_neg (by omega)])
          have hk2 : (kd != 1) = true := by simpa using hk1
          have hk3 : (kd == 1) = false := by simpa using hk1
          clear hh hin
          go_wp2_with fail
          refine (HC.out _ _ HHH.out).mono ?_
          rintro e w1 ⟨rfl, rfl⟩
          go_wp2_with fail
          go_roundw
          case rel => exact ⟨k, u, v, rfl, rfl, by go_num, by omega, HN, trivial⟩
          case measure => simp [intOf] <;> omega
end Go.Proofs.Ytamakeogaipdiaa
/- The text of a place; blocks that are made. (Split off KinRefA.) -/
namespace Go.Proofs.Ytamakeogaipdiaa
open Go.RowKit
set_option linter.unusedVariables false
set_option linter.unusedSimpArgs false
theorem kin_info16 : (Try.prog.info? 3).map (fun i => (i.zero, i.size, i.bytes)) = some (some (.int .i64 0), 1, 8) := by kernel_rfl
theorem below_grown16 {w w1 w2 : World} {row : Option Nat} (h : On w w1) (hg : w1.grownBy w2 row) (hr : ∀ r, row = some r → w.heap.size ≤ r) : On w w2 := Below.grown h hg h.size hr
theorem textK_first (of : List Int) : textK of 0 = -1 := by
  unfold textK ofAt
  simp
theorem textK_end {of : List Int} {m : Nat} (h : of.length ≤ m) : textK of (m : Int) = -1 := by
  unfold textK
  rw [ofAt_nat, List.getElem?_eq_none_iff.2 h]
theorem textK_at {of : List Int} {j : Nat} {a b : Int} (ha : of[j + 1]? = some a) (hb : of[j]? = some b) : textK of ((j : Int) + 1) = if a = b then a else -1 := by
  unfold textK
  rw [show (j : Int) + 1 = ((j + 1 : Nat) : Int) by omega, ofAt_nat, ha, show ((j + 1 : Nat) : Int) - 1 = (j : Int) by omega, ofAt_nat, hb]
theorem box_new16 (w : World) (vs : List Value) (t : TypeId) (n : Nat) (hn : n = w.heap.size) (cs : Array Value) (hc : cs = vs.toArray) : Box (w.alloc (.cells cs t)) n vs := by subst hn hc; exact Box.new w vs t
end Go.Proofs.Ytamakeogaipdiaa
/- Rows of nodes compared. (Of no function.) -/
namespace Go.Proofs.Ytamakeogaipdiaa
open Go.RowKit
set_option linter.unusedVariables false
set_option linter.unusedSimpArgs false
def cellsM (w : World) (D : Nat) (m : NdM) : Prop := Box w D (encM m)
theorem ndB_M {w : World} {m1 m2 : NdM} {x1 x2 : Nd} (h1 : Shows w m1 x1) (h2 : Shows w m2 x2) : ndB x1 x2 = (m1.kind == m2.kind && m1.size == m2.size && styB m1.sty m2.sty && m1.line == m2.line && m1.space == m2.space && m1.side == m2.side && m1.w == m2.w && m1.h == m2.h && x1.words == x2.words) := by
  obtain ⟨⟨a1, a2, a3, a4, a5, a6, a7, a8⟩, _⟩ := h1
  obtain ⟨⟨b1, b2, b3, b4, b5, b6, b7, b8⟩, _⟩ := h2
  unfold ndB
  rw [a1, a2, a3, a4, a5, a6, a7, a8, b1, b2, b3, b4, b5, b6, b7, b8]
theorem words_ne {a b : List Int} {k : Nat} {x y : Int} (h1 : a[k]? = some x) (h2 : b[k]? = some y) (h : x ≠ y) : (a == b) = false := by
  rw [beq_eq_false_iff_ne]
  rintro rfl
  rw [h1] at h2
  injection h2 with h2
  exact h h2
theorem words_eq {a b : List Int} (hl : a.length = b.length) (h : ∀ k, k < a.length → a[k]? = b[k]?) : (a == b) = true := by
  rw [beq_iff_eq]
  refine List.ext_getElem? fun k => ?_
  rcases Nat.lt_or_ge k a.length with hk | hk
  · exact h k hk
  · rw [List.getElem?_eq_none hk, List.getElem?_eq_none (by omega)]
def ndsB (a b : List Nd) : Bool := decide (a = b)
theorem ndsB_all {a b : List Nd} (hl : a.length = b.length) (h : ∀ j, j < a.length → a[j]? = b[j]?) : ndsB a b = true := by
  unfold ndsB
  rw [decide_eq_true_eq]
  refine List.ext_getElem? fun k => ?_
  rcases Nat.lt_or_ge k a.length with hk | hk
  · exact h k hk
  · rw [List.getElem?_eq_none hk, List.getElem?_eq_none (by omega)]
theorem ndsB_ne {a b : List Nd} {k : Nat} {x y : Nd} (h1 : a[k]? = some x) (h2 : b[k]? = some y) (h : x ≠ y) : ndsB a b = false := by
  unfold ndsB
  rw [decide_eq_false_iff_not]
  rintro rfl
  rw [h1] at h2
  injection h2 with h2
  exact h h2
theorem ndsB_len {a b : List Nd} (h : a.length ≠ b.length) : ndsB a b = false := by
  unfold ndsB
  rw [decide_eq_false_iff_not]
  rintro rfl
  exact h rfl
end Go.Proofs.Ytamakeogaipdiaa
/- The document's Ints. (Split off TreeRef2.) -/
namespace Go.Proofs.Ytamakeogaipdiaa
open Go.RowKit
set_option linter.unusedVariables false
set_option linter.unusedSimpArgs false
set_option maxHeartbeats 1000000 in
set_option maxRecDepth 100000 in
/-- two rows of the same numbers are the same. -/
theorem vints_same {zs : List Int} {A B : Option Addr} {n m c d : Nat} {w : World} (ha : Ints w A n zs) (hb : Ints w B m zs) : Calls Try.prog 14 #[.slice A n c, .slice B m d] w fun e w' => e = .returned (.bool true) ∧ Below w.heap.size w w' := by
  obtain rfl : n = m := by rw [← ha.1, ← hb.1]
  have hn := ha.2.1
  have HA := Lib.hid (show ∀ v, Below w.heap.size w v → Ints v A n zs from fun v hv => ha.below hv rfl)
  have HB := Lib.hid (show ∀ v, Below w.heap.size w v → Ints v B n zs from fun v hv => hb.below hv rfl)
  clear ha hb
  have hq : ((n : Int) != (n : Int)) = false := by simp
  go_enter Try.func14, Try.ntmps14
  go_wp2_with fail
  go_loopw [5] (fun i wr => ∃ k : Nat, k ≤ n ∧ i = .int .i64 k ∧ On w wr) (fun i _ => n - (intOf i).toNat)
  case atStart => exact ⟨0, by omega, rfl, On.refl w⟩
  case round =>
    obtain ⟨k, hk, rfl, hon⟩ := hrel
    have HO := Lib.hid hon
    clear hon
    by_cases hlt : k < n
    · have hk2 : (k : Int) < (n : Int) := by omega
      obtain ⟨z, hz⟩ : ∃ z, zs[k]?.getD 0 = z := ⟨_, rfl⟩
      obtain ⟨b1, o1, rfl, c1⟩ := (HA.out wr HO.out).at_ hlt
      obtain ⟨b2, o2, rfl, c2⟩ := (HB.out wr HO.out).at_ hlt
      rw [hz] at c1 c2
      have hzz : (z != z) = false := by simp
      clear hz
      go_wp2_with fail
      go_quiet (fail)
      go_wp2_with fail
      go_roundw
      case rel => exact ⟨k + 1, by omega, by go_num, below_drewN HO.out _⟩
      case measure => simp [intOf] <;> omega
    · have hk2 : (n : Int) ≤ (k : Int) := by omega
      go_wp2_with fail
      go_ret
      exact ⟨rfl, HO.out⟩
end Go.Proofs.Ytamakeogaipdiaa
/- A row of numbers that is handed back can be read. (Split off TreePar.) -/
namespace Go.Proofs.Ytamakeogaipdiaa
open Go.RowKit
set_option linter.unusedVariables false
set_option linter.unusedSimpArgs false
theorem IntsOut.ints {w w' : World} {zs : List Int} {e : Ending} (h : IntsOut w zs e w') : ∃ A n c, e = .returned (.slice A n c) ∧ n = zs.length ∧ Ints w' A n zs ∧ Below w.heap.size w w' := by
  obtain ⟨A, n, c, h1, h2, h3⟩ := h
  have hi := (ownsRow_cells h2).ints
  exact ⟨A, n, c, h1, hi.1.symm, hi, h3⟩
end Go.Proofs.Ytamakeogaipdiaa
/- The program's package kin: what a row's methods tell: has, end, isBlock, holdsAtom, text. -/
namespace Go.Proofs.Ytamakeogaipdiaa
open Go.RowKit
set_option linter.unusedVariables false
set_option linter.unusedSimpArgs false
theorem khas_to {k : Int} {m : Nat} {v : Bool} (hv : (decide (0 ≤ k) && decide (k < (m : Int))) = v) (hm : m ≤ 9223372036854775807) (A B : Option Addr) (n c d : Nat) (w : World) :
    Calls Try.prog 44 #[.agg #[.slice A n c, .slice B m d], .int .i64 k] w fun e w' => e = .returned (.bool v) ∧ Below w.heap.size w w' := by
  by_cases h0 : 0 ≤ k
  · by_cases h1 : k < (m : Int)
    · have HV := Lib.hid (show true = v by rw [← hv, decide_eq_true h0, decide_eq_true h1]; rfl)
      clear hv
      go_enter Try.func44, Try.ntmps44
      go_wp2_with fail
      go_ret
      exact ⟨ret_bool HV.out, by go_grown⟩
    · have HV := Lib.hid (show false = v by rw [← hv, decide_eq_false h1, Bool.and_false])
      have h2 : (m : Int) ≤ k := by omega
      clear hv
      go_enter Try.func44, Try.ntmps44
      go_wp2_with fail
      go_ret
      exact ⟨ret_bool HV.out, by go_grown⟩
  · have HV := Lib.hid (show false = v by rw [← hv, decide_eq_false h0, Bool.false_and])
    have h2 : k < 0 := by omega
    clear hv
    go_enter Try.func44, Try.ntmps44
    go_wp2_with fail
    go_ret
    exact ⟨ret_bool HV.out, by go_grown⟩
theorem kend_to {L : List Nd} (hn : Nested L) {k : Nat} {x : Nd} (hx : L[k]? = some x) {e : Int} (he : (k : Int) + x.size = e) {A : Option Addr} {n c : Nat} {w : World} (h : Sees w A n L) (hn2 : n ≤ 100000) :
    Calls Try.prog 33 #[.slice A n c, .int .i64 (k : Int)] w fun r w' => r = .returned (.int .i64 e) ∧ w = w' := by
  have hl := h.len
  have hk := (List.getElem?_eq_some_iff.1 hx).1
  have hkn : k < n := by omega
  have hkn2 : (k : Int) < (n : Int) := by omega
  obtain ⟨b1, o1, m1, x1, rfl, hb1, e1, r1, s1⟩ := h.at_ hkn
  rw [hx] at e1
  injection e1 with e1
  subst e1
  have c1 := r1 1 _ rfl
  have hms : m1.size = x.size := s1.1.2.1.symm
  have hs := hn k x hx
  have hs1 := hs.1
  have hs2 := hs.2.1
  obtain ⟨z, hz⟩ : ∃ z, m1.size = z := ⟨_, rfl⟩
  have c1' : w.cell? ⟨b1, o1 + k * 20 + 1, none⟩ = some (.int .i64 z) := by rw [← hz]; exact c1
  rw [hz] at hms
  rw [← hms] at he hs1 hs2
  have hwr : IntKind.i64.wrap ((k : Int) + z) = (k : Int) + z := IntWalk.i64_in _ (by omega)
  have HE := Lib.hid he
  clear h hx r1 s1 hs hms hz c1 he hl hk
  go_enter Try.func33, Try.ntmps33
  go_wp2_with fail
  go_ret
  exact ⟨ret_int HE.out, rfl⟩
/-- whether a number is a block's place. -/
def blkI (L : List Nd) (a : Int) : Bool := decide (0 ≤ a) && blockK L a.toNat
set_option maxHeartbeats 1000000 in
theorem kblock_to {L : List Nd} {a : Int} {v : Bool} (hv : blkI L a = v) {A : Option Addr} {n c : Nat} {w : World} (h : Sees w A n L) :
    Calls Try.prog 31 #[.slice A n c, .int .i64 a] w fun r w' => r = .returned (.bool v) ∧ w = w' := by
  have hl := h.len
  have hbd := h.bound
  by_cases h0 : 0 ≤ a
  · by_cases h1 : a < (n : Int)
    · obtain ⟨i, rfl⟩ : ∃ i : Nat, a = (i : Int) := ⟨a.toNat, by omega⟩
      have hi : i < n := by omega
      obtain ⟨b1, o1, m1, x1, rfl, hb1, e1, r1, s1⟩ := h.at_ hi
      have c0 : w.cell? ⟨b1, o1 + i * 20, none⟩ = some (.int .i64 m1.kind) := r1 0 _ rfl
      obtain ⟨kd, hkd⟩ : ∃ kd, m1.kind = kd := ⟨_, rfl⟩
      have HV := Lib.hid (show decide (kd = 1) = v by
        rw [← hv]; unfold blkI blockK
        rw [Int.toNat_natCast, e1, decide_eq_true h0, ← hkd, ← s1.1.1]; rfl)
      rw [hkd] at c0
      clear h hv hl r1 s1 e1 hkd
      by_cases hk : kd = 1
      · subst hk
        go_enter Try.func31, Try.ntmps31
        go_wp2_with fail
        go_ret
        exact ⟨ret_bool HV.out, rfl⟩
      · have hk2 : (kd == 1) = false := by simpa using hk
        have HV := Lib.hid (show false = v by rw [← HV.out, decide_eq_false hk])
        go_enter Try.func31, Try.ntmps31
        go_wp2_with fail
        go_ret
        exact ⟨ret_bool HV.out, rfl⟩
    · have HV := Lib.hid (show false = v by rw [← hv]; unfold blkI blockK; rw [List.getElem?_eq_none_iff.2 (by omega), Bool.and_false])
      have h2 : (n : Int) ≤ a := by omega
      clear h hv hl
      go_enter Try.func31, Try.ntmps31
      go_wp2_with fail
      go_ret
      exact ⟨ret_bool HV.out, rfl⟩
  · have HV := Lib.hid (show false = v by rw [← hv]; unfold blkI; rw [decide_eq_false h0, Bool.false_and])
    have h2 : a < 0 := by omega
    clear h hv hl
    go_enter Try.func31, Try.ntmps31
    go_wp2_with fail
    go_ret
    exact ⟨ret_bool HV.out, rfl⟩
/-- a contract by value, as a quiet walk takes it. -/
theorem below_of_same {P : Program} {f : FuncId} {args : Array Value} {w : World} {v : Value} (h : Calls P f args w fun e w' => e = .returned v ∧ w = w') : Calls P f args w fun e w' => e = .returned v ∧ Below w.heap.size w w' :=
  h.mono fun _ _ ⟨e, h⟩ => ⟨e, by subst h; exact Below.refl _ _⟩
set_option maxHeartbeats 2000000 in
set_option maxRecDepth 100000 in
theorem kholds_to {L : List Nd} {of : List Int} (h : KinOk L of) {b : Nat} {k : Int} {v : Bool} (hv : holdA L of b k = v) {A B : Option Addr} {n c m d : Nat} {w : World} (hS : Sees w A n L) (hI : Ints w B m of) (hn : n ≤ 100000) (hb : b < L.length) :
    Calls Try.prog 25 #[.agg #[.slice A n c, .slice B m d], .int .i64 (b : Int), .int .i64 k] w fun e w' => e = .returned (.bool v) ∧ Below w.heap.size w w' := by
  have hl := hI.1
  have hm := hI.2.1
  have hx : L[b]? = some (L[b]'hb) := List.getElem?_eq_getElem _
  obtain ⟨x, hxx⟩ : ∃ x, L[b]'hb = x := ⟨_, rfl⟩
  rw [hxx] at hx
  obtain ⟨t, ht⟩ : ∃ t, (b : Int) + x.size = t := ⟨_, rfl⟩
  by_cases hk : 0 ≤ k ∧ k < (m : Int)
  · obtain ⟨i, rfl⟩ : ∃ i : Nat, k = (i : Int) := ⟨k.toNat, by omega⟩
    have hi : i < m := by omega
    obtain ⟨b1, o1, j, y, rfl, c1, ha, hy, _⟩ := of_cell h hI hi
    have hj := (List.getElem?_eq_some_iff.1 hy).1
    have hk0 := hk.1
    have hk1 := hk.2
    have HH := Lib.hid (khas_to (v := true) (by rw [decide_eq_true hk.1, decide_eq_true hk.2]; rfl) hm A (some ⟨b1, o1, none⟩) n c d)
    have hP : holdP L b j = v := by rw [← hv, holdA_at ha]
    generalize hW : w.alloc (.cells #[.slice A n c, .slice (some ⟨b1, o1, none⟩) m d] 53) = W
    have hO : On w W := by rw [← hW]; exact On.alloc (On.refl w) _
    have HE := Lib.hid (fun p : OnW W => below_of_same (kend_to (c := c) h.doc.2.nested hx ht (hS.on (hO.trans (p.h.mono hO.size))) hn))
    have hB : Box W w.heap.size [.slice A n c, .slice (some ⟨b1, o1, none⟩) m d] := by rw [← hW]; exact box_new16 _ _ _ _ rfl _ rfl
    obtain ⟨q0, q1⟩ := OnW.of2 hB
    have q3 := OnW.cell (On.cell c1 W hO)
    have HO := Lib.hid hO
    by_cases h1 : b ≤ j
    · have h1' : (b : Int) ≤ (j : Int) := by omega
      have d1 : decide ((b : Int) ≤ (j : Int)) = true := decide_eq_true h1'
      have d1' : decide (b ≤ j) = true := decide_eq_true h1
      by_cases h2 : (j : Int) < t
      · have HV := Lib.hid (show true = v by rw [← hP]; exact (holdP_iff.2 ⟨x, hx, hj, h1, by omega⟩).symm)
        have d2 : decide ((j : Int) < t) = true := decide_eq_true h2
        clear hS hI hl h hv hx hxx ht ha hy hj hP hO hB hk
        go_enter Try.func25, Try.ntmps25
        go_wp2_with fail
        refine wp_region_on (by kernel_rfl) (by kernel_rfl) ?_
        repeat (go_big_quiet_step (first | (go_at_call 44; with_reducible exact Calls.on_of (HH.out _)) | (go_at_call 33; with_reducible exact Calls.on_of (HE.out _))))
        refine wpQuiet_nil ?_
        intro w5 hw'
        obtain ⟨⟨w6, hOn⟩, hw''⟩ := hw'
        obtain rfl : w5 = w6 := hw''
        go_wp2_with fail
        go_ret
        exact ⟨ret_bool HV.out, below_then HO.out hOn⟩
      · have HV := Lib.hid (show false = v by
          rw [← hP]
          rcases hq : holdP L b j with _ | _
          · rfl
          · obtain ⟨z, hz, _, _, g4⟩ := holdP_iff.1 hq
            rw [hx] at hz; injection hz with hz; subst hz; omega)
        have d2 : decide ((j : Int) < t) = false := decide_eq_false h2
        clear hS hI hl h hv hx hxx ht ha hy hj hP hO hB hk
        go_enter Try.func25, Try.ntmps25
        go_wp2_with fail
        refine wp_region_on (by kernel_rfl) (by kernel_rfl) ?_
        repeat (go_big_quiet_step (first | (go_at_call 44; with_reducible exact Calls.on_of (HH.out _)) | (go_at_call 33; with_reducible exact Calls.on_of (HE.out _))))
        refine wpQuiet_nil ?_
        intro w5 hw'
        obtain ⟨⟨w6, hOn⟩, hw''⟩ := hw'
        obtain rfl : w5 = w6 := hw''
        go_wp2_with fail
        go_ret
        exact ⟨ret_bool HV.out, below_then HO.out hOn⟩
    · have HV := Lib.hid (show false = v by
        rw [← hP]
        rcases hq : holdP L b j with _ | _
        · rfl
        · obtain ⟨z, _, _, g3, _⟩ := holdP_iff.1 hq
          omega)
      have d1 : decide ((b : Int) ≤ (j : Int)) = false := decide_eq_false (by omega)
      have d1' : decide (b ≤ j) = false := decide_eq_false h1
      clear hS hI hl h hv hx hxx ht ha hy hj hP hO hB hk
      go_enter Try.func25, Try.ntmps25
      go_wp2_with fail
      refine wp_region_on (by kernel_rfl) (by kernel_rfl) ?_
      repeat (go_big_quiet_step (first | (go_at_call 44; with_reducible exact Calls.on_of (HH.out _)) | (go_at_call 33; with_reducible exact Calls.on_of (HE.out _))))
      refine wpQuiet_nil ?_
      intro w5 hw'
      obtain ⟨⟨w6, hOn⟩, hw''⟩ := hw'
      obtain rfl : w5 = w6 := hw''
      go_wp2_with fail
      go_ret
      exact ⟨ret_bool HV.out, below_then HO.out hOn⟩
  · have HH := Lib.hid (khas_to (v := false) (by rcases Decidable.not_and_iff_not_or_not.1 hk with h9 | h9; rw [decide_eq_false h9, Bool.false_and]; rw [decide_eq_false h9, Bool.and_false]) hm A B n c d)
    have HV := Lib.hid (show false = v by rw [← hv, holdA_out (by omega)])
    generalize hW : w.alloc (.cells #[.slice A n c, .slice B m d] 53) = W
    have hO : On w W := by rw [← hW]; exact On.alloc (On.refl w) _
    have hB : Box W w.heap.size [.slice A n c, .slice B m d] := by rw [← hW]; exact box_new16 _ _ _ _ rfl _ rfl
    obtain ⟨q0, q1⟩ := OnW.of2 hB
    have HO := Lib.hid hO
    clear hS hI hl h hv hx hxx ht hO hB hk
    go_enter Try.func25, Try.ntmps25
    go_wp2_with fail
    refine wp_region_on (by kernel_rfl) (by kernel_rfl) ?_
    repeat (go_big_quiet_step (first | (go_at_call 44; with_reducible exact Calls.on_of (HH.out _))))
    refine wpQuiet_nil ?_
    intro w5 hw'
    obtain ⟨⟨w6, hOn⟩, hw''⟩ := hw'
    obtain rfl : w5 = w6 := hw''
    go_wp2_with fail
    go_ret
    exact ⟨ret_bool HV.out, below_then HO.out hOn⟩
end Go.Proofs.Ytamakeogaipdiaa
