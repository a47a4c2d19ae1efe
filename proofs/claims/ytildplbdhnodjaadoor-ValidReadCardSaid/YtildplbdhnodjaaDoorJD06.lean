import Derived.Test.YtildplbdhnodjaaDoorJD04
import Derived.Test.YtildplbdhnodjaaDoorJD00
import Derived.Test.YtildplbdhnodjaaDoorJD05
import Derived.Deep.QuietTactic
import Derived.BigQuiet
import Derived.Deep.WholeRow
import Derived.Test.YtildplbdhnodjaaDoorJD01
import Derived.DeepKeys
import Derived.Deep.MidRow
import Derived.Test.YtildplbdhnodjaaDoorJD02
import Derived.Lib.MinMax
/- The program's package lex: the iterator over the tokens of a script, which ranges over the pieces. -/
namespace Go.Proofs.YtildplbdhnodjaaDoor
open Go.RowKit Go.Shelf
set_option linter.unusedVariables false
set_option linter.unusedSimpArgs false
attribute [local go_sem] Oper.semAt_some
theorem grown_of_below {W W' : World} (h : Below W.heap.size W W') : W.grownBy W' none := ⟨h.os, h.tape, h.output, h.size, fun k hk _ => h.block k hk⟩
theorem own_below {β : Type} {B : Nat} {I : β → World → Prop} (h : OwnFrom B I) {s : β} {W W' : World} (hs : I s W) (hb : Below W.heap.size W W') : I s W' := h s W W' none hs (grown_of_below hb) (fun r e => by cases e)
theorem keepFrom_below {B : Nat} {W W' : World} (h : Below W.heap.size W W') : KeepsFrom B W W' := ⟨h.size, fun k o _ hk _ => (h.block k (Array.getElem?_eq_some_iff.1 hk).1).trans hk⟩
theorem keepB_below {b : Nat} {W W' : World} (h : Below W.heap.size W W') : KeepB b W W' :=
  ⟨⟨h.size, fun k o hk _ => (h.block k (Array.getElem?_eq_some_iff.1 hk).1).trans hk⟩, fun o hk _ => (h.block b (Array.getElem?_eq_some_iff.1 hk).1).trans hk⟩
theorem KeepS.keepB {n₀ n₁ b : Nat} {W W' : World} {s : Value} {t : TypeId} (h : KeepS n₀ n₁ W W') (hn : n₁ ≤ b) (hb : W.heap[b]? = some (.cells #[s] t)) : KeepB b W W' :=
  ⟨⟨h.1.size, fun k o hk ho => h.2 k o hk (.inl (Obj.not_cells_of_walk ho))⟩, fun o hk _ => by rw [hb] at hk; cases hk; exact h.2 b _ hb (.inr ⟨hn, rfl⟩)⟩
theorem keepFrom_up {B B' : Nat} {W W' : World} (h : KeepsFrom B W W') (hB : B ≤ B') : KeepsFrom B' W W' := ⟨h.size, fun k o hk => h.same k o (by omega)⟩
theorem room_none {F : Fence} (hd : F.depth = none) (k : Nat) : F.room k := fun d h => by rw [hd] at h; cases h
theorem round_depth {m m' : Nat} {P : Program} {l : Nat} {f : FuncId} {tmps : Array Value} {assign body : Code} {w : World} {R : Ending → World → Prop}
    (h : RoundIn Fence.wide m P l f tmps assign body w R) : RoundIn Fence.wide m' P l f tmps assign body w R := ⟨h.1, fun c cs _ => h.2 c cs (room_none rfl _)⟩
theorem round_inRound {m : Nat} {P : Program} {l l' : Nat} {f : FuncId} {tmps : Array Value} {assign body : Code} {w : World} {R : Ending → World → Prop}
    (h : RoundIn Fence.wide m P l f tmps assign body w R) : RoundIn (Fence.wide.inRound l') m P l f tmps assign body w R := h
def encK (x : Tok × Bool) : Array Value := #[.agg #[.int .i64 x.1.kind, .int .i32 x.1.sign, .int .i64 x.1.n, .int .i64 x.1.at_], .bool x.2]
theorem toksP_snoc (s : ByteArray) (ps : List (Nat × Nat)) (p : Nat × Nat) : toksP s (ps ++ [p]) = toksP s ps ++ (pieceTok s p).toList := by
  unfold toksP
  rw [List.filterMap_append]
  rcases h : pieceTok s p with _ | x <;> simp [h]
theorem tokens_in (s : ByteArray) (w : World) : Calls Tryd.prog 21 #[.string s] w fun e w' => e = .returned (.func (.func 40) #[] #[.pointer (some ⟨w.heap.size, 0, none⟩)]) ∧ w' = w.alloc (.cells #[.string s] 9) := by
  go_enter Tryd.func21, Tryd.ntmps21
  go_wp2
  go_ret
  exact ⟨rfl, rfl⟩
theorem noth_to {t : ByteArray} {v : Bool} (hv : nothingB t = v) (w : World) (ht : t.size ≤ 100000) : Calls Tryd.prog 42 #[.string t] w fun e w' => e = .returned (.bool v) ∧ w = w' := by
  subst hv; exact noth_any t w ht
theorem token_to {t : ByteArray} {k : Nat} {a b c d : Int} {v : Bool} (hv : tokR t k = (⟨a, b, c, d⟩, v)) (w : World) (hT : Tabs w) (h1 : 0 < t.size) (hz : sizeB t 0 ≠ 0) (ht : t.size ≤ 100000) (hk : k ≤ 100000)
    (hd : digitC (runeB t 0 (sizeB t 0)) = true → ∀ i, i < t.size → digB t i = true) : Calls Tryd.prog 43 #[.int .i64 k, .string t] w fun e w' => e = .returned (.tuple #[.agg #[.int .i64 a, .int .i32 b, .int .i64 c, .int .i64 d], .bool v]) ∧ Below w.heap.size w w' := by
  have h := token_any t k w hT h1 hz ht hk hd
  rw [hv] at h
  exact h
set_option maxRecDepth 100000 in
set_option maxHeartbeats 4000000 in
theorem tokens1_in (n l b n₀ n₁ : Nat) (hn : 3 ≤ n) (s : ByteArray) (hs : s.size ≤ 100000) (hw : textB s = none) (J Jx : List (Tok × Bool) → World → Prop) (W : World) (hJ : OwnFrom W.heap.size J) (hJx : OwnFrom W.heap.size Jx)
    (hl : l < W.heap.size) (h01 : n₀ ≤ n₁) (h1b : n₁ ≤ b) (hT : Tabs W) (ht3 : decLays_ren.g 3 < n₀) (ht4 : decLays_ren.g 4 < n₀)
    (hY : ∀ pre x W1, J pre W1 → pre.length < s.size + 2 → YieldAt Fence.wide (n - 1) Tryd.prog l (encK x) W1 fun e W' =>
      (e = .returned (.bool true) ∧ J (pre ++ [x]) W' ∧ KeepS n₀ n₁ W1 W') ∨ (e = .returned (.bool false) ∧ Jx (pre ++ [x]) W' ∧ KeepsFrom (l + 1) W1 W'))
    (hb : W.heap[b]? = some (.cells #[.string s] 9)) (h0 : J [] W) :
    CallsIn Fence.wide n Tryd.prog 40 #[.func (.yield l) #[] #[], .pointer (some ⟨b, 0, none⟩)] W fun e W' => (∃ v, e = .returned v) ∧
      ((∃ xs : List (Tok × Bool), xs = toksP s (piecesB s) ∧ J xs W') ∨ (∃ pre : List (Tok × Bool), pre <+: toksP s (piecesB s) ∧ Jx pre W')) := by
  have h1 : 1 ≤ n := by omega
  have HY := Lib.hid hY
  clear hY
  have hbl : b < W.heap.size := (Array.getElem?_eq_some_iff.1 hb).1
  refine callsIn_of_wp_marks Tryd.func40 rfl trivial ?_ rfl
  simp only [Tryd.ntmps40, List.size_toArray, List.length_cons, List.length_nil, Nat.reduceAdd, Nat.reduceSub, Array.replicate_succ, Array.replicate_zero, List.push_toArray, List.append_toArray, List.nil_append, List.cons_append]
  have hc : W.cell? ⟨b, 0, none⟩ = some (.string s) := by simp [World.cell?, hb]
  gi_wp2_with (refine ⟨trivial, ?_⟩; gi_at_call 41; refine (callsIn_wide.2 (pieces_in _ _)).mono ?_; rintro e w' ⟨rfl, rfl⟩)
  skip
  obtain ⟨y, hy⟩ : ∃ y, W.heap.size = y := ⟨_, rfl⟩
  obtain ⟨W0, hW0⟩ : ∃ W0, (W.alloc (.cells #[.func (.yield l) #[] #[]] 88)).alloc (.cells #[.string s] 9) = W0 := ⟨_, rfl⟩
  have hs0 : W0.heap.size = y + 2 := by rw [← hW0]; simp; omega
  have hB0 : Below W.heap.size W W0 := by rw [← hW0]; exact ((Below.refl _ W).alloc (Nat.le_refl _) _).alloc (by simp) _
  have hP0 : W0.heap[y + 1]? = some (.cells #[.string s] 9) := by
    rw [← hW0, ← hy]; have := World.alloc_heap_new (W.alloc (.cells #[.func (.yield l) #[] #[]] 88)) (.cells #[.string s] 9); rwa [World.size_alloc] at this
  have hY0 : W0.heap[y]? = some (.cells #[.func (.yield l) #[] #[]] 88) := by
    rw [← hW0, ← hy]; exact (Below.heap_alloc _ _ _ (by simp)).trans (World.alloc_heap_new W _)
  rw [hW0, hy]
  clear hW0 hc
  refine wpIn_rangeFunc_ownG (F := Fence.wide) rfl h1 (gf := 67) (lb := #[.pointer (some ⟨y + 1, 0, none⟩)]) ?hg trivial (enters_of Tryd.func67 (by kernel_rfl) rfl)
    (pieces_stops (n - 1) (y + 1) s hs hw W0 hP0) (fun h k => KeepB.trans h k) (fun W l o o' h1 h2 h3 h4 => KeepB.putObj W l o o' h1 h2 h3 h4) (Below.refl _ _) ?hps
    (fun pre W' => J (toksP s (pre.map (·.1))) W' ∧ (W'.heap[y]? = some (.cells #[.func (.yield l) #[] #[]] 88) ∧ (W'.heap[y + 1]? = some (.cells #[.string s] 9) ∧ Below n₀ W W')))
    (fun c pre W' => c = .ret ∧ Jx (toksP s (pre.map (·.1))) W') ?hI ?hIx ?h0
    (fun x => { tmps := #[.func (.yield l) #[] #[], .pointer (some ⟨b, 0, none⟩), .pointer (some ⟨y, 0, none⟩), .int .i64 (x.1.1 : Int), .string (s.extract x.1.1 x.1.2), undef, undef, .string s, .func (.func 67) #[] #[.pointer (some ⟨y + 1, 0, none⟩)], .int .i64 (x.1.1 : Int), .string (s.extract x.1.1 x.1.2), undef, undef, undef, undef, undef, undef, undef, undef, undef, undef, undef, undef, undef], defers := [] }) ?assign ?body ?done ?stop
  case hg => rfl
  case hps => exact fun _ => rfl
  case hI =>
    refine OwnFrom.and (fun pre => ?_) (OwnFrom.and (ownFrom_block (by omega) _) (OwnFrom.and (ownFrom_block (by omega) _) (ownFrom_below (by omega) (by omega))))
    exact fun W1 W2 row h hg hr => (OwnFrom.up hJ (by omega)) _ W1 W2 row h hg hr
  case hIx =>
    intro c pre W1 W2 row h hg hr
    exact ⟨h.1, (OwnFrom.up hJx (by omega)) _ W1 W2 row h.2 hg hr⟩
  case h0 => exact ⟨own_below hJ h0 hB0, hY0, hP0, hB0.mono (by omega)⟩
  case assign =>
    intro l2 x W1 K hK
    simp only [encP]
    gi_wp2
    exact hK
  case body =>
    rintro l2 pre x W1 ⟨hj, hyb, hpb, hbl0⟩ hlen
    have hd : 1 ≤ n - 1 - 1 := by omega
    have hsn := toksP_snoc s (pre.map (·.1)) x.1
    obtain ⟨o1, o2, o3⟩ := x.2
    unfold pieceTok at hsn
    obtain ⟨t, ht⟩ : ∃ t, s.extract x.1.1 x.1.2 = t := ⟨_, rfl⟩
    obtain ⟨p, hp⟩ : ∃ p, x.1.1 = p := ⟨_, rfl⟩
    have hts : t.size ≤ 100000 := by rw [← ht, ByteArray.size_extract]; omega
    have hp1 : p ≤ 100000 := by omega
    rw [ht] at hsn o3 ⊢
    rw [hp] at hsn ⊢
    clear ht hp o1 o2
    rcases hnb : nothingB t with _ | _
    · rw [hnb] at hsn
      simp only [Bool.false_eq_true, if_false, Option.toList_some] at hsn
      obtain ⟨q1, q2, q3⟩ := o3 hnb
      have hT1 : Tabs W1 := hT.belowB hbl0 ht3 ht4
      rcases htr : tokR t p with ⟨⟨ka, kb, kc, kd⟩, kv⟩
      rw [htr] at hsn
      have HC := Lib.hid (token_to (w := W1) htr hT1 q1 q2 hts (by omega) q3)
      have HN := Lib.hid hnb
      have HS := Lib.hid hsn
      clear htr hnb hsn q3 q2 o3
      gi_wp2_with (first
        | (refine ⟨trivial, ?_⟩; gi_at_call 42; refine (CallsIn.inRound l2 (callsIn_wide.2 (noth_to HN.out _ hts))).mono ?_; rintro e w' ⟨rfl, rfl⟩)
        | (refine ⟨trivial, ?_⟩; gi_at_call 43; refine (CallsIn.inRound l2 (callsIn_wide.2 HC.out)).mono ?_; rintro e W2 ⟨rfl, hb2⟩
           have hyl : y < W1.heap.size := (Array.getElem?_eq_some_iff.1 hyb).1
           have hbA : Below W1.heap.size W1 (W2.alloc (.cells #[.int .i64 ka, .int .i32 kb, .int .i64 kc, .int .i64 kd] 62)) := hb2.alloc hb2.size _
           have hyA := (hbA.block y hyl).trans hyb
           have hcA : (W2.alloc (.cells #[.int .i64 ka, .int .i32 kb, .int .i64 kc, .int .i64 kd] 62)).cell? ⟨y, 0, none⟩ = some (.func (.yield l) #[] #[]) := by simp [World.cell?, hyA]
           have hjA := own_below hJ hj hbA
           have hlA : (toksP s (pre.map (·.1))).length < s.size + 2 := by
             have h5 := List.length_filterMap_le (pieceTok s) (pre.map (·.1))
             rw [List.length_map] at h5
             exact Nat.lt_of_le_of_lt h5 hlen
           obtain ⟨fn, tmps, assign, body, hyl2, hR⟩ := HY.out _ (⟨ka, kb, kc, kd⟩, kv) _ hjA hlA
           dsimp only [encK] at hyl2))
      refine (round_inRound (round_depth hR)).mono ?_
      have hyP := (hbA.block (y + 1) (Array.getElem?_eq_some_iff.1 hpb).1).trans hpb
      rintro e W4 (⟨rfl, hj4, hk4⟩ | ⟨rfl, hx4, hk4⟩)
      · gi_wp2
        exact ⟨(keepFrom_below hbA).trans hk4.from, (keepB_below hbA).trans (hk4.keepB (by omega) hyP), by rw [List.map_append, List.map_singleton, HS.out]; exact hj4,
          hk4.2 y _ hyA (.inr ⟨by omega, rfl⟩), hk4.2 (y + 1) _ hyP (.inr ⟨by omega, rfl⟩), (hbl0.trans (hbA.mono (by have := hbl0.size; omega))).trans hk4.1⟩
      · gi_wp2
        exact ⟨(keepFrom_below hbA).trans (keepFrom_up hk4 (by omega)), rfl, by rw [List.map_append, List.map_singleton, HS.out]; exact hx4⟩
    · rw [hnb] at hsn
      simp only [if_true, Option.toList_none, List.append_nil] at hsn
      gi_wp2_with (refine ⟨trivial, ?_⟩; gi_at_call 42; refine (CallsIn.inRound l2 (callsIn_wide.2 (noth_to hnb _ hts))).mono ?_; rintro e w' ⟨rfl, rfl⟩)
      exact ⟨KeepsFrom.refl _ _, keepB_below (Below.refl _ _), by rw [List.map_append, List.map_singleton, hsn]; exact hj, hyb, hpb, hbl0⟩
  case done =>
    rintro D ys W1 hD hS ⟨hj, _⟩ hK
    gi_wp2
    refine ⟨by simp, .inl ⟨_, _, rfl, run_takeDeferred hK, ?_⟩⟩
    refine ⟨_, results_none rfl _ _ _, ⟨_, rfl⟩, .inl ⟨_, rfl, ?_⟩⟩
    rw [← hS]
    exact OwnFrom.putObj hJ _ hj (by omega) hK rfl
  case stop =>
    rintro D c pre W1 hD hS ⟨rfl, hx⟩ hK
    gi_wp2
    refine ⟨by simp, .inl ⟨_, _, rfl, run_takeDeferred hK, ?_⟩⟩
    refine ⟨_, results_none rfl _ _ _, ⟨_, rfl⟩, .inr ⟨_, ?_, OwnFrom.putObj hJx _ hx (by omega) hK rfl⟩⟩
    obtain ⟨r, hr⟩ := hS
    exact ⟨toksP s r, by unfold toksP; rw [← List.filterMap_append, hr]⟩
end Go.Proofs.YtildplbdhnodjaaDoor
/- The document's answers for package read: the letter of an attribute. -/
namespace Go.Proofs.YtildplbdhnodjaaDoor
open Go.RowKit
set_option linter.unusedVariables false
set_option linter.unusedSimpArgs false
def lettersZ : ByteArray := ⟨#[109, 110, 112, 113, 105, 111, 119, 104, 66, 65, 73, 99]⟩
def bytesI (t : ByteArray) : List Int := (List.range t.size).map (bAt t)
theorem mem_bytesI {t : ByteArray} {c : Int} : c ∈ bytesI t ↔ ∃ j, j < t.size ∧ bAt t j = c := by unfold bytesI; simp
theorem letters_at : ∀ k, k < 12 → bAt lettersZ k ∈ lettersB := by decide +kernel
theorem letters_all : ∀ c ∈ lettersB, ∃ k, k < 12 ∧ bAt lettersZ k = c := by decide +kernel
theorem letterB_found {l : List Tok} {i : Nat} {told : List Int} {c : Int} (hc : c ∈ lettersB) (h : sgB l i c = true) : letterB l i told = if c ∈ told then 0 else c := by
  have hf : lettersB.find? (sgB l i) = some c := by
    rcases hq : lettersB.find? (sgB l i) with _ | d
    · have := List.find?_eq_none.1 hq c hc
      exact absurd h this
    · have := List.find?_some hq
      by_cases e : d = c
      · rw [e]
      · exact (sg_clash this h e).elim
  unfold letterB
  rw [hf]
theorem letterB_none {l : List Tok} {i : Nat} {told : List Int} (h : ∀ c ∈ lettersB, sgB l i c = false) : letterB l i told = 0 := by
  have hf : lettersB.find? (sgB l i) = none := List.find?_eq_none.2 (fun c hc => by rw [h c hc]; simp)
  unfold letterB
  rw [hf]
theorem rletters_to {z : ByteArray} (hz : lettersZ = z) (w : World) : Calls Tryd.prog 87 #[] w fun e w' => e = .returned (.string z) ∧ w = w' := by
  subst hz; exact rletters_any w
theorem rsign_to {toks : List Tok} {A : Option Addr} {n c' : Nat} {i : Nat} {c : Int} {v : Bool} (hv : sgB toks i c = v) (w : World) (hR : Rows 4 encT w A n toks) (hi : i ≤ 10000000) : Calls Tryd.prog 37 #[.slice A n c', .int .i64 i, .int .i32 c] w fun e w' => e = .returned (.bool v) ∧ w = w' := by
  subst hv; exact rsign_any toks A n c' i c w hR hi
theorem rletter_any (toks : List Tok) (A : Option Addr) (n c' : Nat) (i : Nat) (told : ByteArray) (w : World) (hR : Rows 4 encT w A n toks) (hi : i ≤ 1000000) (ht : told.size ≤ 2000000) :
    Calls Tryd.prog 77 #[.slice A n c', .int .i64 i, .string told] w fun e w' => e = .returned (.int .u8 (letterB toks i (bytesI told))) ∧ Below w.heap.size w w' := by
  have HR := Lib.hid hR
  clear hR
  obtain ⟨z, hz⟩ : ∃ z, lettersZ = z := ⟨_, rfl⟩
  have hzs : z.size = 12 := by rw [← hz]; rfl
  have HZ := Lib.hid hz
  have HL := Lib.hid (show ∀ k, k < 12 → bAt z k ∈ lettersB from hz ▸ letters_at)
  have HA := Lib.hid (show ∀ c ∈ lettersB, ∃ k, k < 12 ∧ bAt z k = c from hz ▸ letters_all)
  clear hz
  go_enter Tryd.func77, Tryd.ntmps77
  go_wp2_with (go_at_call 87; refine (rletters_to HZ.out _).mono ?_; rintro e w' ⟨rfl, rfl⟩)
  go_loopw [8, 9] (fun v u wr => ∃ k : Nat, k ≤ 12 ∧ v = .int .i64 k ∧ (∀ j, j < k → sgB toks i (bAt z j) = false) ∧ wr = w) (fun v _ _ => 12 - (intOf v).toNat)
  case atStart => exact ⟨0, by omega, rfl, fun j hj => by omega, rfl⟩
  case round =>
    obtain ⟨k, hk, rfl, hno, rfl⟩ := hrel
    have HN := Lib.hid hno
    clear hno
    by_cases hlt : k < 12
    · have hkz : k < z.size := by omega
      have hk2 : (k : Int) < (z.size : Int) := by omega
      have hb0 := bAt_get z k hkz
      have hbd := bAt_bd z k
      obtain ⟨c, hc⟩ : ∃ c, bAt z k = c := ⟨_, rfl⟩
      rw [hc] at hb0 hbd
      have HC := Lib.hid hc
      have o1 : IntKind.i32.wrap c = c := by rw [IntKind.wrap_i32]; omega
      clear hc
      rcases hs : sgB toks i c with _ | _
      · have HS := Lib.hid hs
        clear hs
        go_wp2_with (go_at_call 37; refine (rsign_to HS.out _ HR.out (by omega)).mono ?_; rintro e w' ⟨rfl, rfl⟩)
        go_roundw
        case rel => exact ⟨k + 1, by omega, by go_num, fun j hj => by
          by_cases e : j = k
          · subst e; rw [HC.out]; exact HS.out
          · exact HN.out j (by omega), by first | rfl | trivial⟩
        case measure => simp [intOf]; omega
      · have HS := Lib.hid hs
        have hcl : c ∈ lettersB := by rw [← HC.out]; exact HL.out k hlt
        have hv := letterB_found (told := bytesI told) hcl hs
        have HV := Lib.hid hv
        clear hs hv
        go_wp2_with (go_at_call 37; refine (rsign_to HS.out _ HR.out (by omega)).mono ?_; rintro e w' ⟨rfl, rfl⟩)
        obtain ⟨wo, rfl⟩ : ∃ wo : World, wo = wr := ⟨_, rfl⟩
        go_loopw [9] (fun u wr => ∃ k2 m : Nat, k2 ≤ told.size ∧ u = .int .i64 k2 ∧ (∀ j, j < k2 → bAt told j ≠ c) ∧ wr = wo.drewN m) (fun u _ => told.size - (intOf u).toNat)
        case atStart => exact ⟨0, 0, by omega, rfl, fun j hj => by omega, rfl⟩
        case round =>
          obtain ⟨k2, m, hk2', rfl, hno, rfl⟩ := hrel
          have HN2 := Lib.hid hno
          clear hno
          by_cases hlt2 : k2 < told.size
          · have hd0 := bAt_get told k2 hlt2
            have hk3 : (k2 : Int) < (told.size : Int) := by omega
            obtain ⟨d, hd⟩ : ∃ d, bAt told k2 = d := ⟨_, rfl⟩
            rw [hd] at hd0
            have HD := Lib.hid hd
            clear hd
            by_cases hdc : d = c
            · have HR0 := Lib.hid (show letterB toks i (bytesI told) = 0 by rw [HV.out, if_pos (mem_bytesI.2 ⟨k2, hlt2, by rw [HD.out, hdc]⟩)])
              subst hdc
              go_wp2_with fail
              go_quiet (fail)
              go_wp2_with fail
              go_ret
              exact ⟨by rw [HR0.out]; rfl, below_drewN (below_drewN (Below.refl _ _) _) _⟩
            · have hdc2 : (d == c) = false := by simp [hdc]
              go_wp2_with fail
              go_quiet (fail)
              go_wp2_with fail
              go_roundw
              case rel => exact ⟨k2 + 1, _, by omega, by go_num, fun j hj => by
                by_cases e : j = k2
                · subst e; rw [HD.out]; exact hdc
                · exact HN2.out j (by omega), rfl⟩
              case measure => simp [intOf]; omega
          · have HR0 := Lib.hid (show letterB toks i (bytesI told) = c by rw [HV.out, if_neg (by rw [mem_bytesI]; rintro ⟨j, hj, e⟩; exact HN2.out j (by omega) e)])
            have hk3 : (told.size : Int) ≤ (k2 : Int) := by omega
            go_wp2_with fail
            go_ret
            exact ⟨by rw [HR0.out]; rfl, below_drewN (Below.refl _ _) _⟩
    · obtain rfl : k = 12 := by omega
      have hv : letterB toks i (bytesI told) = 0 := letterB_none (fun c hc => by
        obtain ⟨k, hk1, hk2⟩ := HA.out c hc
        rw [← hk2]; exact HN.out k hk1)
      have HV := Lib.hid hv
      clear hv
      go_wp2_with fail
      go_ret
      exact ⟨by rw [HV.out]; rfl, Below.refl _ _⟩
end Go.Proofs.YtildplbdhnodjaaDoor
/- Nodes in memory; what a reader of nodes answers. -/
namespace Go.Proofs.YtildplbdhnodjaaDoor
open Go.RowKit
set_option linter.unusedVariables false
set_option linter.unusedSimpArgs false
structure NdM where
  kind : Int
  size : Int
  sty : Sty
  line : Int
  space : Int
  A : Option Addr
  n : Nat
  c : Nat
  side : Int
  w : Int
  h : Int
def encM (m : NdM) : List Value := [.int .i64 m.kind, .int .i64 m.size, .int .i64 m.sty.top, .int .i64 m.sty.bottom, .int .i64 m.sty.padTop, .int .i64 m.sty.padBottom, .int .i64 m.sty.inset, .int .i64 m.sty.orphans, .int .i64 m.sty.widows, .int .i64 m.sty.head, .int .i64 m.sty.before, .int .i64 m.sty.after, .int .i64 m.sty.inside, .int .i64 m.sty.clear,
  .int .i64 m.line, .int .i64 m.space, .slice m.A m.n m.c, .int .i64 m.side, .int .i64 m.w, .int .i64 m.h]
theorem encM_len (m : NdM) : (encM m).length = 20 := rfl
theorem encM_one (m : NdM) : ∀ u ∈ encM m, u.oneCell' = true := by
  intro u hu
  simp only [encM, List.mem_cons, List.not_mem_nil, or_false] at hu
  rcases hu with h | h | h | h | h | h | h | h | h | h | h | h | h | h | h | h | h | h | h | h <;> subst h <;> rfl
theorem encMs_one (zs : List NdM) : ∀ u ∈ zs.flatMap encM, u.oneCell' = true := by
  intro u hu
  obtain ⟨m, _, hm⟩ := List.mem_flatMap.1 hu
  exact encM_one m u hm
/-- the node x lies there as m; its words in a row of their own, from block base on. -/
def Holds (base : Nat) (w : World) (m : NdM) (x : Nd) : Prop := (x.kind = m.kind ∧ x.size = m.size ∧ x.sty = m.sty ∧ x.line = m.line ∧ x.space = m.space ∧ x.side = m.side ∧ x.w = m.w ∧ x.h = m.h) ∧ w.ownsRow base 3 1 (.slice m.A m.n m.c) m.n (x.words.map (Value.int .i64))
def Holds2 (base : Nat) (w : World) (zs : List NdM) (l : List Nd) : Prop := zs.length = l.length ∧ ∀ (i : Nat) (m : NdM) (x : Nd), zs[i]? = some m → l[i]? = some x → Holds base w m x
theorem Holds2.below {base : Nat} {w w' : World} {zs : List NdM} {l : List Nd} (h : Holds2 base w zs l) (hb : Below w.heap.size w w') : Holds2 base w' zs l :=
  ⟨h.1, fun i m x h1 h2 => ⟨(h.2 i m x h1 h2).1, owns_below (h.2 i m x h1 h2).2 hb⟩⟩
theorem Holds2.nil (base : Nat) (w : World) : Holds2 base w [] [] := ⟨rfl, fun i m x h => by simp at h⟩
theorem Holds2.append {base : Nat} {w : World} {zs zs' : List NdM} {l l' : List Nd} (h : Holds2 base w zs l) (h' : Holds2 base w zs' l') : Holds2 base w (zs ++ zs') (l ++ l') := by
  refine ⟨by rw [List.length_append, List.length_append, h.1, h'.1], fun i m x h1 h2 => ?_⟩
  by_cases hi : i < zs.length
  · rw [List.getElem?_append_left hi] at h1
    rw [List.getElem?_append_left (by rw [← h.1]; exact hi)] at h2
    exact h.2 i m x h1 h2
  · rw [List.getElem?_append_right (by omega)] at h1
    rw [List.getElem?_append_right (by rw [← h.1]; omega), ← h.1] at h2
    exact h'.2 _ m x h1 h2
theorem Holds2.one {base : Nat} {w : World} {m : NdM} {x : Nd} (h : Holds base w m x) : Holds2 base w [m] [x] := by
  refine ⟨rfl, fun i m' x' h1 h2 => ?_⟩
  cases i with
  | zero => simp at h1 h2; subst h1 h2; exact h
  | succ i => simp at h1
/-- the slice's block is one from base on. -/
def Far (base : Nat) (A : Option Addr) : Prop := ∀ p, A = some p → base ≤ p.block
theorem Far.nil (base : Nat) : Far base .none := fun p h => by cases h
theorem Far.at_ {base g : Nat} (h : base ≤ g) : Far base (some ⟨g, 0, .none⟩) := fun p e => by cases e; exact h
theorem Far.up {base base' : Nat} {A : Option Addr} (h : Far base A) (hb : base' ≤ base) : Far base' A := fun p e => Nat.le_trans hb (h p e)
theorem Far.owns {w : World} {base : Nat} {e : TypeId} {size : Nat} {A : Option Addr} {n c : Nat} {xs : List Value} (h : w.ownsRow base e size (.slice A n c) n xs) : Far base A := fun p hp => owns_block h p.block (by subst hp; rfl)
/-- all blocks from base on are as they were. -/
def Same (base : Nat) (w w' : World) : Prop := w.heap.size ≤ w'.heap.size ∧ ∀ k, base ≤ k → k < w.heap.size → w'.heap[k]? = w.heap[k]?
theorem Same.refl (base : Nat) (w : World) : Same base w w := ⟨Nat.le_refl _, fun _ _ _ => rfl⟩
theorem Same.below {base : Nat} {w w' : World} (h : Below w.heap.size w w') : Same base w w' := ⟨h.size, fun k _ hk => h.block k hk⟩
theorem Same.set {base : Nat} (w : World) {m : Nat} (hm : m < base) (j : Nat) (v : Value) : Same base w (w.setCell ⟨m, j, .none⟩ v) :=
  ⟨by simp, fun k hk _ => Below.heap_setCell _ _ _ _ (fun e => by simp at e; omega)⟩
theorem Same.trans {base : Nat} {a b c : World} (h : Same base a b) (k : Same base b c) : Same base a c := ⟨Nat.le_trans h.1 k.1, fun i hi hl => (k.2 i hi (Nat.lt_of_lt_of_le hl h.1)).trans (h.2 i hi hl)⟩
theorem Rows.same {α : Type} {k : Nat} {enc : α → List Value} {w w' : World} {A : Option Addr} {n : Nat} {zs : List α} {base : Nat} (h : Rows k enc w A n zs) (hA : Far base A) (hs : Same base w w') : Rows k enc w' A n zs :=
  ⟨h.1, h.2.1, fun hn => by
    obtain ⟨b, off, e, hl, hc⟩ := h.2.2 hn
    have hb := hA _ e
    exact ⟨b, off, e, Nat.lt_of_lt_of_le hl hs.1, fun i x hx j v hv => (World.cell?_of_block (w := w) (a := ⟨b, _, .none⟩) (hs.2 b hb hl)).trans (hc i x hx j v hv)⟩⟩
theorem owns_same {w w' : World} {base : Nat} {e : TypeId} {size : Nat} {v : Value} {n : Nat} {xs : List Value} (h : w.ownsRow base e size v n xs) (hs : Same base w w') : w'.ownsRow base e size v n xs := by
  refine ⟨h.1, ?_⟩
  rcases h.2 with h2 | ⟨g, cap, cur, h1, h2, h3, h4⟩
  · exact .inl h2
  · exact .inr ⟨g, cap, cur, h1, h2, (hs.2 g h2 (Array.getElem?_eq_some_iff.1 h3).1).trans h3, h4⟩
theorem owns_up {w : World} {base base' : Nat} {e : TypeId} {size : Nat} {v : Value} {n : Nat} {xs : List Value} (h : w.ownsRow base e size v n xs) (hb : base' ≤ base) : w.ownsRow base' e size v n xs := by
  refine ⟨h.1, ?_⟩
  rcases h.2 with h2 | ⟨g, cap, cur, h1, h2, h3⟩
  · exact .inl h2
  · exact .inr ⟨g, cap, cur, h1, by omega, h3⟩
/-- a step that turns a row of another type. -/
theorem owns_grown {w w' : World} {base base' : Nat} {e e' : TypeId} {size size' : Nat} {v v' : Value} {n n' : Nat} {xs xs' : List Value} (h : w.ownsRow base e size v n xs) (h' : w.ownsRow base' e' size' v' n' xs') (hne : e ≠ e') (hg : w.grownBy w' v'.ownBlock) : w'.ownsRow base e size v n xs := by
  refine ⟨h.1, ?_⟩
  rcases h.2 with h2 | ⟨g, cap, cur, h1, h2, h3, h4⟩
  · exact .inl h2
  · refine .inr ⟨g, cap, cur, h1, h2, (hg.block g (Array.getElem?_eq_some_iff.1 h3).1 (fun q => ?_)).trans h3, h4⟩
    rcases h'.2 with ⟨k, _⟩ | ⟨g', cap', cur', k, _, k3, _⟩
    · rw [k] at q; cases q
    · rw [k] at q
      injection q with q
      rw [show g = g' from q, k3] at h3
      injection h3 with h3
      injection h3 with _ h3 _
      exact hne h3.symm
theorem Holds2.grown {base base' : Nat} {w w' : World} {zs : List NdM} {l : List Nd} {e' : TypeId} {size' n' : Nat} {v' : Value} {xs' : List Value} (h : Holds2 base w zs l) (h' : w.ownsRow base' e' size' v' n' xs') (hne : 3 ≠ e') (hg : w.grownBy w' v'.ownBlock) : Holds2 base w' zs l :=
  ⟨h.1, fun i m x h1 h2 => ⟨(h.2 i m x h1 h2).1, owns_grown (h.2 i m x h1 h2).2 h' hne hg⟩⟩
theorem Holds2.same {base : Nat} {w w' : World} {zs : List NdM} {l : List Nd} (h : Holds2 base w zs l) (hs : Same base w w') : Holds2 base w' zs l :=
  ⟨h.1, fun i m x h1 h2 => ⟨(h.2 i m x h1 h2).1, owns_same (h.2 i m x h1 h2).2 hs⟩⟩
theorem Holds2.up {base base' : Nat} {w : World} {zs : List NdM} {l : List Nd} (h : Holds2 base w zs l) (hb : base' ≤ base) : Holds2 base' w zs l :=
  ⟨h.1, fun i m x h1 h2 => ⟨(h.2 i m x h1 h2).1, owns_up (h.2 i m x h1 h2).2 hb⟩⟩
theorem Holds.ints {base : Nat} {w : World} {m : NdM} {x : Nd} (h : Holds base w m x) : Ints w m.A m.n x.words := (ownsRow_cells h.2).ints
/-- nodes in memory, all of it from block base on. -/
def Nds (base : Nat) (w : World) (A : Option Addr) (n : Nat) (l : List Nd) : Prop := ∃ zs : List NdM, Rows 20 encM w A n zs ∧ Holds2 base w zs l ∧ Far base A
theorem Nds.same {base : Nat} {w w' : World} {A : Option Addr} {n : Nat} {l : List Nd} (h : Nds base w A n l) (hs : Same base w w') : Nds base w' A n l := by
  obtain ⟨zs, h1, h2, h3⟩ := h
  exact ⟨zs, h1.same h3 hs, h2.same hs, h3⟩
theorem Nds.below {base : Nat} {w w' : World} {A : Option Addr} {n : Nat} {l : List Nd} (h : Nds base w A n l) (hb : Below w.heap.size w w') : Nds base w' A n l := h.same (Same.below hb)
theorem Nds.up {base base' : Nat} {w : World} {A : Option Addr} {n : Nat} {l : List Nd} (h : Nds base w A n l) (hb : base' ≤ base) : Nds base' w A n l := by
  obtain ⟨zs, h1, h2, h3⟩ := h
  exact ⟨zs, h1, h2.up hb, h3.up hb⟩
theorem Nds.nil (base : Nat) (w : World) : Nds base w .none 0 [] := ⟨[], Rows.nil _ _, Holds2.nil _ _, Far.nil _⟩
theorem Nds.len {base : Nat} {w : World} {A : Option Addr} {n : Nat} {l : List Nd} (h : Nds base w A n l) : l.length = n := by
  obtain ⟨zs, h1, h2, _⟩ := h
  rw [← h2.1]; exact h1.1
/-- a number of nodes is no more than that of the tokens. -/
theorem Parse.len {l : List Tok} {t : Bool} {i : Nat} {out : List Nd} {r : Res (List Nd)} (h : Parse l t i out r) : ∀ x b, r = .ok x b → x.length + i ≤ out.length + b := by
  have hbox : ∀ i kind side e x b, boxR l i kind side e = .ok x b → x.length + i ≤ b := by
    intro i kind side e x b hr
    unfold boxR at hr
    split at hr
    · cases hr
    split at hr
    · cases hr
    split at hr
    · cases hr
    · cases hr; simp; omega
  induction h with
  | stop _ => intro x b h; cases h; omega
  | more _ _ _ ih1 ih2 => intro x b h; have := ih1 _ _ rfl; have := ih2 _ _ h; simp at *; omega
  | fail _ _ _ => intro x b h; cases h
  | blockA _ _ => intro x b h; cases h
  | blockN _ _ _ _ => intro x b h; cases h
  | blockE _ _ _ _ _ => intro x b h; cases h
  | block _ g2 _ _ ih => intro x b h; cases h; have := ih _ _ rfl; have := g2.le; simp [Res.at_] at *; omega
  | textL _ _ => intro x b h; cases h
  | textS _ _ _ => intro x b h; cases h
  | textW _ _ _ _ _ => intro x b h; cases h
  | text _ _ _ g4 _ _ => intro x b h; cases h; have := g4.le; simp; omega
  | mono _ => intro x b h; have := hbox _ _ _ _ _ _ h; simp; omega
  | left _ _ => intro x b h; have := hbox _ _ _ _ _ _ h; simp; omega
  | right _ _ => intro x b h; have := hbox _ _ _ _ _ _ h; simp; omega
  | side _ _ _ => intro x b h; cases h
def gotV (A : Option Addr) (n c : Nat) (p wrong : Int) : Value := .agg #[.slice A n c, .int .i64 p, .int .i64 wrong]
/-- what one of the readers answers. -/
def GotR (w : World) (r : Res (List Nd)) (e : Ending) (w' : World) : Prop := match r with
  | .ok x b => ∃ A n c, e = .returned (gotV A n c b 0) ∧ Nds w.heap.size w' A n x ∧ Below w.heap.size w w'
  | .bad p => e = .returned (gotV none 0 0 p 1) ∧ Below w.heap.size w w'
def GotP (toks : List Tok) (t : Bool) (i : Nat) (w : World) (e : Ending) (w' : World) : Prop := ∃ r, Parse toks t i [] r ∧ GotR w r e w'
/-- a block that holds a struct, read whole. -/
theorem box_load {P : Program} {w : World} {n k : Nat} {vs : List Value} (h : Box w n vs) (hk : vs.length = k) (cs : Array Value) (hc : cs = vs.toArray) : (loadCellsFrom ⟨n, 0, none⟩ 0 k #[]).run P w = .ok cs w := by
  subst hk hc
  have := run_loadCells_list (P := P) w ⟨n, 0, none⟩ vs (fun j v hv => by
    rw [Go.WideShapes.add_plain, Nat.zero_add]; exact h.2.2 j v hv)
  simpa [loadCells] using this
theorem box3_of {w : World} {n : Nat} {a b c : Value} (h : Box w n [a, b, c]) : (w.cell? ⟨n, 0, none⟩ = some a ∧ w.cell? ⟨n, 1, none⟩ = some b ∧ w.cell? ⟨n, 2, none⟩ = some c) ∧ (w.frozen? ⟨n, 0, none⟩ = false ∧ w.frozen? ⟨n, 1, none⟩ = false ∧ w.frozen? ⟨n, 2, none⟩ = false) ∧ n < w.heap.size :=
  ⟨⟨h.2.2 0 _ rfl, h.2.2 1 _ rfl, h.2.2 2 _ rfl⟩, ⟨h.2.1 _, h.2.1 _, h.2.1 _⟩, h.1⟩
theorem rows_box {α : Type} {k : Nat} {enc : α → List Value} (hk : ∀ x, (enc x).length = k) {w : World} {n : Nat} {zs : List α} (h : Box w n (zs.flatMap enc)) (hl : zs.length ≤ 1000000) : Rows k enc w (some ⟨n, 0, none⟩) zs.length zs := by
  refine ⟨rfl, by omega, fun _ => ⟨n, 0, rfl, h.1, fun i x hx j v hv => ?_⟩⟩
  rw [Nat.zero_add]
  exact h.2.2 _ _ (flat_get hk zs i x j v hx hv)
theorem box_new (w : World) (vs : List Value) (t : TypeId) (n : Nat) (h : n = w.heap.size) (cs : Array Value) (hc : cs = vs.toArray) : Box (w.alloc (.cells cs t)) n vs := by subst h hc; exact Box.new w vs t
end Go.Proofs.YtildplbdhnodjaaDoor
/- The program's package read: the reader in memory; what is left of the tokens; one token taken. -/
namespace Go.Proofs.YtildplbdhnodjaaDoor
open Go.RowKit
set_option linter.unusedVariables false
set_option linter.unusedSimpArgs false
/-- block g alone may have changed; new blocks may have been made. -/
structure Bar (g : Nat) (w w' : World) : Prop where
  os : w'.os = w.os
  tape : w'.tape = w.tape
  output : w'.output = w.output
  size : w.heap.size ≤ w'.heap.size
  block : ∀ k, k < w.heap.size → k ≠ g → w'.heap[k]? = w.heap[k]?
theorem Bar.refl (g : Nat) (w : World) : Bar g w w := ⟨rfl, rfl, rfl, Nat.le_refl _, fun _ _ _ => rfl⟩
theorem Bar.trans {g : Nat} {a b c : World} (h : Bar g a b) (k : Bar g b c) : Bar g a c :=
  ⟨k.os.trans h.os, k.tape.trans h.tape, k.output.trans h.output, Nat.le_trans h.size k.size, fun i hi hg => (k.block i (Nat.lt_of_lt_of_le hi h.size) hg).trans (h.block i hi hg)⟩
theorem Bar.of_below {g : Nat} {w w' : World} (h : Below w.heap.size w w') : Bar g w w' := ⟨h.os, h.tape, h.output, h.size, fun k hk _ => h.block k hk⟩
theorem Bar.below {g B : Nat} {w w' : World} (h : Bar g w w') (hg : B ≤ g) (hB : B ≤ w.heap.size) : Below B w w' := ⟨h.os, h.tape, h.output, h.size, fun k hk => h.block k (by omega) (by omega)⟩
theorem Bar.set {g : Nat} {w w' : World} (h : Bar g w w') (j : Nat) (v : Value) : Bar g w (w'.setCell ⟨g, j, none⟩ v) :=
  ⟨h.os, h.tape, h.output, by simpa using h.size, fun k hk hg => (Below.heap_setCell _ _ _ _ (fun e => hg (by simpa using e))).trans (h.block k hk hg)⟩
theorem Bar.drew {g : Nat} {w w' : World} (h : Bar g w w') : Bar g w w'.drew := ⟨h.os, h.tape, h.output, h.size, h.block⟩
theorem Bar.alloc {g : Nat} {w w' : World} (h : Bar g w w') (o : Obj) : Bar g w (w'.alloc o) := h.trans (Bar.of_below ((Below.refl _ _).alloc (Nat.le_refl _) o))
theorem Box.bar {g : Nat} {w w' : World} {n : Nat} {vs : List Value} (h : Box w n vs) (hb : Bar g w w') (hn : n ≠ g) : Box w' n vs := by
  have e := hb.block n h.1 hn
  refine ⟨Nat.lt_of_lt_of_le h.1 hb.size, fun o => ?_, fun j v hv => ?_⟩
  · rw [← h.2.1 o]; simp only [World.frozen?, e]
  · rw [← h.2.2 j v hv]; simp only [World.cell?, e]
theorem Blk.bar {g : Nat} {w w' : World} {n : Nat} {t : TypeId} {vs : List Value} (h : Blk w n t vs) (hb : Bar g w w') (hn : n ≠ g) : Blk w' n t vs := (hb.block n (Array.getElem?_eq_some_iff.1 h).1 hn).trans h
/-- the slice's block is one below g. -/
def Apart (g : Nat) (A : Option Addr) : Prop := ∀ p, A = some p → p.block < g
theorem Rows.bar {α : Type} {k g : Nat} {enc : α → List Value} {w w' : World} {A : Option Addr} {n : Nat} {zs : List α} (h : Rows k enc w A n zs) (hb : Bar g w w') (hA : Apart g A) : Rows k enc w' A n zs :=
  ⟨h.1, h.2.1, fun hn => by
    obtain ⟨b, off, e, hl, hc⟩ := h.2.2 hn
    have hg := Nat.ne_of_lt (hA _ e)
    exact ⟨b, off, e, Nat.lt_of_lt_of_le hl hb.size, fun i x hx j v hv => (World.cell?_of_block (w := w) (a := ⟨b, _, .none⟩) (hb.block b hl hg)).trans (hc i x hx j v hv)⟩⟩
theorem owns_bar {g : Nat} {w w' : World} {base : Nat} {e : TypeId} {size : Nat} {v : Value} {n : Nat} {xs : List Value} (h : w.ownsRow base e size v n xs) (hb : Bar g w w') (hg : g < base) : w'.ownsRow base e size v n xs := by
  refine ⟨h.1, ?_⟩
  rcases h.2 with h2 | ⟨k, cap, cur, h1, h2, h3, h4⟩
  · exact .inl h2
  · exact .inr ⟨k, cap, cur, h1, h2, (hb.block k (Array.getElem?_eq_some_iff.1 h3).1 (by omega)).trans h3, h4⟩
/-- the tail of a row. -/
theorem Rows.tail {α : Type} {k : Nat} {enc : α → List Value} {w : World} {b off n : Nat} {z : α} {zs : List α} (h : Rows k enc w (some ⟨b, off, .none⟩) (n + 1) (z :: zs)) : Rows k enc w (some ⟨b, off + k, .none⟩) n zs :=
  ⟨by have := h.1; simpa using this, by have := h.2.1; omega, fun _ => by
    obtain ⟨b', off', e, hl, hc⟩ := h.2.2 (by omega)
    injection e with e; injection e with e1 e2; subst e1 e2
    exact ⟨b, off + k, rfl, hl, fun i x hx j v hv => by
      have := hc (i + 1) x (by simpa using hx) j v hv
      rw [show off + (i + 1) * k + j = off + k + i * k + j by rw [Nat.add_mul]; omega] at this
      exact this⟩⟩
/-- a reader's cells. -/
def rcells (left : Value) (size : Int) (wr : Bool) (row opn : Value) (s : Sty) (mp : Value) : List Value :=
  [left, .int .i64 size, .bool wr, row, opn, .int .i64 s.top, .int .i64 s.bottom, .int .i64 s.padTop, .int .i64 s.padBottom, .int .i64 s.inset, .int .i64 s.orphans, .int .i64 s.widows, .int .i64 s.head, .int .i64 s.before, .int .i64 s.after, .int .i64 s.inside, .int .i64 s.clear, mp]
/-- the reader in block g: i tokens are taken. -/
def Rd (toks : List Tok) (size : Int) (g : Nat) (w : World) (i : Nat) (wr : Bool) (row opn : Value) (s : Sty) (mp : Value) : Prop :=
  ∃ A m c, Rows 4 encT w A m (toks.drop i) ∧ Apart g A ∧ m ≤ c ∧ i ≤ toks.length ∧ Blk w g 51 (rcells (.slice A m c) size wr row opn s mp)
theorem Rd.bar {toks : List Tok} {size : Int} {g : Nat} {w w' : World} {i : Nat} {wr : Bool} {row opn : Value} {s : Sty} {mp : Value} (h : Rd toks size g w i wr row opn s mp) (hb : Bar g w w') (hg : w'.heap[g]? = w.heap[g]?) : Rd toks size g w' i wr row opn s mp := by
  obtain ⟨A, m, c, h1, h2, h3, h4, h5⟩ := h
  exact ⟨A, m, c, h1.bar hb h2, h2, h3, h4, hg.trans h5⟩
theorem Rd.below {toks : List Tok} {size : Int} {g : Nat} {w w' : World} {i : Nat} {wr : Bool} {row opn : Value} {s : Sty} {mp : Value} (h : Rd toks size g w i wr row opn s mp) (hb : Below w.heap.size w w') : Rd toks size g w' i wr row opn s mp := by
  have hg : g < w.heap.size := by
    obtain ⟨A, m, c, h1, h2, h3, h4, h5⟩ := h
    exact (Array.getElem?_eq_some_iff.1 h5).1
  exact h.bar (Bar.of_below hb) (hb.block g hg)
theorem Rd.low {toks : List Tok} {size : Int} {g : Nat} {w w' : World} {i : Nat} {wr : Bool} {row opn : Value} {s : Sty} {mp : Value} (h : Rd toks size g w i wr row opn s mp) (hb : Below (g + 1) w w') : Rd toks size g w' i wr row opn s mp := by
  obtain ⟨A, m, c, h1, h2, h3, h4, h5⟩ := h
  refine ⟨A, m, c, ⟨h1.1, h1.2.1, fun hn => ?_⟩, h2, h3, h4, (hb.block g (Nat.lt_succ_self g)).trans h5⟩
  obtain ⟨b, off, e, hl, hc⟩ := h1.2.2 hn
  have hg := h2 _ e
  exact ⟨b, off, e, Nat.lt_of_lt_of_le hl hb.size, fun i x hx j v hv => (World.cell?_of_block (w := w) (a := ⟨b, _, none⟩) (hb.block b (by simp only at hg; omega))).trans (hc i x hx j v hv)⟩
theorem Rd.lt {toks : List Tok} {size : Int} {g : Nat} {w : World} {i : Nat} {wr : Bool} {row opn : Value} {s : Sty} {mp : Value} (h : Rd toks size g w i wr row opn s mp) : g < w.heap.size := by
  obtain ⟨A, m, c, h1, h2, h3, h4, h5⟩ := h
  exact (Array.getElem?_eq_some_iff.1 h5).1
theorem Rd.le {toks : List Tok} {size : Int} {g : Nat} {w : World} {i : Nat} {wr : Bool} {row opn : Value} {s : Sty} {mp : Value} (h : Rd toks size g w i wr row opn s mp) : i ≤ toks.length := by
  obtain ⟨A, m, c, h1, h2, h3, h4, h5⟩ := h
  exact h4
/-- what the reader's block says when a cell of it is stored into. -/
theorem Rd.set {toks : List Tok} {size : Int} {g : Nat} {w : World} {i : Nat} {wr : Bool} {row opn : Value} {s : Sty} {mp : Value} (h : Rd toks size g w i wr row opn s mp) {wr' : Bool} {row' opn' : Value} {s' : Sty} {mp' : Value} (j : Nat) (v : Value)
    (e : ∀ left, (rcells left size wr row opn s mp).set j v = rcells left size wr' row' opn' s' mp') : Rd toks size g (w.setCell ⟨g, j, none⟩ v) i wr' row' opn' s' mp' := by
  obtain ⟨A, m, c, h1, h2, h3, h4, h5⟩ := h
  have := h5.set j v
  rw [e] at this
  exact ⟨A, m, c, h1.bar ((Bar.refl _ _).set _ _) h2, h2, h3, h4, this⟩
theorem drop_get (toks : List Tok) (i : Nat) : (toks.drop i)[0]? = toks[i]? := by rw [List.getElem?_drop]; rfl
theorem sgB_drop (toks : List Tok) (i : Nat) (c : Int) : sgB toks i c = sgB (toks.drop i) 0 c := by unfold sgB; rw [drop_get]
/-- the first of what is left: where it lies; what is left behind it. -/
theorem left_at {w : World} {A : Option Addr} {m i : Nat} {toks : List Tok} (h : Rows 4 encT w A m (toks.drop i)) (hm : 0 < m) :
    ∃ b off x y u v, A = some ⟨b, off, none⟩ ∧ b < w.heap.size ∧ toks[i]? = some ⟨x, y, u, v⟩ ∧ (w.cell? ⟨b, off, none⟩ = some (.int .i64 x) ∧ w.cell? ⟨b, off + 1, none⟩ = some (.int .i32 y) ∧ w.cell? ⟨b, off + 2, none⟩ = some (.int .i64 u) ∧ w.cell? ⟨b, off + 3, none⟩ = some (.int .i64 v)) ∧
      Rows 4 encT w (some ⟨b, off + 4, none⟩) (m - 1) (toks.drop (i + 1)) := by
  obtain ⟨b, off, x, y, u, v, rfl, hb, hx, c0, c1, c2, c3⟩ := toks_at h hm
  rw [drop_get] at hx
  simp only [Nat.zero_mul, Nat.add_zero] at c0 c1 c2 c3
  refine ⟨b, off, x, y, u, v, rfl, hb, hx, ⟨c0, c1, c2, c3⟩, ?_⟩
  have hlt := (List.getElem?_eq_some_iff.1 hx).1
  have e : toks.drop i = ⟨x, y, u, v⟩ :: toks.drop (i + 1) := by
    rw [List.drop_eq_getElem_cons hlt]
    congr 1
    have := List.getElem?_eq_getElem hlt
    rw [hx] at this
    injection this with this
    exact this.symm
  rw [e, show m = (m - 1) + 1 by omega] at h
  exact h.tail
theorem left_none {w : World} {A : Option Addr} {i : Nat} {toks : List Tok} (h : Rows 4 encT w A 0 (toks.drop i)) : toks[i]? = none := by
  have := h.1
  rw [List.length_drop] at this
  exact List.getElem?_eq_none (by omega)
theorem tmore_any {toks : List Tok} {size : Int} {g : Nat} {w : World} {i : Nat} {wr : Bool} {row opn : Value} {s : Sty} {mp : Value} (h : Rd toks size g w i wr row opn s mp) :
    Calls Tryd.prog 23 #[.pointer (some ⟨g, 0, none⟩)] w fun e w' => e = .returned (.bool (!wr && decide (i < toks.length))) ∧ w = w' := by
  obtain ⟨A, m, c, h1, h2, h3, h4, h5⟩ := h
  have c0 : w.cell? ⟨g, 0, none⟩ = some (.slice A m c) := h5.box.2.2 0 _ rfl
  have c2 : w.cell? ⟨g, 2, none⟩ = some (.bool wr) := h5.box.2.2 2 _ rfl
  have hm := h1.1
  rw [List.length_drop] at hm
  have hm2 := h1.2.1
  have HE := Lib.hid (show decide (i < toks.length) = decide ((0 : Int) < (m : Int)) from decide_eq_decide.2 (by omega))
  clear h1 h5 hm
  cases wr with
  | true =>
    go_enter Tryd.func23, Tryd.ntmps23
    go_wp2
    go_ret
    exact ⟨rfl, rfl⟩
  | false =>
    go_enter Tryd.func23, Tryd.ntmps23
    go_wp2
    go_ret
    exact ⟨ret_bool (by rw [HE.out]; simp), rfl⟩
end Go.Proofs.YtildplbdhnodjaaDoor
/- Styles compared; nodes compared. -/
namespace Go.Proofs.YtildplbdhnodjaaDoor
open Go.RowKit
set_option linter.unusedVariables false
set_option linter.unusedSimpArgs false
def litS (s : Sty) : List Lit := [.int .i64 s.top, .int .i64 s.bottom, .int .i64 s.padTop, .int .i64 s.padBottom, .int .i64 s.inset, .int .i64 s.orphans, .int .i64 s.widows, .int .i64 s.head, .int .i64 s.before, .int .i64 s.after, .int .i64 s.inside, .int .i64 s.clear]
def styB (s t : Sty) : Bool := s.top == t.top && s.bottom == t.bottom && s.padTop == t.padTop && s.padBottom == t.padBottom && s.inset == t.inset && s.orphans == t.orphans && s.widows == t.widows && s.head == t.head && s.before == t.before && s.after == t.after && s.inside == t.inside && s.clear == t.clear
theorem styB_iff (s t : Sty) : styB s t = true ↔ s = t := by
  obtain ⟨a0, a1, a2, a3, a4, a5, a6, a7, a8, a9, a10, a11⟩ := s
  obtain ⟨b0, b1, b2, b3, b4, b5, b6, b7, b8, b9, b10, b11⟩ := t
  simp [styB, and_assoc]
theorem litS_iff (s t : Sty) : litS s = litS t ↔ s = t := by
  obtain ⟨a0, a1, a2, a3, a4, a5, a6, a7, a8, a9, a10, a11⟩ := s
  obtain ⟨b0, b1, b2, b3, b4, b5, b6, b7, b8, b9, b10, b11⟩ := t
  simp [litS]
theorem part_int (xs : Array Value) (k : Nat) (v : Value) (h : xs[k]? = some v) (w : World) : (part 3 xs k).run Tryd.prog w = .ok v w := run_part_plain w (by kernel_rfl) h
theorem ite_ok {p : Prop} [Decidable p] {c : Bool} {w : World} : (if p then Result.ok c w else Result.ok false w) = Result.ok (decide p && c) w := by split <;> simp_all
theorem ite_and {b : Bool} {c : Bool} {w : World} : (if (!b) = true then Result.ok false w else Result.ok c w) = Result.ok (b && c) w := by cases b <;> rfl
set_option maxRecDepth 10000 in
theorem sty_equal (s t : Sty) (w : World) : (Op.equalIn 10000 34 (.agg (encS12 s).toArray) (.agg (encS12 t).toArray)).run Tryd.prog w = .ok (styB s t) w := by
  obtain ⟨a0, a1, a2, a3, a4, a5, a6, a7, a8, a9, a10, a11⟩ := s
  obtain ⟨b0, b1, b2, b3, b4, b5, b6, b7, b8, b9, b10, b11⟩ := t
  rw [show (10000 : Nat) = 9999 + 1 from rfl, run_equalIn_struct w 9999 _ _ _ (by kernel_rfl) (by kernel_rfl)]
  have hi : ∀ (a b : Int) (w : World), (Op.equalIn 9999 3 (.int .i64 a) (.int .i64 b)).run Tryd.prog w = .ok (a == b) w := fun a b w => run_equalIn_int w 9998 3 .i64 .i64 a b Tryd.underlying3
  simp [Program.fieldsOf, Tryd.underlying34, Op.eqFields, encS12, part_int, hi, styB, ite_and]
  simp only [ite_ok]
  congr 1
  rw [Bool.eq_iff_iff]
  simp [and_assoc]
/-- two nodes are the same. -/
def ndB (x y : Nd) : Bool := x.kind == y.kind && x.size == y.size && styB x.sty y.sty && x.line == y.line && x.space == y.space && x.side == y.side && x.w == y.w && x.h == y.h && x.words == y.words
theorem ndB_iff (x y : Nd) : ndB x y = true ↔ x = y := by
  obtain ⟨a0, a1, a2, a3, a4, a5, a6, a7, a8⟩ := x
  obtain ⟨b0, b1, b2, b3, b4, b5, b6, b7, b8⟩ := y
  simp [ndB, styB_iff]
  constructor
  · rintro ⟨⟨⟨⟨⟨⟨⟨⟨h1, h2⟩, h3⟩, h4⟩, h5⟩, h6⟩, h7⟩, h8⟩, h9⟩
    exact ⟨h1, h2, h3, h4, h5, h9, h6, h7, h8⟩
  · rintro ⟨h1, h2, h3, h4, h5, h9, h6, h7, h8⟩
    exact ⟨⟨⟨⟨⟨⟨⟨⟨h1, h2⟩, h3⟩, h4⟩, h5⟩, h6⟩, h7⟩, h8⟩, h9⟩
/-- a node that can be read there: its words, too. -/
def Shows (w : World) (m : NdM) (x : Nd) : Prop := (x.kind = m.kind ∧ x.size = m.size ∧ x.sty = m.sty ∧ x.line = m.line ∧ x.space = m.space ∧ x.side = m.side ∧ x.w = m.w ∧ x.h = m.h) ∧ Ints w m.A m.n x.words
theorem Shows.below {w w' : World} {m : NdM} {x : Nd} (h : Shows w m x) (hb : Below w.heap.size w w') : Shows w' m x := ⟨h.1, (h.2.cells.below hb rfl).ints⟩
theorem Holds.shows {base : Nat} {w : World} {m : NdM} {x : Nd} (h : Holds base w m x) : Shows w m x := ⟨h.1, h.ints⟩
/-- nodes that can be read there. -/
def Sees (w : World) (A : Option Addr) (n : Nat) (l : List Nd) : Prop := ∃ zs : List NdM, Rows 20 encM w A n zs ∧ zs.length = l.length ∧ ∀ (i : Nat) (m : NdM) (x : Nd), zs[i]? = some m → l[i]? = some x → Shows w m x
theorem Sees.below {w w' : World} {A : Option Addr} {n : Nat} {l : List Nd} (h : Sees w A n l) (hb : Below w.heap.size w w') : Sees w' A n l := by
  obtain ⟨zs, h1, h2, h3⟩ := h
  exact ⟨zs, h1.below hb, h2, fun i m x h4 h5 => (h3 i m x h4 h5).below hb⟩
theorem Nds.sees {base : Nat} {w : World} {A : Option Addr} {n : Nat} {l : List Nd} (h : Nds base w A n l) : Sees w A n l := by
  obtain ⟨zs, h1, h2, h3⟩ := h
  exact ⟨zs, h1, h2.1, fun i m x h4 h5 => (h2.2 i m x h4 h5).shows⟩
theorem Sees.len {w : World} {A : Option Addr} {n : Nat} {l : List Nd} (h : Sees w A n l) : l.length = n := by
  obtain ⟨zs, h1, h2, _⟩ := h
  rw [← h2]; exact h1.1
end Go.Proofs.YtildplbdhnodjaaDoor
/- What a script is read as; what a reader of scripts answers. -/
namespace Go.Proofs.YtildplbdhnodjaaDoor
open Go.RowKit
set_option linter.unusedVariables false
set_option linter.unusedSimpArgs false
/-- what a script is read as, by the document's words. -/
def ReadB (s : ByteArray) (r : Option (List Nd) × Nat) : Prop := (∃ k, lexB s = (none, k) ∧ r = (none, k)) ∨ (∃ toks q, lexB s = (some toks, q) ∧ Read toks s.size r)
theorem ReadB.det {s : ByteArray} {r r' : Option (List Nd) × Nat} (h : ReadB s r) (h' : ReadB s r') : r = r' := by
  rcases h with ⟨k, h1, rfl⟩ | ⟨t, q, h1, h2⟩ <;> rcases h' with ⟨k', h1', rfl⟩ | ⟨t', q', h1', h2'⟩ <;> rw [h1] at h1'
  · injection h1' with _ h; rw [h]
  · injection h1' with h _; cases h
  · injection h1' with h _; cases h
  · injection h1' with h _; injection h with h; subst h; exact h2.det h2'
/-- what Of answers. -/
def OfPost (w : World) (s : ByteArray) (e : Ending) (w' : World) : Prop :=
  (∃ x A n c, ReadB s (some x, 0) ∧ e = .returned (.tuple #[.slice A n c, .int .i64 0, .int .i64 0]) ∧ Nds w.heap.size w' A n x ∧ Below w.heap.size w w') ∨
  (∃ k : Nat, ReadB s (none, k) ∧ e = .returned (.tuple #[.slice none 0 0, .int .i64 (k : Int), .int .i64 1]) ∧ Below w.heap.size w w')
end Go.Proofs.YtildplbdhnodjaaDoor
/- The program's package read: how far from the end the reader is. -/
namespace Go.Proofs.YtildplbdhnodjaaDoor
open Go.RowKit
set_option linter.unusedVariables false
set_option linter.unusedSimpArgs false
def meas (w : World) (g : Nat) : Nat := (match w.cell? ⟨g, 0, .none⟩ with | some (.slice _ n _) => 2 * n | _ => 0) + (match w.cell? ⟨g, 2, .none⟩ with | some (.bool true) => 0 | _ => 1)
theorem Rd.meas {toks : List Tok} {size : Int} {g : Nat} {w : World} {i : Nat} {wr : Bool} {row opn : Value} {s : Sty} {mp : Value} (h : Rd toks size g w i wr row opn s mp) : Go.Proofs.YtildplbdhnodjaaDoor.meas w g = 2 * (toks.length - i) + (if wr then 0 else 1) := by
  obtain ⟨A, m, c, h1, h2, h3, h4, h5⟩ := h
  have c0 : w.cell? ⟨g, 0, none⟩ = some (.slice A m c) := h5.box.2.2 0 _ rfl
  have c2 : w.cell? ⟨g, 2, none⟩ = some (.bool wr) := h5.box.2.2 2 _ rfl
  have hm := h1.1
  rw [List.length_drop] at hm
  unfold Go.Proofs.YtildplbdhnodjaaDoor.meas
  rw [c0, c2, hm]
  cases wr <;> rfl
end Go.Proofs.YtildplbdhnodjaaDoor
/- Nodes that can be read: each one's cells. -/
namespace Go.Proofs.YtildplbdhnodjaaDoor
open Go.RowKit
set_option linter.unusedVariables false
set_option linter.unusedSimpArgs false
theorem rows_range {w : World} {A : Option Addr} {n k : Nat} {zs : List NdM} (h : Rows 20 encM w A n zs) (hk : k < n) : ∃ b off m, A = some ⟨b, off, none⟩ ∧ b < w.heap.size ∧ zs[k]? = some m ∧ w.rangeAt b (off + k * 20) (encM m) := by
  obtain ⟨b, off, m, h1, h2, h3, h4⟩ := h.at_ hk
  exact ⟨b, off, m, h1, h2, h3, h4⟩
theorem range_on {w : World} {b o : Nat} {cs : List Value} (h : w.rangeAt b o cs) : ∀ W', On w W' → W'.rangeAt b o cs := fun W' hW j v hv => On.cell (h j v hv) W' hW
theorem Sees.at_ {w : World} {A : Option Addr} {n k : Nat} {l : List Nd} (h : Sees w A n l) (hk : k < n) : ∃ b off m x, A = some ⟨b, off, none⟩ ∧ b < w.heap.size ∧ l[k]? = some x ∧ w.rangeAt b (off + k * 20) (encM m) ∧ Shows w m x := by
  obtain ⟨zs, h1, h2, h3⟩ := h
  obtain ⟨b, off, m, e1, e2, e3, e4⟩ := rows_range h1 hk
  have hl := h1.1
  have hx : l[k]? = some (l[k]'(by omega)) := List.getElem?_eq_getElem _
  exact ⟨b, off, m, _, e1, e2, hx, e4, h3 k m _ e3 hx⟩
theorem Sees.bound {w : World} {A : Option Addr} {n : Nat} {l : List Nd} (h : Sees w A n l) : n ≤ 9223372036854775807 := by
  obtain ⟨zs, h1, _⟩ := h
  exact h1.2.1
theorem Sees.on {w w' : World} {A : Option Addr} {n : Nat} {l : List Nd} (h : Sees w A n l) (hb : On w w') : Sees w' A n l := h.below hb
theorem Sees.nil (w : World) : Sees w none 0 [] := ⟨[], Rows.nil _ _, rfl, fun i m x h => by simp at h⟩
end Go.Proofs.YtildplbdhnodjaaDoor
/- The program's package valid: how much a node is; sums put together. -/
namespace Go.Proofs.YtildplbdhnodjaaDoor
open Go.RowKit
set_option linter.unusedVariables false
set_option linter.unusedSimpArgs false
def encSm (s : Sm) : List Value := [.int .i64 s.depth, .int .i64 s.pieces, .int .i64 s.nodes, .int .i64 s.heights]
def sumV (s : Sm) : Value := .agg #[.int .i64 s.depth, .int .i64 s.pieces, .int .i64 s.nodes, .int .i64 s.heights]
def timesI (line many : Int) : Int := if 1099511627777 / many < line then 1099511627777 else line * many
theorem timesI_cut {line many : Int} (h1 : 1 ≤ line) (h2 : 1 ≤ many) : timesI line many = cut (line * many) := by
  unfold timesI cut cutN
  have hm : 0 ≤ line * many := Int.mul_nonneg (by omega) (by omega)
  by_cases h : 1099511627777 / many < line
  · rw [if_pos h]
    have := (Int.ediv_lt_iff_lt_mul (by omega : 0 < many)).1 h
    omega
  · rw [if_neg h]
    have := (Int.le_ediv_iff_mul_le (by omega : 0 < many)).1 (by omega : line ≤ 1099511627777 / many)
    omega
theorem ptimes_any (line many : Int) (w : World) (h1 : 1 ≤ line) (h2 : 1 ≤ many) (h3 : many ≤ 9223372036854775807) : Calls Tryd.prog 76 #[.int .i64 line, .int .i64 many] w fun e w' => e = .returned (.int .i64 (timesI line many)) ∧ w = w' := by
  have q0 := Int.ediv_nonneg (show (0 : Int) ≤ 1099511627777 by decide) (show 0 ≤ many by omega)
  have q1 := Int.ediv_le_self many (show (0 : Int) ≤ 1099511627777 by decide)
  have hz : (many == 0) = false := by simp; omega
  have hz2 : ¬ many = 0 := by omega
  by_cases h : 1099511627777 / many < line
  · have HV := Lib.hid (show timesI line many = 1099511627777 by unfold timesI; rw [if_pos h])
    go_enter Tryd.func76, Tryd.ntmps76
    go_wp2_with fail
    go_ret
    exact ⟨ret_int (by rw [HV.out]), rfl⟩
  · have HV := Lib.hid (show timesI line many = line * many by unfold timesI; rw [if_neg h])
    have hle := (Int.le_ediv_iff_mul_le (by omega : 0 < many)).1 (by omega : line ≤ 1099511627777 / many)
    have hm : 0 ≤ line * many := Int.mul_nonneg (by omega) (by omega)
    have hwr : IntKind.i64.wrap (line * many) = line * many := by rw [IntKind.wrap_i64]; omega
    have h' : line ≤ 1099511627777 / many := by omega
    clear h hle hm
    go_enter Tryd.func76, Tryd.ntmps76
    go_wp2_with fail
    go_ret
    exact ⟨ret_int (by rw [HV.out]), rfl⟩
theorem ptimes_to {line many v : Int} (hv : timesI line many = v) (w : World) (h1 : 1 ≤ line) (h2 : 1 ≤ many) (h3 : many ≤ 9223372036854775807) : Calls Tryd.prog 76 #[.int .i64 line, .int .i64 many] w fun e w' => e = .returned (.int .i64 v) ∧ w = w' := by
  subst hv; exact ptimes_any line many w h1 h2 h3
def plusS (s x : Sm) : Sm := ⟨max s.depth x.depth, wr (s.pieces + x.pieces), s.nodes + x.nodes, min (s.heights + x.heights) cutN⟩
set_option maxHeartbeats 4000000 in
set_option maxRecDepth 100000 in
theorem ptogether_any (s x : Sm) (b c : Nat) (w : World) (hB : Box w b [.int .i64 s.depth, .int .i64 s.pieces, .int .i64 s.nodes, .int .i64 s.heights, .int .i64 x.depth, .int .i64 x.pieces, .int .i64 x.nodes, .int .i64 x.heights])
    (h1 : 0 ≤ s.depth) (h2 : wr s.pieces = s.pieces) (h3 : 0 ≤ s.nodes ∧ s.nodes ≤ 1152921504606846976) (h4 : 0 ≤ s.heights ∧ s.heights ≤ 1099511627777) (k1 : 0 ≤ x.depth) (k3 : 0 ≤ x.nodes ∧ x.nodes ≤ 1152921504606846976) (k4 : 0 ≤ x.heights ∧ x.heights ≤ 1152921504606846976) :
    Calls Tryd.prog 60 #[.slice (some ⟨b, 0, none⟩) 2 c] w fun e w' => e = .returned (sumV (plusS s x)) ∧ Below w.heap.size w w' := by
  obtain ⟨d0, p0, n0, g0⟩ := s
  obtain ⟨d1, p1, n1, g1⟩ := x
  simp only at *
  obtain ⟨p, hp⟩ : ∃ p, IntKind.i64.wrap (p0 + p1) = p := ⟨_, rfl⟩
  have hp2 : wr (p0 + p1) = p := hp
  have hp0 : IntKind.i64.wrap p0 = p0 := h2
  obtain ⟨n, hn⟩ : ∃ n, n0 + n1 = n := ⟨_, rfl⟩
  obtain ⟨d, hd⟩ : ∃ d, max d0 d1 = d := ⟨_, rfl⟩
  obtain ⟨g, hg⟩ : ∃ g, min (g0 + g1) 1099511627777 = g := ⟨_, rfl⟩
  have HV := Lib.hid (show plusS ⟨d0, p0, n0, g0⟩ ⟨d1, p1, n1, g1⟩ = ⟨d, p, n, g⟩ by unfold plusS cutN; simp only [hp2, hn, hd, hg])
  clear hp2 h2
  have m0 : max 0 d0 = d0 := by omega
  have m1 : min g0 1099511627777 = g0 := by omega
  have HB := Lib.hid hB
  have hlt := hB.1
  clear hB
  go_enter Tryd.func60, Tryd.ntmps60
  go_wp2_with fail
  go_loopw [8] (fun i wr => ∃ k : Nat, i = .int .i64 k ∧ Below w.heap.size w wr ∧ Box wr w.heap.size [.int .i64 0, .int .i64 0, .int .i64 0, .int .i64 0] ∧ ((k = 0 ∧ Box wr (w.heap.size + 1) [.int .i64 0, .int .i64 0, .int .i64 0, .int .i64 0]) ∨ (k = 1 ∧ Box wr (w.heap.size + 1) [.int .i64 d0, .int .i64 p0, .int .i64 n0, .int .i64 g0]) ∨ (k = 2 ∧ Box wr (w.heap.size + 1) [.int .i64 d, .int .i64 p, .int .i64 n, .int .i64 g]))) (fun i _ => 2 - (intOf i).toNat)
  case atStart => exact ⟨0, rfl, by go_grown, (box_new w _ _ _ rfl _ rfl).alloc _, .inl ⟨rfl, box_new _ _ _ _ (by simp) _ rfl⟩⟩
  case round =>
    obtain ⟨k, rfl, hon, hX, hk⟩ := hrel
    have hD := hon.size
    have hbb := HB.out.belowB hon hlt
    have HX := Lib.hid hX
    have HO := Lib.hid hon
    rcases hk with ⟨rfl, hS⟩ | ⟨rfl, hS⟩ | ⟨rfl, hS⟩
    · have HS := Lib.hid hS
      have c0 := hbb.2.2 0 _ rfl
      have c1 := hbb.2.2 1 _ rfl
      have c2 := hbb.2.2 2 _ rfl
      have c3 := hbb.2.2 3 _ rfl
      have s0 := hS.2.2 0 _ rfl
      have s1 := hS.2.2 1 _ rfl
      have s2 := hS.2.2 2 _ rfl
      have s3 := hS.2.2 3 _ rfl
      have f0 := hS.2.1 0
      have f1 := hS.2.1 1
      have f2 := hS.2.1 2
      have f3 := hS.2.1 3
      have hl := hS.1
      have hne : ¬ w.heap.size + 1 = wr.heap.size := by omega
      clear hX hon hbb hS
      go_wp2_with fail
      go_roundw
      case rel =>
        refine ⟨1, by go_num, (((((HO.out.setCell (by simp) _).setCell (by simp) _).setCell (by simp) _).setCell (by simp) _).alloc (by simp; omega) _), ((((HX.out.set_other (by omega) _ _).set_other (by omega) _ _).set_other (by omega) _ _).set_other (by omega) _ _).alloc _, .inr (.inl ⟨rfl, ?_⟩)⟩
        exact ((((HS.out.set 0 _ (by simp)).set 1 _ (by simp)).set 2 _ (by simp)).set 3 _ (by simp)).alloc _
      case measure => simp [intOf]
    · have HS := Lib.hid hS
      have c0 := hbb.2.2 4 _ rfl
      have c1 := hbb.2.2 5 _ rfl
      have c2 := hbb.2.2 6 _ rfl
      have c3 := hbb.2.2 7 _ rfl
      have s0 := hS.2.2 0 _ rfl
      have s1 := hS.2.2 1 _ rfl
      have s2 := hS.2.2 2 _ rfl
      have s3 := hS.2.2 3 _ rfl
      have f0 := hS.2.1 0
      have f1 := hS.2.1 1
      have f2 := hS.2.1 2
      have f3 := hS.2.1 3
      have hl := hS.1
      have hne : ¬ w.heap.size + 1 = wr.heap.size := by omega
      clear hX hon hbb hS
      go_wp2_with fail
      go_roundw
      case rel =>
        refine ⟨2, by go_num, (((((HO.out.setCell (by simp) _).setCell (by simp) _).setCell (by simp) _).setCell (by simp) _).alloc (by simp; omega) _), ((((HX.out.set_other (by omega) _ _).set_other (by omega) _ _).set_other (by omega) _ _).set_other (by omega) _ _).alloc _, .inr (.inr ⟨rfl, ?_⟩)⟩
        exact ((((HS.out.set 0 _ (by simp)).set 1 _ (by simp)).set 2 _ (by simp)).set 3 _ (by simp)).alloc _
      case measure => simp [intOf]
    · have HS := Lib.hid hS
      have s0 := hS.2.2 0 _ rfl
      have s1 := hS.2.2 1 _ rfl
      have s2 := hS.2.2 2 _ rfl
      have s3 := hS.2.2 3 _ rfl
      have x0 := hX.2.2 0 _ rfl
      have x1 := hX.2.2 1 _ rfl
      have x2 := hX.2.2 2 _ rfl
      have x3 := hX.2.2 3 _ rfl
      have f0 := hX.2.1 0
      have f1 := hX.2.1 1
      have f2 := hX.2.1 2
      have f3 := hX.2.1 3
      have hl := hX.1
      clear hX hon hbb hS
      go_wp2_with fail
      have hY := (((HX.out.set 0 (.int .i64 d) (by simp)).set 1 (.int .i64 p) (by simp)).set 2 (.int .i64 n) (by simp)).set 3 (.int .i64 g) (by simp)
      have r0 := hY.2.2 0 _ rfl
      have r1 := hY.2.2 1 _ rfl
      have r2 := hY.2.2 2 _ rfl
      have r3 := hY.2.2 3 _ rfl
      refine bodyPost_ret (v := .agg #[.int .i64 d, .int .i64 p, .int .i64 n, .int .i64 g]) (by simp [results, Tryd.results60, go_sem, r0, r1, r2, r3]) rfl ⟨by rw [HV.out]; rfl, ?_⟩
      exact (((HO.out.setCell (by simp) _).setCell (by simp) _).setCell (by simp) _).setCell (by simp) _
theorem ptogether_to {s x y : Sm} (hy : plusS s x = y) {b c : Nat} (w : World) (hB : Box w b [.int .i64 s.depth, .int .i64 s.pieces, .int .i64 s.nodes, .int .i64 s.heights, .int .i64 x.depth, .int .i64 x.pieces, .int .i64 x.nodes, .int .i64 x.heights])
    (h1 : 0 ≤ s.depth) (h2 : wr s.pieces = s.pieces) (h3 : 0 ≤ s.nodes ∧ s.nodes ≤ 1152921504606846976) (h4 : 0 ≤ s.heights ∧ s.heights ≤ 1099511627777) (k1 : 0 ≤ x.depth) (k3 : 0 ≤ x.nodes ∧ x.nodes ≤ 1152921504606846976) (k4 : 0 ≤ x.heights ∧ x.heights ≤ 1152921504606846976) :
    Calls Tryd.prog 60 #[.slice (some ⟨b, 0, none⟩) 2 c] w fun e w' => e = .returned (sumV y) ∧ Below w.heap.size w w' := by
  subst hy; exact ptogether_any s x b c w hB h1 h2 h3 h4 k1 k3 k4
end Go.Proofs.YtildplbdhnodjaaDoor
/- Part of a row of nodes. Nothing of the program stands here. -/
namespace Go.Proofs.YtildplbdhnodjaaDoor
open Go.RowKit
set_option linter.unusedVariables false
set_option linter.unusedSimpArgs false
theorem Sees.sub {w : World} {b off n : Nat} {l : List Nd} (h : Sees w (some ⟨b, off, none⟩) n l) {lo k : Nat} (hk : lo + k ≤ n) : Sees w (some ⟨b, off + lo * 20, none⟩) k ((l.drop lo).take k) := by
  obtain ⟨zs, h1, h2, h3⟩ := h
  have hz := h1.1
  have hb := h1.2.1
  refine ⟨(zs.drop lo).take k, ⟨by rw [List.length_take, List.length_drop]; omega, by omega, fun hk0 => ?_⟩, by rw [List.length_take, List.length_drop, List.length_take, List.length_drop, h2], fun i m x e1 e2 => ?_⟩
  · obtain ⟨b', off', e, hl, hc⟩ := h1.2.2 (by omega)
    injection e with e
    injection e with e3 e4
    subst e3 e4
    refine ⟨b, off + lo * 20, rfl, hl, fun i x hx j v hv => ?_⟩
    have hi : i < k := by
      have := (List.getElem?_eq_some_iff.1 hx).1
      rw [List.length_take] at this
      omega
    rw [List.getElem?_take_of_lt hi, List.getElem?_drop] at hx
    have := hc (lo + i) x hx j v hv
    rw [← this]
    congr 2
    omega
  · have hi : i < k := by
      have := (List.getElem?_eq_some_iff.1 e1).1
      rw [List.length_take] at this
      omega
    rw [List.getElem?_take_of_lt hi, List.getElem?_drop] at e1 e2
    exact h3 _ m x e1 e2
end Go.Proofs.YtildplbdhnodjaaDoor
