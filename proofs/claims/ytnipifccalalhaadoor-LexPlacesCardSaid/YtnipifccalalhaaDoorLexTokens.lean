import Derived.Test.YtnipifccalalhaaDoorLexIter
import Derived.Test.YtnipifccalalhaaDoorOver
/- The program's package lex: the iterator over the tokens of a script, which ranges over the pieces. -/
namespace Go.Proofs.YtnipifccalalhaaDoor
open Go.RowKit Go.Shelf
set_option linter.unusedVariables false
set_option linter.unusedSimpArgs false
attribute [local go_sem] Oper.semAt_some
theorem grown_of_below {W W' : World} (h : Below W.heap.size W W') : W.grownBy W' none := ⟨h.os, h.tape, h.output, h.size, fun k hk _ => h.block k hk⟩
theorem own_below {β : Type} {B : Nat} {I : β → World → Prop} (h : OwnFrom B I) {s : β} {W W' : World} (hs : I s W) (hb : Below W.heap.size W W') : I s W' := h s W W' none hs (grown_of_below hb) (fun r e => by cases e)
theorem keepFrom_below {B : Nat} {W W' : World} (h : Below W.heap.size W W') : KeepsFrom B W W' := ⟨h.size, fun k o _ hk _ => (h.block k (Array.getElem?_eq_some_iff.1 hk).1).trans hk⟩
theorem keepB_below {b : Nat} {W W' : World} (h : Below W.heap.size W W') : KeepB b W W' :=
  ⟨⟨h.size, fun k o hk _ => (h.block k (Array.getElem?_eq_some_iff.1 hk).1).trans hk⟩, fun o hk _ => (h.block b (Array.getElem?_eq_some_iff.1 hk).1).trans hk⟩
theorem KeepS.keepB {n₀ n₁ b : Nat} {W W' : World} {s : Value} {t : TypeId} (h : KeepS n₀ n₁ W W') (hn : n₁ ≤ b) (hb : W.heap[b]? = some (.cells #[s] t)) : KeepB b W W' :=
  ⟨⟨h.1.size, fun k o hk ho => h.2 k o hk (.inl (Obj.not_cells_of_walk ho))⟩, fun o hk _ => by rw [hb] at hk; cases hk; exact h.2 b _ hb (.inr ⟨hn, rfl⟩)⟩
theorem keepFrom_up {B B' : Nat} {W W' : World} (h : KeepsFrom B W W') (hB : B ≤ B') : KeepsFrom B' W W' := ⟨h.size, fun k o hk => h.same k o (by omega)⟩
theorem room_none {F : Fence} (hd : F.depth = none) (k : Nat) : F.room k := fun d h => by rw [hd] at h; cases h
theorem round_depth {m m' : Nat} {P : Program} {l : Nat} {f : FuncId} {tmps : Array Value} {assign body : Code} {w : World} {R : Ending → World → Prop}
    (h : RoundIn Fence.wide m P l f tmps assign body w R) : RoundIn Fence.wide m' P l f tmps assign body w R := ⟨h.1, fun c cs _ => h.2 c cs (room_none rfl _)⟩
theorem round_inRound {m : Nat} {P : Program} {l l' : Nat} {f : FuncId} {tmps : Array Value} {assign body : Code} {w : World} {R : Ending → World → Prop}
    (h : RoundIn Fence.wide m P l f tmps assign body w R) : RoundIn (Fence.wide.inRound l') m P l f tmps assign body w R := h
def encK (x : Tok × Bool) : Array Value := #[.agg #[.int .i64 x.1.kind, .int .i32 x.1.sign, .int .i64 x.1.n, .int .i64 x.1.at_], .bool x.2]
theorem toksP_snoc (s : ByteArray) (ps : List (Nat × Nat)) (p : Nat × Nat) : toksP s (ps ++ [p]) = toksP s ps ++ (pieceTok s p).toList := by
  unfold toksP
  rw [List.filterMap_append]
  rcases h : pieceTok s p with _ | x <;> simp [h]
theorem tokens_in (s : ByteArray) (w : World) : Calls Tryd.prog 18 #[.string s] w fun e w' => e = .returned (.func (.func 23) #[] #[.pointer (some ⟨w.heap.size, 0, none⟩)]) ∧ w' = w.alloc (.cells #[.string s] 9) := by
  go_enter Tryd.func18, Tryd.ntmps18
  go_wp2
  go_ret
  exact ⟨rfl, rfl⟩
theorem noth_to {t : ByteArray} {v : Bool} (hv : nothingB t = v) (w : World) (ht : t.size ≤ 100000) : Calls Tryd.prog 25 #[.string t] w fun e w' => e = .returned (.bool v) ∧ w = w' := by
  subst hv; exact noth_any t w ht
theorem token_to {t : ByteArray} {k : Nat} {a b c d : Int} {v : Bool} (hv : tokR t k = (⟨a, b, c, d⟩, v)) (w : World) (hT : Tabs w) (h1 : 0 < t.size) (hz : sizeB t 0 ≠ 0) (ht : t.size ≤ 100000) (hk : k ≤ 100000)
    (hd : digitC (runeB t 0 (sizeB t 0)) = true → ∀ i, i < t.size → digB t i = true) : Calls Tryd.prog 26 #[.int .i64 k, .string t] w fun e w' => e = .returned (.tuple #[.agg #[.int .i64 a, .int .i32 b, .int .i64 c, .int .i64 d], .bool v]) ∧ Below w.heap.size w w' := by
  have h := token_any t k w hT h1 hz ht hk hd
  rw [hv] at h
  exact h
set_option maxRecDepth 100000 in
set_option maxHeartbeats 4000000 in
theorem tokens1_in (n l b n₀ n₁ : Nat) (hn : 3 ≤ n) (s : ByteArray) (hs : s.size ≤ 100000) (hw : textB s = none) (J Jx : List (Tok × Bool) → World → Prop) (W : World) (hJ : OwnFrom W.heap.size J) (hJx : OwnFrom W.heap.size Jx)
    (hl : l < W.heap.size) (h01 : n₀ ≤ n₁) (h1b : n₁ ≤ b) (hT : Tabs W) (ht3 : decLays_ren.g 3 < n₀) (ht4 : decLays_ren.g 4 < n₀)
    (hY : ∀ pre x W1, J pre W1 → pre.length < s.size + 2 → YieldAt Fence.wide (n - 1) Tryd.prog l (encK x) W1 fun e W' =>
      (e = .returned (.bool true) ∧ J (pre ++ [x]) W' ∧ KeepS n₀ n₁ W1 W') ∨ (e = .returned (.bool false) ∧ Jx (pre ++ [x]) W' ∧ KeepsFrom (l + 1) W1 W'))
    (hb : W.heap[b]? = some (.cells #[.string s] 9)) (h0 : J [] W) :
    CallsIn Fence.wide n Tryd.prog 23 #[.func (.yield l) #[] #[], .pointer (some ⟨b, 0, none⟩)] W fun e W' => (∃ v, e = .returned v) ∧
      ((∃ xs : List (Tok × Bool), xs = toksP s (piecesB s) ∧ J xs W') ∨ (∃ pre : List (Tok × Bool), pre <+: toksP s (piecesB s) ∧ Jx pre W')) := by
  have h1 : 1 ≤ n := by omega
  have HY := Lib.hid hY
  clear hY
  have hbl : b < W.heap.size := (Array.getElem?_eq_some_iff.1 hb).1
  refine callsIn_of_wp_marks Tryd.func23 rfl trivial ?_ rfl
  simp only [Tryd.ntmps23, List.size_toArray, List.length_cons, List.length_nil, Nat.reduceAdd, Nat.reduceSub, Array.replicate_succ, Array.replicate_zero, List.push_toArray, List.append_toArray, List.nil_append, List.cons_append]
  have hc : W.cell? ⟨b, 0, none⟩ = some (.string s) := by simp [World.cell?, hb]
  gi_wp2_with (refine ⟨trivial, ?_⟩; gi_at_call 24; refine (callsIn_wide.2 (pieces_in _ _)).mono ?_; rintro e w' ⟨rfl, rfl⟩)
  skip
  obtain ⟨y, hy⟩ : ∃ y, W.heap.size = y := ⟨_, rfl⟩
  obtain ⟨W0, hW0⟩ : ∃ W0, (W.alloc (.cells #[.func (.yield l) #[] #[]] 45)).alloc (.cells #[.string s] 9) = W0 := ⟨_, rfl⟩
  have hs0 : W0.heap.size = y + 2 := by rw [← hW0]; simp; omega
  have hB0 : Below W.heap.size W W0 := by rw [← hW0]; exact ((Below.refl _ W).alloc (Nat.le_refl _) _).alloc (by simp) _
  have hP0 : W0.heap[y + 1]? = some (.cells #[.string s] 9) := by
    rw [← hW0, ← hy]; have := World.alloc_heap_new (W.alloc (.cells #[.func (.yield l) #[] #[]] 45)) (.cells #[.string s] 9); rwa [World.size_alloc] at this
  have hY0 : W0.heap[y]? = some (.cells #[.func (.yield l) #[] #[]] 45) := by
    rw [← hW0, ← hy]; exact (Below.heap_alloc _ _ _ (by simp)).trans (World.alloc_heap_new W _)
  rw [hW0, hy]
  clear hW0 hc
  refine wpIn_rangeFunc_ownG (F := Fence.wide) rfl h1 (gf := 29) (lb := #[.pointer (some ⟨y + 1, 0, none⟩)]) ?hg trivial (enters_of Tryd.func29 (by kernel_rfl) rfl)
    (pieces_stops (n - 1) (y + 1) s hs hw W0 hP0) (fun h k => KeepB.trans h k) (fun W l o o' h1 h2 h3 h4 => KeepB.putObj W l o o' h1 h2 h3 h4) (Below.refl _ _) ?hps
    (fun pre W' => J (toksP s (pre.map (·.1))) W' ∧ (W'.heap[y]? = some (.cells #[.func (.yield l) #[] #[]] 45) ∧ (W'.heap[y + 1]? = some (.cells #[.string s] 9) ∧ Below n₀ W W')))
    (fun c pre W' => c = .ret ∧ Jx (toksP s (pre.map (·.1))) W') ?hI ?hIx ?h0
    (fun x => { tmps := #[.func (.yield l) #[] #[], .pointer (some ⟨b, 0, none⟩), .pointer (some ⟨y, 0, none⟩), .int .i64 (x.1.1 : Int), .string (s.extract x.1.1 x.1.2), undef, undef, .string s, .func (.func 29) #[] #[.pointer (some ⟨y + 1, 0, none⟩)], .int .i64 (x.1.1 : Int), .string (s.extract x.1.1 x.1.2), undef, undef, undef, undef, undef, undef, undef, undef, undef, undef, undef, undef, undef], defers := [] }) ?assign ?body ?done ?stop
  case hg => rfl
  case hps => exact fun _ => rfl
  case hI =>
    refine OwnFrom.and (fun pre => ?_) (OwnFrom.and (ownFrom_block (by omega) _) (OwnFrom.and (ownFrom_block (by omega) _) (ownFrom_below (by omega) (by omega))))
    exact fun W1 W2 row h hg hr => (OwnFrom.up hJ (by omega)) _ W1 W2 row h hg hr
  case hIx =>
    intro c pre W1 W2 row h hg hr
    exact ⟨h.1, (OwnFrom.up hJx (by omega)) _ W1 W2 row h.2 hg hr⟩
  case h0 => exact ⟨own_below hJ h0 hB0, hY0, hP0, hB0.mono (by omega)⟩
  case assign =>
    intro l2 x W1 K hK
    simp only [encP]
    gi_wp2
    exact hK
  case body =>
    rintro l2 pre x W1 ⟨hj, hyb, hpb, hbl0⟩ hlen
    have hd : 1 ≤ n - 1 - 1 := by omega
    have hsn := toksP_snoc s (pre.map (·.1)) x.1
    obtain ⟨o1, o2, o3⟩ := x.2
    unfold pieceTok at hsn
    obtain ⟨t, ht⟩ : ∃ t, s.extract x.1.1 x.1.2 = t := ⟨_, rfl⟩
    obtain ⟨p, hp⟩ : ∃ p, x.1.1 = p := ⟨_, rfl⟩
    have hts : t.size ≤ 100000 := by rw [← ht, ByteArray.size_extract]; omega
    have hp1 : p ≤ 100000 := by omega
    rw [ht] at hsn o3 ⊢
    rw [hp] at hsn ⊢
    clear ht hp o1 o2
    rcases hnb : nothingB t with _ | _
    · rw [hnb] at hsn
      simp only [Bool.false_eq_true, if_false, Option.toList_some] at hsn
      obtain ⟨q1, q2, q3⟩ := o3 hnb
      have hT1 : Tabs W1 := hT.belowB hbl0 ht3 ht4
      rcases htr : tokR t p with ⟨⟨ka, kb, kc, kd⟩, kv⟩
      rw [htr] at hsn
      have HC := Lib.hid (token_to (w := W1) htr hT1 q1 q2 hts (by omega) q3)
      have HN := Lib.hid hnb
      have HS := Lib.hid hsn
      clear htr hnb hsn q3 q2 o3
      gi_wp2_with (first
        | (refine ⟨trivial, ?_⟩; gi_at_call 25; refine (CallsIn.inRound l2 (callsIn_wide.2 (noth_to HN.out _ hts))).mono ?_; rintro e w' ⟨rfl, rfl⟩)
        | (refine ⟨trivial, ?_⟩; gi_at_call 26; refine (CallsIn.inRound l2 (callsIn_wide.2 HC.out)).mono ?_; rintro e W2 ⟨rfl, hb2⟩
           have hyl : y < W1.heap.size := (Array.getElem?_eq_some_iff.1 hyb).1
           have hbA : Below W1.heap.size W1 (W2.alloc (.cells #[.int .i64 ka, .int .i32 kb, .int .i64 kc, .int .i64 kd] 32)) := hb2.alloc hb2.size _
           have hyA := (hbA.block y hyl).trans hyb
           have hcA : (W2.alloc (.cells #[.int .i64 ka, .int .i32 kb, .int .i64 kc, .int .i64 kd] 32)).cell? ⟨y, 0, none⟩ = some (.func (.yield l) #[] #[]) := by simp [World.cell?, hyA]
           have hjA := own_below hJ hj hbA
           have hlA : (toksP s (pre.map (·.1))).length < s.size + 2 := by
             have h5 := List.length_filterMap_le (pieceTok s) (pre.map (·.1))
             rw [List.length_map] at h5
             exact Nat.lt_of_le_of_lt h5 hlen
           obtain ⟨fn, tmps, assign, body, hyl2, hR⟩ := HY.out _ (⟨ka, kb, kc, kd⟩, kv) _ hjA hlA
           dsimp only [encK] at hyl2))
      refine (round_inRound (round_depth hR)).mono ?_
      have hyP := (hbA.block (y + 1) (Array.getElem?_eq_some_iff.1 hpb).1).trans hpb
      rintro e W4 (⟨rfl, hj4, hk4⟩ | ⟨rfl, hx4, hk4⟩)
      · gi_wp2
        exact ⟨(keepFrom_below hbA).trans hk4.from, (keepB_below hbA).trans (hk4.keepB (by omega) hyP), by rw [List.map_append, List.map_singleton, HS.out]; exact hj4,
          hk4.2 y _ hyA (.inr ⟨by omega, rfl⟩), hk4.2 (y + 1) _ hyP (.inr ⟨by omega, rfl⟩), (hbl0.trans (hbA.mono (by have := hbl0.size; omega))).trans hk4.1⟩
      · gi_wp2
        exact ⟨(keepFrom_below hbA).trans (keepFrom_up hk4 (by omega)), rfl, by rw [List.map_append, List.map_singleton, HS.out]; exact hx4⟩
    · rw [hnb] at hsn
      simp only [if_true, Option.toList_none, List.append_nil] at hsn
      gi_wp2_with (refine ⟨trivial, ?_⟩; gi_at_call 25; refine (CallsIn.inRound l2 (callsIn_wide.2 (noth_to hnb _ hts))).mono ?_; rintro e w' ⟨rfl, rfl⟩)
      exact ⟨KeepsFrom.refl _ _, keepB_below (Below.refl _ _), by rw [List.map_append, List.map_singleton, hsn]; exact hj, hyb, hpb, hbl0⟩
  case done =>
    rintro D ys W1 hD hS ⟨hj, _⟩ hK
    gi_wp2
    refine ⟨by simp, .inl ⟨_, _, rfl, run_takeDeferred hK, ?_⟩⟩
    refine ⟨_, results_none rfl _ _ _, ⟨_, rfl⟩, .inl ⟨_, rfl, ?_⟩⟩
    rw [← hS]
    exact OwnFrom.putObj hJ _ hj (by omega) hK rfl
  case stop =>
    rintro D c pre W1 hD hS ⟨rfl, hx⟩ hK
    gi_wp2
    refine ⟨by simp, .inl ⟨_, _, rfl, run_takeDeferred hK, ?_⟩⟩
    refine ⟨_, results_none rfl _ _ _, ⟨_, rfl⟩, .inr ⟨_, ?_, OwnFrom.putObj hJx _ hx (by omega) hK rfl⟩⟩
    obtain ⟨r, hr⟩ := hS
    exact ⟨toksP s r, by unfold toksP; rw [← List.filterMap_append, hr]⟩
end Go.Proofs.YtnipifccalalhaaDoor
