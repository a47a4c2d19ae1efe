import Derived.Test.YtamakeogaipdiaaJA29
import Derived.Test.YtamakeogaipdiaaJA12
import Derived.Test.YtamakeogaipdiaaJA23
import Derived.Test.YtamakeogaipdiaaJA01
/- The program's package kin: At. (Written by program: tools/drafts/genat16.py.) -/
namespace Go.Proofs.Ytamakeogaipdiaa
open Go.RowKit
set_option linter.unusedVariables false
set_option linter.unusedSimpArgs false
theorem only16_wp {c : Code} {P : Program} {Q : Exit → Act → World → Prop} {R : Act → World → Prop} {a : Act} {w : World} (h : c.wp P (Only16 R) a w) (hq : ∀ a w, R a w → Q .normal a w) : c.wp P Q a w := wp_mono h (only16_to hq)
theorem boxn_apart16 {w : World} {T : Nat} {t e : TypeId} {vs : List Value} {base size n : Nat} {v : Value} {xs : List Value} (h : BoxN w T t vs) (hne : t ≠ e) (ho : w.ownsRow base e size v n xs) : ∀ k, v.ownBlock = some k → k ≠ T := by
  intro k hk e'
  subst e'
  rcases ho.2 with ⟨q, _⟩ | ⟨g, cap, cur, q, _, q3, _⟩
  · rw [q] at hk; cases hk
  · rw [q] at hk
    injection hk with hk
    rw [show k = g from hk.symm] at h
    rw [show w.heap[g]? = _ from h] at q3
    injection q3 with q3
    injection q3 with _ q3 _
    exact hne q3
theorem owns_off16 {w : World} {base : Nat} {e : TypeId} {size : Nat} {v : Value} {n : Nat} {xs : List Value} (h : w.ownsRow base e size v n xs) {m : Nat} (hm : ∀ k, v.ownBlock = some k → k ≠ m) (j : Nat) (u : Value) : (w.setCell ⟨m, j, none⟩ u).ownsRow base e size v n xs := by
  refine ⟨h.1, ?_⟩
  rcases h.2 with h2 | ⟨g, cap, cur, h1, h2, h3, h4⟩
  · exact .inl h2
  · exact .inr ⟨g, cap, cur, h1, h2, (Below.heap_setCell _ _ _ _ (fun e => hm g (by rw [h1]; rfl) (by simpa using e))).trans h3, h4⟩
/-- At's answer, ahead of the turning round. -/
structure AtS (w1 V : World) (N : Nat) (mm : KnM) (x : Kn) : Prop where
  box : BoxN V N 28 (encKn mm)
  e : V.ownsRow w1.heap.size 3 1 (.slice mm.A1 mm.n1 mm.c1) mm.n1 (x.ends.map (Value.int .i64))
  b : V.ownsRow w1.heap.size 3 1 (.slice mm.A2 mm.n2 mm.c2) mm.n2 (x.begs.reverse.map (Value.int .i64))
  o : V.ownsRow w1.heap.size 3 1 (.slice mm.A3 mm.n3 mm.c3) mm.n3 (x.both.map (Value.int .i64))
  a12 : Apart mm.A1 mm.n1 mm.c1 mm.A2 mm.n2 mm.c2
  a23 : Apart mm.A2 mm.n2 mm.c2 mm.A3 mm.n3 mm.c3
  t : mm.text = x.text
  on : On w1 V
theorem AtS.store {w1 W : World} {N : Nat} {A1 A2 A3 : Option Addr} {n1 c1 n2 c2 n3 c3 : Nat} {tx : Int} {x : Kn} {z0 z1 z2 z3 : Value} (hN : BoxN W N 28 [z0, z1, z2, z3]) (h1 : w1.heap.size ≤ N)
    (he : W.ownsRow w1.heap.size 3 1 (.slice A1 n1 c1) n1 (x.ends.map (Value.int .i64))) (hb : W.ownsRow w1.heap.size 3 1 (.slice A2 n2 c2) n2 (x.begs.reverse.map (Value.int .i64)))
    (ho : W.ownsRow w1.heap.size 3 1 (.slice A3 n3 c3) n3 (x.both.map (Value.int .i64))) (a12 : Apart A1 n1 c1 A2 n2 c2) (a23 : Apart A2 n2 c2 A3 n3 c3) (t : tx = x.text) (hon : On w1 W) :
    AtS w1 ((((W.setCell ⟨N, 0, none⟩ (.slice A1 n1 c1)).setCell ⟨N, 1, none⟩ (.slice A2 n2 c2)).setCell ⟨N, 2, none⟩ (.slice A3 n3 c3)).setCell ⟨N, 3, none⟩ (.int .i64 tx)) N ⟨A1, n1, c1, A2, n2, c2, A3, n3, c3, tx⟩ x := by
  have ke := boxn_apart16 hN (by decide) he
  have kb := boxn_apart16 hN (by decide) hb
  have ko := boxn_apart16 hN (by decide) ho
  exact ⟨(((hN.set 0 _).set 1 _).set 2 _).set 3 _, owns_off16 (owns_off16 (owns_off16 (owns_off16 he ke 0 _) ke 1 _) ke 2 _) ke 3 _, owns_off16 (owns_off16 (owns_off16 (owns_off16 hb kb 0 _) kb 1 _) kb 2 _) kb 3 _,
    owns_off16 (owns_off16 (owns_off16 (owns_off16 ho ko 0 _) ko 1 _) ko 2 _) ko 3 _, a12, a23, t, On.set (On.set (On.set (On.set hon h1 _) h1 _) h1 _) h1 _⟩
theorem AtS.fresh {w1 W : World} {A1 A2 A3 : Option Addr} {n1 c1 n2 c2 n3 c3 : Nat} {tx : Int} {x : Kn}
    (he : W.ownsRow w1.heap.size 3 1 (.slice A1 n1 c1) n1 (x.ends.map (Value.int .i64))) (hb : W.ownsRow w1.heap.size 3 1 (.slice A2 n2 c2) n2 (x.begs.reverse.map (Value.int .i64)))
    (ho : W.ownsRow w1.heap.size 3 1 (.slice A3 n3 c3) n3 (x.both.map (Value.int .i64))) (a12 : Apart A1 n1 c1 A2 n2 c2) (a23 : Apart A2 n2 c2 A3 n3 c3) (t : tx = x.text) (hon : On w1 W) :
    AtS w1 (W.alloc (.cells #[.slice A1 n1 c1, .slice A2 n2 c2, .slice A3 n3 c3, .int .i64 tx] 28)) W.heap.size ⟨A1, n1, c1, A2, n2, c2, A3, n3, c3, tx⟩ x := by
  have ha : On W (W.alloc (.cells #[.slice A1 n1 c1, .slice A2 n2 c2, .slice A3 n3 c3, .int .i64 tx] 28)) := On.alloc (On.refl W) _
  exact ⟨BoxN.new W 28 [.slice A1 n1 c1, .slice A2 n2 c2, .slice A3 n3 c3, .int .i64 tx], owns_below he ha, owns_below hb ha, owns_below ho ha, a12, a23, t, hon.step ha⟩
/-- kin that are handed back, in rows of the call's own. -/
structure KnOwn (base : Nat) (w : World) (m : KnM) (x : Kn) : Prop where
  e : w.ownsRow base 3 1 (.slice m.A1 m.n1 m.c1) m.n1 (x.ends.map (Value.int .i64))
  b : w.ownsRow base 3 1 (.slice m.A2 m.n2 m.c2) m.n2 (x.begs.map (Value.int .i64))
  o : w.ownsRow base 3 1 (.slice m.A3 m.n3 m.c3) m.n3 (x.both.map (Value.int .i64))
  t : m.text = x.text
theorem KnOwn.see {base : Nat} {w : World} {m : KnM} {x : Kn} (h : KnOwn base w m x) : KnSee w m x := ⟨(ownsRow_cells h.e).ints, (ownsRow_cells h.b).ints, (ownsRow_cells h.o).ints, h.t⟩
theorem KnOwn.below {base : Nat} {w w' : World} {m : KnM} {x : Kn} (h : KnOwn base w m x) (hb : Below w.heap.size w w') : KnOwn base w' m x := ⟨owns_below h.e hb, owns_below h.b hb, owns_below h.o hb, h.t⟩
theorem KnOwn.base {base b2 : Nat} {w : World} {m : KnM} {x : Kn} (h : KnOwn base w m x) (hb : b2 ≤ base) : KnOwn b2 w m x := ⟨owns_base16 h.e hb, owns_base16 h.b hb, owns_base16 h.o hb, h.t⟩
theorem KnOwn.grown {base base' : Nat} {w w' : World} {m : KnM} {x : Kn} {e' : TypeId} {size' n' : Nat} {v' : Value} {xs' : List Value} (h : KnOwn base w m x) (h' : w.ownsRow base' e' size' v' n' xs') (hne : 3 ≠ e') (hg : w.grownBy w' v'.ownBlock) : KnOwn base w' m x :=
  ⟨owns_grown h.e h' hne hg, owns_grown h.b h' hne hg, owns_grown h.o h' hne hg, h.t⟩
theorem boxn_step16 {W W' : World} {N : Nat} {t : TypeId} {vs : List Value} (h : BoxN W N t vs) (hb : Below W.heap.size W W') : BoxN W' N t vs := h.below hb h.lt
theorem kinK_lens (L : List Nd) (of : List Int) (k : Int) : (kinK L of k).ends.length ≤ L.length ∧ (kinK L of k).begs.length ≤ L.length ∧ (kinK L of k).both.length ≤ L.length := by
  unfold kinK
  simp only [List.length_reverse]
  exact ⟨intsK_len _ _, intsK_len _ _, intsK_len _ _⟩
set_option maxHeartbeats 8000000 in
set_option maxRecDepth 100000 in
theorem kAtOwn_to {L : List Nd} {of : List Int} (hk : kinB L of = true) {k0 : Nat} {A B : Option Addr} {n c m d : Nat} {w : World} (hP : PreV L w A n) (hI : Ints w B m of) (hm : m ≤ 1000000) (hkm : k0 ≤ m) :
    Calls Try.prog 9 #[.slice A n c, .slice B m d, .int .i64 (k0 : Int)] w fun e w' => ∃ mm, e = .returned (.tuple #[.agg (encKn mm).toArray, .int .i64 0]) ∧ KnOwn w.heap.size w' mm (kinK L of (k0 : Int)) ∧ Below w.heap.size w w' := by
  have HP := Lib.hid hP
  have HI := Lib.hid hI
  have HK := Lib.hid (kin_ok hk)
  have hk1 : (k0 : Int) ≤ (m : Int) := by omega
  obtain ⟨HLE, HLB, HLO⟩ := kinK_lens L of (k0 : Int)
  have hln := hP.1.len
  have hn := hP.2
  have HLB := Lib.hid (show (kinK L of (k0 : Int)).begs.length ≤ 100000 by omega)
  clear hP hI HLE HLO
  go_enter Try.func9, Try.ntmps9
  go_wp2_with fail
  generalize hW : World.alloc (World.alloc (World.alloc w _) _) _ = W
  have HO := Lib.hid (show On w W by rw [← hW]; exact ((On.alloc (On.refl w) _).alloc _).alloc _)
  have HB0 := Lib.hid (show Box W w.heap.size [.int .i64 (k0 : Int)] by rw [← hW]; exact ((box_new16 _ [.int .i64 (k0 : Int)] _ _ rfl _ rfl).alloc _).alloc _)
  have HB1 := Lib.hid (show Box W (w.heap.size + 1) [.slice none 0 0, .slice none 0 0, .slice none 0 0, .int .i64 0] by rw [← hW]; exact (box_new16 _ _ _ _ (by simp) _ rfl).alloc _)
  have HB2 := Lib.hid (show Box W (w.heap.size + 1 + 1) [.slice A n c, .slice B m d] by rw [← hW]; exact box_new16 _ _ _ _ (by simp) _ rfl)
  clear hW
  refine (kmay_to (c := c) (d := d) hk (HP.out.below HO.out) (HI.out.below HO.out rfl) hm).mono ?_
  rintro e w1 ⟨rfl, hb⟩
  have HO1 := Lib.hid (show On w w1 from below_then HO.out hb)
  have HX1 := Lib.hid (HB1.out.below hb)
  have HCL := Lib.hid (show Clo16 w1 A n c B m d (k0 : Int) (w.heap.size + 1 + 1) w.heap.size from ⟨HB2.out.below hb, HB0.out.below hb⟩)
  clear HB0 HB1 HB2 HO hb
  obtain ⟨q0, _, _⟩ := HCL.out.2.of1
  obtain ⟨q1, q2, _, _, _⟩ := HCL.out.1.of2
  have hw1s : w.heap.size + 2 ≤ w1.heap.size := by have := HCL.out.1.lt; omega
  have d0 : decide ((k0 : Int) < 0) = false := decide_eq_false (by omega)
  have d1 : decide ((m : Int) < (k0 : Int)) = false := decide_eq_false (by omega)
  have d1' : decide (m < k0) = false := decide_eq_false (by omega)
  have hk0 : (0 : Int) ≤ (k0 : Int) := by omega
  have hwk : IntKind.i64.wrap ((k0 : Int) - 1) = (k0 : Int) - 1 := IntWalk.i64_in _ (by omega)
  go_wp2_with fail
  have q0 := On.cell q0
  have q1 := On.cell q1
  have q2 := On.cell q2
  refine only16_wp (R := fun a' V => ∃ (N rA rC : Nat) (A1 A2 A3 : Option Addr) (n1 c1 n2 c2 n3 c3 : Nat) (tx : Int), a' = { tmps := #[.slice A n c, .slice B m d, .int .i64 (k0 : Int), undef, undef, .pointer (some ⟨w.heap.size, 0, none⟩), .pointer (some ⟨w.heap.size + 1, 0, none⟩), .int .i64 0, .pointer (some ⟨w.heap.size + 1 + 1, 0, none⟩), .func (.func 24) #[] #[.pointer (some ⟨w.heap.size + 1 + 1, 0, none⟩), .pointer (some ⟨w.heap.size, 0, none⟩)], .func (.func 26) #[] #[.pointer (some ⟨w.heap.size + 1 + 1, 0, none⟩), .pointer (some ⟨w.heap.size, 0, none⟩)], .pointer (some ⟨N, 0, none⟩), .slice A n c, .slice B m d, .agg #[.slice A n c, .slice B m d], .agg #[.slice A n c, .slice B m d], .bool true, .bool false, .bool false, .int .i64 (k0 : Int), .bool false, .bool false, .bool false, .int .i64 (k0 : Int), .slice B m d, .int .i64 (m : Int), .bool false, .bool false, undef, .func (.func 24) #[] #[.pointer (some ⟨w.heap.size + 1 + 1, 0, none⟩), .pointer (some ⟨w.heap.size, 0, none⟩)], .func (.func 26) #[] #[.pointer (some ⟨w.heap.size + 1 + 1, 0, none⟩), .pointer (some ⟨w.heap.size, 0, none⟩)], .agg #[.slice A n c, .slice B m d], .int .i64 (k0 : Int), .int .i64 ((k0 : Int) - 1), .func (.func 26) #[] #[.pointer (some ⟨w.heap.size + 1 + 1, 0, none⟩), .pointer (some ⟨w.heap.size, 0, none⟩)], .func (.func 46) #[] #[.pointer (some ⟨rA, 0, none⟩)], .slice A1 n1 c1, .agg #[.slice A n c, .slice B m d], .int .i64 (k0 : Int), .func (.func 24) #[] #[.pointer (some ⟨w.heap.size + 1 + 1, 0, none⟩), .pointer (some ⟨w.heap.size, 0, none⟩)], .func (.func 46) #[] #[.pointer (some ⟨rC, 0, none⟩)], .slice A2 n2 c2, .agg #[.slice A n c, .slice B m d], .int .i64 (k0 : Int), .int .i64 ((k0 : Int) - 1), .func (.func 26) #[] #[.pointer (some ⟨w.heap.size + 1 + 1, 0, none⟩), .pointer (some ⟨w.heap.size, 0, none⟩)], .slice A3 n3 c3, .agg #[.slice A n c, .slice B m d], .int .i64 (k0 : Int), .int .i64 tx, .agg #[.slice A1 n1 c1, .slice A2 n2 c2, .slice A3 n3 c3, .int .i64 tx], undef, undef, undef, undef], defers := [] } ∧ AtS w1 V N ⟨A1, n1, c1, A2, n2, c2, A3, n3, c3, tx⟩ (kinK L of (k0 : Int))) ?_ ?_
  · refine wp_region_held_tail 21 (S := fun W' => On w1 W') (by kernel_rfl) (by kernel_rfl) rfl (On.refl _).drew (fun h0 => ?_)
    simp only [headOf, List.take_succ_cons, List.take_zero, List.getElem_toArray, List.getElem_cons_succ, List.getElem_cons_zero]
    refine wpAnyH_take (i := 0) (v := ?_) rfl (by kernel_rfl) (by kernel_rfl) (by kernel_rfl) (fun _ _ _ h => h) (Or.inl ⟨by rfl, ?_⟩) h0 ?_
    rotate_left
    · intro w hSw; (try dsimp only at hSw); go_simp; with_reducible rfl
    try simp only [Act.put, List.setIfInBounds_toArray, List.set_cons_zero, List.set_cons_succ, List.getElem_toArray, List.getElem_cons_succ, List.getElem_cons_zero]
    refine wpAnyH_take (i := 1) (v := ?_) rfl (by kernel_rfl) (by kernel_rfl) (by kernel_rfl) (fun _ _ _ h => h) (Or.inl ⟨by rfl, ?_⟩) h0 ?_
    rotate_left
    · intro w hSw; (try dsimp only at hSw); go_simp; with_reducible rfl
    try simp only [Act.put, List.setIfInBounds_toArray, List.set_cons_zero, List.set_cons_succ, List.getElem_toArray, List.getElem_cons_succ, List.getElem_cons_zero]
    refine wpAnyH_take (i := 2) (v := ?_) rfl (by kernel_rfl) (by kernel_rfl) (by kernel_rfl) (fun _ _ _ h => h) (Or.inl ⟨by rfl, ?_⟩) h0 ?_
    rotate_left
    · intro w hSw; (try dsimp only at hSw); go_simp; with_reducible rfl
    try simp only [Act.put, List.setIfInBounds_toArray, List.set_cons_zero, List.set_cons_succ, List.getElem_toArray, List.getElem_cons_succ, List.getElem_cons_zero]
    refine wpAnyH_take (i := 3) (v := ?_) rfl (by kernel_rfl) (by kernel_rfl) (by kernel_rfl) (fun _ _ _ h => h) (Or.inl ⟨by rfl, ?_⟩) h0 ?_
    rotate_left
    · intro w hSw; (try dsimp only at hSw); go_simp; with_reducible rfl
    try simp only [Act.put, List.setIfInBounds_toArray, List.set_cons_zero, List.set_cons_succ, List.getElem_toArray, List.getElem_cons_succ, List.getElem_cons_zero]
    refine wpAnyH_take (i := 6) (v := ?_) rfl (by kernel_rfl) (by kernel_rfl) (by kernel_rfl) (fun _ _ _ h => h) (Or.inl ⟨by rfl, ?_⟩) h0 ?_
    rotate_left
    · intro w hSw; (try dsimp only at hSw); go_simp; with_reducible rfl
    try simp only [Act.put, List.setIfInBounds_toArray, List.set_cons_zero, List.set_cons_succ, List.getElem_toArray, List.getElem_cons_succ, List.getElem_cons_zero]
    refine wpAnyH_take (i := 7) (v := ?_) rfl (by kernel_rfl) (by kernel_rfl) (by kernel_rfl) (fun _ _ _ h => h) (Or.inl ⟨by rfl, ?_⟩) h0 ?_
    rotate_left
    · intro w hSw; (try dsimp only at hSw); go_simp; with_reducible rfl
    try simp only [Act.put, List.setIfInBounds_toArray, List.set_cons_zero, List.set_cons_succ, List.getElem_toArray, List.getElem_cons_succ, List.getElem_cons_zero]
    refine wpAnyH_take (i := 8) (v := ?_) rfl (by kernel_rfl) (by kernel_rfl) (by kernel_rfl) (fun _ _ _ h => h) (Or.inl ⟨by rfl, ?_⟩) h0 ?_
    rotate_left
    · intro w hSw; (try dsimp only at hSw); go_simp; with_reducible rfl
    try simp only [Act.put, List.setIfInBounds_toArray, List.set_cons_zero, List.set_cons_succ, List.getElem_toArray, List.getElem_cons_succ, List.getElem_cons_zero]
    refine wpAnyH_take (i := 11) (v := ?_) rfl (by kernel_rfl) (by kernel_rfl) (by kernel_rfl) (fun _ _ _ h => h) (Or.inl ⟨by rfl, ?_⟩) h0 ?_
    rotate_left
    · intro w hSw; (try dsimp only at hSw); go_simp; with_reducible rfl
    try simp only [Act.put, List.setIfInBounds_toArray, List.set_cons_zero, List.set_cons_succ, List.getElem_toArray, List.getElem_cons_succ, List.getElem_cons_zero]
    refine wpAnyH_take (i := 12) (v := ?_) rfl (by kernel_rfl) (by kernel_rfl) (by kernel_rfl) (fun _ _ _ h => h) (Or.inl ⟨by rfl, ?_⟩) h0 ?_
    rotate_left
    · intro w hSw; (try dsimp only at hSw); go_simp; with_reducible rfl
    try simp only [Act.put, List.setIfInBounds_toArray, List.set_cons_zero, List.set_cons_succ, List.getElem_toArray, List.getElem_cons_succ, List.getElem_cons_zero]
    refine wpAnyH_take (i := 13) (v := ?_) rfl (by kernel_rfl) (by kernel_rfl) (by kernel_rfl) (fun _ _ _ h => h) (Or.inl ⟨by rfl, ?_⟩) h0 ?_
    rotate_left
    · intro w hSw; (try dsimp only at hSw); go_simp; with_reducible rfl
    try simp only [Act.put, List.setIfInBounds_toArray, List.set_cons_zero, List.set_cons_succ, List.getElem_toArray, List.getElem_cons_succ, List.getElem_cons_zero]
    refine wpAnyH_take (i := 14) (v := ?_) rfl (by kernel_rfl) (by kernel_rfl) (by kernel_rfl) (fun _ _ _ h => h) (Or.inl ⟨by rfl, ?_⟩) h0 ?_
    rotate_left
    · intro w hSw; (try dsimp only at hSw); go_simp; with_reducible rfl
    try simp only [Act.put, List.setIfInBounds_toArray, List.set_cons_zero, List.set_cons_succ, List.getElem_toArray, List.getElem_cons_succ, List.getElem_cons_zero]
    refine wpAnyH_take (i := 16) (v := ?_) rfl (by kernel_rfl) (by kernel_rfl) (by kernel_rfl) (fun _ _ _ h => h) (Or.inl ⟨by rfl, ?_⟩) h0 ?_
    rotate_left
    · intro w hSw; (try dsimp only at hSw); go_simp; with_reducible rfl
    try simp only [Act.put, List.setIfInBounds_toArray, List.set_cons_zero, List.set_cons_succ, List.getElem_toArray, List.getElem_cons_succ, List.getElem_cons_zero]
    refine wpAnyH_take (i := 17) (v := ?_) rfl (by kernel_rfl) (by kernel_rfl) (by kernel_rfl) (fun _ _ _ h => h) (Or.inl ⟨by rfl, ?_⟩) h0 ?_
    rotate_left
    · intro w hSw; (try dsimp only at hSw); go_simp; with_reducible rfl
    try simp only [Act.put, List.setIfInBounds_toArray, List.set_cons_zero, List.set_cons_succ, List.getElem_toArray, List.getElem_cons_succ, List.getElem_cons_zero]
    refine wpAnyH_ready (rs := [4, 20]) (by kernel_rfl) (by simp) ?_
    refine AllReadyH.cons rfl (fun K hK => ?_) (AllReadyH.cons rfl (fun K hK => ?_) AllReadyH.nil)
    · go_simp
      have hSZ := h0.size
      refine (knotbox_to (.func (.func 26) #[] #[.pointer (some ⟨w.heap.size + 1 + 1, 0, none⟩), .pointer (some ⟨w.heap.size, 0, none⟩)]) rfl _).mono ?_
      rintro e wA ⟨rA, rfl, hrA, hb⟩
      refine hK.out _ _ (On.step h0 hb) (fun h1 => ?_)
      clear hK K hb hSZ
      try simp only [Act.put, List.setIfInBounds_toArray, List.set_cons_zero, List.set_cons_succ, List.getElem_toArray, List.getElem_cons_succ, List.getElem_cons_zero]
      refine wpAnyH_ready (rs := [5, 20]) (by kernel_rfl) (by simp) ?_
      refine AllReadyH.cons rfl (fun K hK => ?_) (AllReadyH.cons rfl (fun K hK => ?_) AllReadyH.nil)
      · go_simp
        have hSZ := h1.size
        refine (kends_to HK.out hkm (HP.out.below (HO1.out.step h1)) (HI.out.below (HO1.out.step h1) rfl) hm (HCL.out.on h1) hrA).mono ?_
        rintro e wB ⟨A1, n1, c1, rfl, hE, hb⟩
        have hrA := hrA.below hb
        have hE := owns_base16 hE (b2 := w1.heap.size) hSZ
        refine hK.out _ _ (On.step h1 hb) (fun h2 => ?_)
        clear hK K hb hSZ
        try simp only [Act.put, List.setIfInBounds_toArray, List.set_cons_zero, List.set_cons_succ, List.getElem_toArray, List.getElem_cons_succ, List.getElem_cons_zero]
        refine wpAnyH_ready (rs := [9, 20]) (by kernel_rfl) (by simp) ?_
        refine AllReadyH.cons rfl (fun K hK => ?_) (AllReadyH.cons rfl (fun K hK => ?_) AllReadyH.nil)
        · go_simp
          have hSZ := h2.size
          refine (knotbox_to (.func (.func 24) #[] #[.pointer (some ⟨w.heap.size + 1 + 1, 0, none⟩), .pointer (some ⟨w.heap.size, 0, none⟩)]) rfl _).mono ?_
          rintro e wC ⟨rC, rfl, hrC, hb⟩
          have hE := owns_below hE hb
          refine hK.out _ _ (On.step h2 hb) (fun h3 => ?_)
          clear hK K hb hSZ
          try simp only [Act.put, List.setIfInBounds_toArray, List.set_cons_zero, List.set_cons_succ, List.getElem_toArray, List.getElem_cons_succ, List.getElem_cons_zero]
          refine wpAnyH_ready (rs := [10, 20]) (by kernel_rfl) (by simp) ?_
          refine AllReadyH.cons rfl (fun K hK => ?_) (AllReadyH.cons rfl (fun K hK => ?_) AllReadyH.nil)
          · go_simp
            have hSZ := h3.size
            have hE0 := hE
            refine (kbegs_to HK.out hkm (HP.out.below (HO1.out.step h3)) (HI.out.below (HO1.out.step h3) rfl) hm (HCL.out.on h3) hrC).mono ?_
            rintro e wD ⟨A2, n2, c2, rfl, hG, hb⟩
            have hE := owns_below hE hb
            have hrC := hrC.below hb
            have a12 := apart_new hE0 hG
            have hG := owns_base16 hG (b2 := w1.heap.size) hSZ
            refine hK.out _ _ (On.step h3 hb) (fun h4 => ?_)
            clear hK K hb hSZ hE0
            try simp only [Act.put, List.setIfInBounds_toArray, List.set_cons_zero, List.set_cons_succ, List.getElem_toArray, List.getElem_cons_succ, List.getElem_cons_zero]
            refine wpAnyH_ready (rs := [15, 20]) (by kernel_rfl) (by simp) ?_
            refine AllReadyH.cons rfl (fun K hK => ?_) (AllReadyH.cons rfl (fun K hK => ?_) AllReadyH.nil)
            · go_simp
              have hSZ := h4.size
              have hG0 := hG
              refine (kboth_to HK.out hkm (HP.out.below (HO1.out.step h4)) (HI.out.below (HO1.out.step h4) rfl) hm (HCL.out.on h4)).mono ?_
              rintro e wE ⟨A3, n3, c3, rfl, hH, hb⟩
              have hE := owns_below hE hb
              have hG := owns_below hG hb
              have a23 := apart_new hG0 hH
              have hH := owns_base16 hH (b2 := w1.heap.size) hSZ
              refine hK.out _ _ (On.step h4 hb) (fun h5 => ?_)
              clear hK K hb hSZ hG0
              try simp only [Act.put, List.setIfInBounds_toArray, List.set_cons_zero, List.set_cons_succ, List.getElem_toArray, List.getElem_cons_succ, List.getElem_cons_zero]
              refine wpAnyH_ready (rs := [18, 20]) (by kernel_rfl) (by simp) ?_
              refine AllReadyH.cons rfl (fun K hK => ?_) (AllReadyH.cons rfl (fun K hK => ?_) AllReadyH.nil)
              · go_simp
                have hSZ := h5.size
                refine (ktext_to (n := n) (c := c) (d := d) (A := A) rfl hkm (HI.out.below (HO1.out.step h5) rfl) (by omega)).mono ?_
                rintro e wF ⟨rfl, hb⟩
                have hE := owns_below hE hb
                have hG := owns_below hG hb
                have hH := owns_below hH hb
                refine hK.out _ _ (On.step h5 hb) (fun h6 => ?_)
                clear hK K hb hSZ
                try simp only [Act.put, List.setIfInBounds_toArray, List.set_cons_zero, List.set_cons_succ, List.getElem_toArray, List.getElem_cons_succ, List.getElem_cons_zero]
                refine wpAnyH_take (i := 19) (v := ?_) rfl (by kernel_rfl) (by kernel_rfl) (by kernel_rfl) (fun _ _ _ h => h) (Or.inl ⟨by rfl, ?_⟩) h6 ?_
                rotate_left
                · intro w hSw; (try dsimp only at hSw); go_simp; with_reducible rfl
                try simp only [Act.put, List.setIfInBounds_toArray, List.set_cons_zero, List.set_cons_succ, List.getElem_toArray, List.getElem_cons_succ, List.getElem_cons_zero]
                refine wpAnyH_ready (rs := [20]) (by kernel_rfl) (by simp) ?_
                refine AllReadyH.cons rfl (fun K hK => ?_) AllReadyH.nil
                go_simp
                refine hK.out _ _ (On.alloc h6 _) (fun g6 => ?_)
                clear hK K
                try simp only [Act.put, List.setIfInBounds_toArray, List.set_cons_zero, List.set_cons_succ, List.getElem_toArray, List.getElem_cons_succ, List.getElem_cons_zero]
                refine wpAnyH_done (by kernel_rfl) ?_ _
                show wpList _ _ _ _ _ _
                clear q0 q1 q2
                go_wp2_with fail
                exact ⟨_, rA, rC, A1, A2, A3, n1, c1, n2, c2, n3, c3, _, rfl, AtS.fresh hE hG hH a12 a23 rfl h6⟩
              · go_simp
                have hb : Below (wE).heap.size (wE) ((wE).alloc (.cells #[.slice none 0 0, .slice none 0 0, .slice none 0 0, .int .i64 0] 28)) := On.alloc (On.refl (wE)) (.cells #[.slice none 0 0, .slice none 0 0, .slice none 0 0, .int .i64 0] 28)
                have hE := owns_below hE hb
                have hG := owns_below hG hb
                have hH := owns_below hH hb
                have hNS : w1.heap.size ≤ (wE).heap.size := h5.size
                have hN : BoxN ((wE).alloc (.cells #[.slice none 0 0, .slice none 0 0, .slice none 0 0, .int .i64 0] 28)) (wE).heap.size 28 [.slice none 0 0, .slice none 0 0, .slice none 0 0, .int .i64 0] := BoxN.new _ _ _
                refine hK.out _ _ (On.step h5 hb) (fun g5 => ?_)
                clear hK K hb
                try simp only [Act.put, List.setIfInBounds_toArray, List.set_cons_zero, List.set_cons_succ, List.getElem_toArray, List.getElem_cons_succ, List.getElem_cons_zero]
                refine wpAnyH_ready (rs := [18]) (by kernel_rfl) (by simp) ?_
                refine AllReadyH.cons rfl (fun K hK => ?_) AllReadyH.nil
                go_simp
                have hSZ := g5.size
                refine (ktext_to (n := n) (c := c) (d := d) (A := A) rfl hkm (HI.out.below (HO1.out.step g5) rfl) (by omega)).mono ?_
                rintro e wF ⟨rfl, hb⟩
                have hE := owns_below hE hb
                have hG := owns_below hG hb
                have hH := owns_below hH hb
                have hN := boxn_step16 hN hb
                refine hK.out _ _ (On.step g5 hb) (fun h6 => ?_)
                clear hK K hb hSZ
                try simp only [Act.put, List.setIfInBounds_toArray, List.set_cons_zero, List.set_cons_succ, List.getElem_toArray, List.getElem_cons_succ, List.getElem_cons_zero]
                refine wpAnyH_take (i := 19) (v := ?_) rfl (by kernel_rfl) (by kernel_rfl) (by kernel_rfl) (fun _ _ _ h => h) (Or.inl ⟨by rfl, ?_⟩) h6 ?_
                rotate_left
                · intro w hSw; (try dsimp only at hSw); go_simp; with_reducible rfl
                try simp only [Act.put, List.setIfInBounds_toArray, List.set_cons_zero, List.set_cons_succ, List.getElem_toArray, List.getElem_cons_succ, List.getElem_cons_zero]
                refine wpAnyH_done (by kernel_rfl) ?_ _
                show wpList _ _ _ _ _ _
                have t0 := hN.cell (j := 0) rfl
                have t1 := hN.cell (j := 1) rfl
                have t2 := hN.cell (j := 2) rfl
                have t3 := hN.cell (j := 3) rfl
                have t4 := hN.frozen
                clear q0 q1 q2
                go_wp2_with fail
                exact ⟨_, rA, rC, A1, A2, A3, n1, c1, n2, c2, n3, c3, _, rfl, AtS.store hN hNS hE hG hH a12 a23 rfl h6⟩
            · go_simp
              have hb : Below (wD).heap.size (wD) ((wD).alloc (.cells #[.slice none 0 0, .slice none 0 0, .slice none 0 0, .int .i64 0] 28)) := On.alloc (On.refl (wD)) (.cells #[.slice none 0 0, .slice none 0 0, .slice none 0 0, .int .i64 0] 28)
              have hE := owns_below hE hb
              have hG := owns_below hG hb
              have hNS : w1.heap.size ≤ (wD).heap.size := h4.size
              have hN : BoxN ((wD).alloc (.cells #[.slice none 0 0, .slice none 0 0, .slice none 0 0, .int .i64 0] 28)) (wD).heap.size 28 [.slice none 0 0, .slice none 0 0, .slice none 0 0, .int .i64 0] := BoxN.new _ _ _
              refine hK.out _ _ (On.step h4 hb) (fun g4 => ?_)
              clear hK K hb
              try simp only [Act.put, List.setIfInBounds_toArray, List.set_cons_zero, List.set_cons_succ, List.getElem_toArray, List.getElem_cons_succ, List.getElem_cons_zero]
              refine wpAnyH_ready (rs := [15]) (by kernel_rfl) (by simp) ?_
              refine AllReadyH.cons rfl (fun K hK => ?_) AllReadyH.nil
              go_simp
              have hSZ := g4.size
              have hG0 := hG
              refine (kboth_to HK.out hkm (HP.out.below (HO1.out.step g4)) (HI.out.below (HO1.out.step g4) rfl) hm (HCL.out.on g4)).mono ?_
              rintro e wE ⟨A3, n3, c3, rfl, hH, hb⟩
              have hE := owns_below hE hb
              have hG := owns_below hG hb
              have hN := boxn_step16 hN hb
              have a23 := apart_new hG0 hH
              have hH := owns_base16 hH (b2 := w1.heap.size) hSZ
              refine hK.out _ _ (On.step g4 hb) (fun h5 => ?_)
              clear hK K hb hSZ hG0
              try simp only [Act.put, List.setIfInBounds_toArray, List.set_cons_zero, List.set_cons_succ, List.getElem_toArray, List.getElem_cons_succ, List.getElem_cons_zero]
              refine wpAnyH_ready (rs := [18]) (by kernel_rfl) (by simp) ?_
              refine AllReadyH.cons rfl (fun K hK => ?_) AllReadyH.nil
              go_simp
              have hSZ := h5.size
              refine (ktext_to (n := n) (c := c) (d := d) (A := A) rfl hkm (HI.out.below (HO1.out.step h5) rfl) (by omega)).mono ?_
              rintro e wF ⟨rfl, hb⟩
              have hE := owns_below hE hb
              have hG := owns_below hG hb
              have hH := owns_below hH hb
              have hN := boxn_step16 hN hb
              refine hK.out _ _ (On.step h5 hb) (fun h6 => ?_)
              clear hK K hb hSZ
              try simp only [Act.put, List.setIfInBounds_toArray, List.set_cons_zero, List.set_cons_succ, List.getElem_toArray, List.getElem_cons_succ, List.getElem_cons_zero]
              refine wpAnyH_take (i := 19) (v := ?_) rfl (by kernel_rfl) (by kernel_rfl) (by kernel_rfl) (fun _ _ _ h => h) (Or.inl ⟨by rfl, ?_⟩) h6 ?_
              rotate_left
              · intro w hSw; (try dsimp only at hSw); go_simp; with_reducible rfl
              try simp only [Act.put, List.setIfInBounds_toArray, List.set_cons_zero, List.set_cons_succ, List.getElem_toArray, List.getElem_cons_succ, List.getElem_cons_zero]
              refine wpAnyH_done (by kernel_rfl) ?_ _
              show wpList _ _ _ _ _ _
              have t0 := hN.cell (j := 0) rfl
              have t1 := hN.cell (j := 1) rfl
              have t2 := hN.cell (j := 2) rfl
              have t3 := hN.cell (j := 3) rfl
              have t4 := hN.frozen
              clear q0 q1 q2
              go_wp2_with fail
              exact ⟨_, rA, rC, A1, A2, A3, n1, c1, n2, c2, n3, c3, _, rfl, AtS.store hN hNS hE hG hH a12 a23 rfl h6⟩
          · go_simp
            have hb : Below (wC).heap.size (wC) ((wC).alloc (.cells #[.slice none 0 0, .slice none 0 0, .slice none 0 0, .int .i64 0] 28)) := On.alloc (On.refl (wC)) (.cells #[.slice none 0 0, .slice none 0 0, .slice none 0 0, .int .i64 0] 28)
            have hE := owns_below hE hb
            have hrC := hrC.below hb
            have hNS : w1.heap.size ≤ (wC).heap.size := h3.size
            have hN : BoxN ((wC).alloc (.cells #[.slice none 0 0, .slice none 0 0, .slice none 0 0, .int .i64 0] 28)) (wC).heap.size 28 [.slice none 0 0, .slice none 0 0, .slice none 0 0, .int .i64 0] := BoxN.new _ _ _
            refine hK.out _ _ (On.step h3 hb) (fun g3 => ?_)
            clear hK K hb
            try simp only [Act.put, List.setIfInBounds_toArray, List.set_cons_zero, List.set_cons_succ, List.getElem_toArray, List.getElem_cons_succ, List.getElem_cons_zero]
            refine wpAnyH_ready (rs := [10]) (by kernel_rfl) (by simp) ?_
            refine AllReadyH.cons rfl (fun K hK => ?_) AllReadyH.nil
            go_simp
            have hSZ := g3.size
            have hE0 := hE
            refine (kbegs_to HK.out hkm (HP.out.below (HO1.out.step g3)) (HI.out.below (HO1.out.step g3) rfl) hm (HCL.out.on g3) hrC).mono ?_
            rintro e wD ⟨A2, n2, c2, rfl, hG, hb⟩
            have hE := owns_below hE hb
            have hrC := hrC.below hb
            have hN := boxn_step16 hN hb
            have a12 := apart_new hE0 hG
            have hG := owns_base16 hG (b2 := w1.heap.size) hSZ
            refine hK.out _ _ (On.step g3 hb) (fun h4 => ?_)
            clear hK K hb hSZ hE0
            try simp only [Act.put, List.setIfInBounds_toArray, List.set_cons_zero, List.set_cons_succ, List.getElem_toArray, List.getElem_cons_succ, List.getElem_cons_zero]
            refine wpAnyH_ready (rs := [15]) (by kernel_rfl) (by simp) ?_
            refine AllReadyH.cons rfl (fun K hK => ?_) AllReadyH.nil
            go_simp
            have hSZ := h4.size
            have hG0 := hG
            refine (kboth_to HK.out hkm (HP.out.below (HO1.out.step h4)) (HI.out.below (HO1.out.step h4) rfl) hm (HCL.out.on h4)).mono ?_
            rintro e wE ⟨A3, n3, c3, rfl, hH, hb⟩
            have hE := owns_below hE hb
            have hG := owns_below hG hb
            have hN := boxn_step16 hN hb
            have a23 := apart_new hG0 hH
            have hH := owns_base16 hH (b2 := w1.heap.size) hSZ
            refine hK.out _ _ (On.step h4 hb) (fun h5 => ?_)
            clear hK K hb hSZ hG0
            try simp only [Act.put, List.setIfInBounds_toArray, List.set_cons_zero, List.set_cons_succ, List.getElem_toArray, List.getElem_cons_succ, List.getElem_cons_zero]
            refine wpAnyH_ready (rs := [18]) (by kernel_rfl) (by simp) ?_
            refine AllReadyH.cons rfl (fun K hK => ?_) AllReadyH.nil
            go_simp
            have hSZ := h5.size
            refine (ktext_to (n := n) (c := c) (d := d) (A := A) rfl hkm (HI.out.below (HO1.out.step h5) rfl) (by omega)).mono ?_
            rintro e wF ⟨rfl, hb⟩
            have hE := owns_below hE hb
            have hG := owns_below hG hb
            have hH := owns_below hH hb
            have hN := boxn_step16 hN hb
            refine hK.out _ _ (On.step h5 hb) (fun h6 => ?_)
            clear hK K hb hSZ
            try simp only [Act.put, List.setIfInBounds_toArray, List.set_cons_zero, List.set_cons_succ, List.getElem_toArray, List.getElem_cons_succ, List.getElem_cons_zero]
            refine wpAnyH_take (i := 19) (v := ?_) rfl (by kernel_rfl) (by kernel_rfl) (by kernel_rfl) (fun _ _ _ h => h) (Or.inl ⟨by rfl, ?_⟩) h6 ?_
            rotate_left
            · intro w hSw; (try dsimp only at hSw); go_simp; with_reducible rfl
            try simp only [Act.put, List.setIfInBounds_toArray, List.set_cons_zero, List.set_cons_succ, List.getElem_toArray, List.getElem_cons_succ, List.getElem_cons_zero]
            refine wpAnyH_done (by kernel_rfl) ?_ _
            show wpList _ _ _ _ _ _
            have t0 := hN.cell (j := 0) rfl
            have t1 := hN.cell (j := 1) rfl
            have t2 := hN.cell (j := 2) rfl
            have t3 := hN.cell (j := 3) rfl
            have t4 := hN.frozen
            clear q0 q1 q2
            go_wp2_with fail
            exact ⟨_, rA, rC, A1, A2, A3, n1, c1, n2, c2, n3, c3, _, rfl, AtS.store hN hNS hE hG hH a12 a23 rfl h6⟩
        · go_simp
          have hb : Below (wB).heap.size (wB) ((wB).alloc (.cells #[.slice none 0 0, .slice none 0 0, .slice none 0 0, .int .i64 0] 28)) := On.alloc (On.refl (wB)) (.cells #[.slice none 0 0, .slice none 0 0, .slice none 0 0, .int .i64 0] 28)
          have hE := owns_below hE hb
          have hNS : w1.heap.size ≤ (wB).heap.size := h2.size
          have hN : BoxN ((wB).alloc (.cells #[.slice none 0 0, .slice none 0 0, .slice none 0 0, .int .i64 0] 28)) (wB).heap.size 28 [.slice none 0 0, .slice none 0 0, .slice none 0 0, .int .i64 0] := BoxN.new _ _ _
          refine hK.out _ _ (On.step h2 hb) (fun g2 => ?_)
          clear hK K hb
          try simp only [Act.put, List.setIfInBounds_toArray, List.set_cons_zero, List.set_cons_succ, List.getElem_toArray, List.getElem_cons_succ, List.getElem_cons_zero]
          refine wpAnyH_ready (rs := [9]) (by kernel_rfl) (by simp) ?_
          refine AllReadyH.cons rfl (fun K hK => ?_) AllReadyH.nil
          go_simp
          have hSZ := g2.size
          refine (knotbox_to (.func (.func 24) #[] #[.pointer (some ⟨w.heap.size + 1 + 1, 0, none⟩), .pointer (some ⟨w.heap.size, 0, none⟩)]) rfl _).mono ?_
          rintro e wC ⟨rC, rfl, hrC, hb⟩
          have hE := owns_below hE hb
          have hN := boxn_step16 hN hb
          refine hK.out _ _ (On.step g2 hb) (fun h3 => ?_)
          clear hK K hb hSZ
          try simp only [Act.put, List.setIfInBounds_toArray, List.set_cons_zero, List.set_cons_succ, List.getElem_toArray, List.getElem_cons_succ, List.getElem_cons_zero]
          refine wpAnyH_ready (rs := [10]) (by kernel_rfl) (by simp) ?_
          refine AllReadyH.cons rfl (fun K hK => ?_) AllReadyH.nil
          go_simp
          have hSZ := h3.size
          have hE0 := hE
          refine (kbegs_to HK.out hkm (HP.out.below (HO1.out.step h3)) (HI.out.below (HO1.out.step h3) rfl) hm (HCL.out.on h3) hrC).mono ?_
          rintro e wD ⟨A2, n2, c2, rfl, hG, hb⟩
          have hE := owns_below hE hb
          have hrC := hrC.below hb
          have hN := boxn_step16 hN hb
          have a12 := apart_new hE0 hG
          have hG := owns_base16 hG (b2 := w1.heap.size) hSZ
          refine hK.out _ _ (On.step h3 hb) (fun h4 => ?_)
          clear hK K hb hSZ hE0
          try simp only [Act.put, List.setIfInBounds_toArray, List.set_cons_zero, List.set_cons_succ, List.getElem_toArray, List.getElem_cons_succ, List.getElem_cons_zero]
          refine wpAnyH_ready (rs := [15]) (by kernel_rfl) (by simp) ?_
          refine AllReadyH.cons rfl (fun K hK => ?_) AllReadyH.nil
          go_simp
          have hSZ := h4.size
          have hG0 := hG
          refine (kboth_to HK.out hkm (HP.out.below (HO1.out.step h4)) (HI.out.below (HO1.out.step h4) rfl) hm (HCL.out.on h4)).mono ?_
          rintro e wE ⟨A3, n3, c3, rfl, hH, hb⟩
          have hE := owns_below hE hb
          have hG := owns_below hG hb
          have hN := boxn_step16 hN hb
          have a23 := apart_new hG0 hH
          have hH := owns_base16 hH (b2 := w1.heap.size) hSZ
          refine hK.out _ _ (On.step h4 hb) (fun h5 => ?_)
          clear hK K hb hSZ hG0
          try simp only [Act.put, List.setIfInBounds_toArray, List.set_cons_zero, List.set_cons_succ, List.getElem_toArray, List.getElem_cons_succ, List.getElem_cons_zero]
          refine wpAnyH_ready (rs := [18]) (by kernel_rfl) (by simp) ?_
          refine AllReadyH.cons rfl (fun K hK => ?_) AllReadyH.nil
          go_simp
          have hSZ := h5.size
          refine (ktext_to (n := n) (c := c) (d := d) (A := A) rfl hkm (HI.out.below (HO1.out.step h5) rfl) (by omega)).mono ?_
          rintro e wF ⟨rfl, hb⟩
          have hE := owns_below hE hb
          have hG := owns_below hG hb
          have hH := owns_below hH hb
          have hN := boxn_step16 hN hb
          refine hK.out _ _ (On.step h5 hb) (fun h6 => ?_)
          clear hK K hb hSZ
          try simp only [Act.put, List.setIfInBounds_toArray, List.set_cons_zero, List.set_cons_succ, List.getElem_toArray, List.getElem_cons_succ, List.getElem_cons_zero]
          refine wpAnyH_take (i := 19) (v := ?_) rfl (by kernel_rfl) (by kernel_rfl) (by kernel_rfl) (fun _ _ _ h => h) (Or.inl ⟨by rfl, ?_⟩) h6 ?_
          rotate_left
          · intro w hSw; (try dsimp only at hSw); go_simp; with_reducible rfl
          try simp only [Act.put, List.setIfInBounds_toArray, List.set_cons_zero, List.set_cons_succ, List.getElem_toArray, List.getElem_cons_succ, List.getElem_cons_zero]
          refine wpAnyH_done (by kernel_rfl) ?_ _
          show wpList _ _ _ _ _ _
          have t0 := hN.cell (j := 0) rfl
          have t1 := hN.cell (j := 1) rfl
          have t2 := hN.cell (j := 2) rfl
          have t3 := hN.cell (j := 3) rfl
          have t4 := hN.frozen
          clear q0 q1 q2
          go_wp2_with fail
          exact ⟨_, rA, rC, A1, A2, A3, n1, c1, n2, c2, n3, c3, _, rfl, AtS.store hN hNS hE hG hH a12 a23 rfl h6⟩
      · go_simp
        have hb : Below (wA).heap.size (wA) ((wA).alloc (.cells #[.slice none 0 0, .slice none 0 0, .slice none 0 0, .int .i64 0] 28)) := On.alloc (On.refl (wA)) (.cells #[.slice none 0 0, .slice none 0 0, .slice none 0 0, .int .i64 0] 28)
        have hrA := hrA.below hb
        have hNS : w1.heap.size ≤ (wA).heap.size := h1.size
        have hN : BoxN ((wA).alloc (.cells #[.slice none 0 0, .slice none 0 0, .slice none 0 0, .int .i64 0] 28)) (wA).heap.size 28 [.slice none 0 0, .slice none 0 0, .slice none 0 0, .int .i64 0] := BoxN.new _ _ _
        refine hK.out _ _ (On.step h1 hb) (fun g1 => ?_)
        clear hK K hb
        try simp only [Act.put, List.setIfInBounds_toArray, List.set_cons_zero, List.set_cons_succ, List.getElem_toArray, List.getElem_cons_succ, List.getElem_cons_zero]
        refine wpAnyH_ready (rs := [5]) (by kernel_rfl) (by simp) ?_
        refine AllReadyH.cons rfl (fun K hK => ?_) AllReadyH.nil
        go_simp
        have hSZ := g1.size
        refine (kends_to HK.out hkm (HP.out.below (HO1.out.step g1)) (HI.out.below (HO1.out.step g1) rfl) hm (HCL.out.on g1) hrA).mono ?_
        rintro e wB ⟨A1, n1, c1, rfl, hE, hb⟩
        have hrA := hrA.below hb
        have hN := boxn_step16 hN hb
        have hE := owns_base16 hE (b2 := w1.heap.size) hSZ
        refine hK.out _ _ (On.step g1 hb) (fun h2 => ?_)
        clear hK K hb hSZ
        try simp only [Act.put, List.setIfInBounds_toArray, List.set_cons_zero, List.set_cons_succ, List.getElem_toArray, List.getElem_cons_succ, List.getElem_cons_zero]
        refine wpAnyH_ready (rs := [9]) (by kernel_rfl) (by simp) ?_
        refine AllReadyH.cons rfl (fun K hK => ?_) AllReadyH.nil
        go_simp
        have hSZ := h2.size
        refine (knotbox_to (.func (.func 24) #[] #[.pointer (some ⟨w.heap.size + 1 + 1, 0, none⟩), .pointer (some ⟨w.heap.size, 0, none⟩)]) rfl _).mono ?_
        rintro e wC ⟨rC, rfl, hrC, hb⟩
        have hE := owns_below hE hb
        have hN := boxn_step16 hN hb
        refine hK.out _ _ (On.step h2 hb) (fun h3 => ?_)
        clear hK K hb hSZ
        try simp only [Act.put, List.setIfInBounds_toArray, List.set_cons_zero, List.set_cons_succ, List.getElem_toArray, List.getElem_cons_succ, List.getElem_cons_zero]
        refine wpAnyH_ready (rs := [10]) (by kernel_rfl) (by simp) ?_
        refine AllReadyH.cons rfl (fun K hK => ?_) AllReadyH.nil
        go_simp
        have hSZ := h3.size
        have hE0 := hE
        refine (kbegs_to HK.out hkm (HP.out.below (HO1.out.step h3)) (HI.out.below (HO1.out.step h3) rfl) hm (HCL.out.on h3) hrC).mono ?_
        rintro e wD ⟨A2, n2, c2, rfl, hG, hb⟩
        have hE := owns_below hE hb
        have hrC := hrC.below hb
        have hN := boxn_step16 hN hb
        have a12 := apart_new hE0 hG
        have hG := owns_base16 hG (b2 := w1.heap.size) hSZ
        refine hK.out _ _ (On.step h3 hb) (fun h4 => ?_)
        clear hK K hb hSZ hE0
        try simp only [Act.put, List.setIfInBounds_toArray, List.set_cons_zero, List.set_cons_succ, List.getElem_toArray, List.getElem_cons_succ, List.getElem_cons_zero]
        refine wpAnyH_ready (rs := [15]) (by kernel_rfl) (by simp) ?_
        refine AllReadyH.cons rfl (fun K hK => ?_) AllReadyH.nil
        go_simp
        have hSZ := h4.size
        have hG0 := hG
        refine (kboth_to HK.out hkm (HP.out.below (HO1.out.step h4)) (HI.out.below (HO1.out.step h4) rfl) hm (HCL.out.on h4)).mono ?_
        rintro e wE ⟨A3, n3, c3, rfl, hH, hb⟩
        have hE := owns_below hE hb
        have hG := owns_below hG hb
        have hN := boxn_step16 hN hb
        have a23 := apart_new hG0 hH
        have hH := owns_base16 hH (b2 := w1.heap.size) hSZ
        refine hK.out _ _ (On.step h4 hb) (fun h5 => ?_)
        clear hK K hb hSZ hG0
        try simp only [Act.put, List.setIfInBounds_toArray, List.set_cons_zero, List.set_cons_succ, List.getElem_toArray, List.getElem_cons_succ, List.getElem_cons_zero]
        refine wpAnyH_ready (rs := [18]) (by kernel_rfl) (by simp) ?_
        refine AllReadyH.cons rfl (fun K hK => ?_) AllReadyH.nil
        go_simp
        have hSZ := h5.size
        refine (ktext_to (n := n) (c := c) (d := d) (A := A) rfl hkm (HI.out.below (HO1.out.step h5) rfl) (by omega)).mono ?_
        rintro e wF ⟨rfl, hb⟩
        have hE := owns_below hE hb
        have hG := owns_below hG hb
        have hH := owns_below hH hb
        have hN := boxn_step16 hN hb
        refine hK.out _ _ (On.step h5 hb) (fun h6 => ?_)
        clear hK K hb hSZ
        try simp only [Act.put, List.setIfInBounds_toArray, List.set_cons_zero, List.set_cons_succ, List.getElem_toArray, List.getElem_cons_succ, List.getElem_cons_zero]
        refine wpAnyH_take (i := 19) (v := ?_) rfl (by kernel_rfl) (by kernel_rfl) (by kernel_rfl) (fun _ _ _ h => h) (Or.inl ⟨by rfl, ?_⟩) h6 ?_
        rotate_left
        · intro w hSw; (try dsimp only at hSw); go_simp; with_reducible rfl
        try simp only [Act.put, List.setIfInBounds_toArray, List.set_cons_zero, List.set_cons_succ, List.getElem_toArray, List.getElem_cons_succ, List.getElem_cons_zero]
        refine wpAnyH_done (by kernel_rfl) ?_ _
        show wpList _ _ _ _ _ _
        have t0 := hN.cell (j := 0) rfl
        have t1 := hN.cell (j := 1) rfl
        have t2 := hN.cell (j := 2) rfl
        have t3 := hN.cell (j := 3) rfl
        have t4 := hN.frozen
        clear q0 q1 q2
        go_wp2_with fail
        exact ⟨_, rA, rC, A1, A2, A3, n1, c1, n2, c2, n3, c3, _, rfl, AtS.store hN hNS hE hG hH a12 a23 rfl h6⟩
    · go_simp
      have hb : Below w1.heap.size (w1.drew) ((w1.drew).alloc (.cells #[.slice none 0 0, .slice none 0 0, .slice none 0 0, .int .i64 0] 28)) := On.alloc (On.refl (w1.drew)) (.cells #[.slice none 0 0, .slice none 0 0, .slice none 0 0, .int .i64 0] 28)
      have hNS : w1.heap.size ≤ w1.heap.size := h0.size
      have hN : BoxN ((w1.drew).alloc (.cells #[.slice none 0 0, .slice none 0 0, .slice none 0 0, .int .i64 0] 28)) w1.heap.size 28 [.slice none 0 0, .slice none 0 0, .slice none 0 0, .int .i64 0] := BoxN.new _ _ _
      refine hK.out _ _ (On.step h0 hb) (fun g0 => ?_)
      clear hK K hb
      try simp only [Act.put, List.setIfInBounds_toArray, List.set_cons_zero, List.set_cons_succ, List.getElem_toArray, List.getElem_cons_succ, List.getElem_cons_zero]
      refine wpAnyH_ready (rs := [4]) (by kernel_rfl) (by simp) ?_
      refine AllReadyH.cons rfl (fun K hK => ?_) AllReadyH.nil
      go_simp
      have hSZ := g0.size
      refine (knotbox_to (.func (.func 26) #[] #[.pointer (some ⟨w.heap.size + 1 + 1, 0, none⟩), .pointer (some ⟨w.heap.size, 0, none⟩)]) rfl _).mono ?_
      rintro e wA ⟨rA, rfl, hrA, hb⟩
      have hN := boxn_step16 hN hb
      refine hK.out _ _ (On.step g0 hb) (fun h1 => ?_)
      clear hK K hb hSZ
      try simp only [Act.put, List.setIfInBounds_toArray, List.set_cons_zero, List.set_cons_succ, List.getElem_toArray, List.getElem_cons_succ, List.getElem_cons_zero]
      refine wpAnyH_ready (rs := [5]) (by kernel_rfl) (by simp) ?_
      refine AllReadyH.cons rfl (fun K hK => ?_) AllReadyH.nil
      go_simp
      have hSZ := h1.size
      refine (kends_to HK.out hkm (HP.out.below (HO1.out.step h1)) (HI.out.below (HO1.out.step h1) rfl) hm (HCL.out.on h1) hrA).mono ?_
      rintro e wB ⟨A1, n1, c1, rfl, hE, hb⟩
      have hrA := hrA.below hb
      have hN := boxn_step16 hN hb
      have hE := owns_base16 hE (b2 := w1.heap.size) hSZ
      refine hK.out _ _ (On.step h1 hb) (fun h2 => ?_)
      clear hK K hb hSZ
      try simp only [Act.put, List.setIfInBounds_toArray, List.set_cons_zero, List.set_cons_succ, List.getElem_toArray, List.getElem_cons_succ, List.getElem_cons_zero]
      refine wpAnyH_ready (rs := [9]) (by kernel_rfl) (by simp) ?_
      refine AllReadyH.cons rfl (fun K hK => ?_) AllReadyH.nil
      go_simp
      have hSZ := h2.size
      refine (knotbox_to (.func (.func 24) #[] #[.pointer (some ⟨w.heap.size + 1 + 1, 0, none⟩), .pointer (some ⟨w.heap.size, 0, none⟩)]) rfl _).mono ?_
      rintro e wC ⟨rC, rfl, hrC, hb⟩
      have hE := owns_below hE hb
      have hN := boxn_step16 hN hb
      refine hK.out _ _ (On.step h2 hb) (fun h3 => ?_)
      clear hK K hb hSZ
      try simp only [Act.put, List.setIfInBounds_toArray, List.set_cons_zero, List.set_cons_succ, List.getElem_toArray, List.getElem_cons_succ, List.getElem_cons_zero]
      refine wpAnyH_ready (rs := [10]) (by kernel_rfl) (by simp) ?_
      refine AllReadyH.cons rfl (fun K hK => ?_) AllReadyH.nil
      go_simp
      have hSZ := h3.size
      have hE0 := hE
      refine (kbegs_to HK.out hkm (HP.out.below (HO1.out.step h3)) (HI.out.below (HO1.out.step h3) rfl) hm (HCL.out.on h3) hrC).mono ?_
      rintro e wD ⟨A2, n2, c2, rfl, hG, hb⟩
      have hE := owns_below hE hb
      have hrC := hrC.below hb
      have hN := boxn_step16 hN hb
      have a12 := apart_new hE0 hG
      have hG := owns_base16 hG (b2 := w1.heap.size) hSZ
      refine hK.out _ _ (On.step h3 hb) (fun h4 => ?_)
      clear hK K hb hSZ hE0
      try simp only [Act.put, List.setIfInBounds_toArray, List.set_cons_zero, List.set_cons_succ, List.getElem_toArray, List.getElem_cons_succ, List.getElem_cons_zero]
      refine wpAnyH_ready (rs := [15]) (by kernel_rfl) (by simp) ?_
      refine AllReadyH.cons rfl (fun K hK => ?_) AllReadyH.nil
      go_simp
      have hSZ := h4.size
      have hG0 := hG
      refine (kboth_to HK.out hkm (HP.out.below (HO1.out.step h4)) (HI.out.below (HO1.out.step h4) rfl) hm (HCL.out.on h4)).mono ?_
      rintro e wE ⟨A3, n3, c3, rfl, hH, hb⟩
      have hE := owns_below hE hb
      have hG := owns_below hG hb
      have hN := boxn_step16 hN hb
      have a23 := apart_new hG0 hH
      have hH := owns_base16 hH (b2 := w1.heap.size) hSZ
      refine hK.out _ _ (On.step h4 hb) (fun h5 => ?_)
      clear hK K hb hSZ hG0
      try simp only [Act.put, List.setIfInBounds_toArray, List.set_cons_zero, List.set_cons_succ, List.getElem_toArray, List.getElem_cons_succ, List.getElem_cons_zero]
      refine wpAnyH_ready (rs := [18]) (by kernel_rfl) (by simp) ?_
      refine AllReadyH.cons rfl (fun K hK => ?_) AllReadyH.nil
      go_simp
      have hSZ := h5.size
      refine (ktext_to (n := n) (c := c) (d := d) (A := A) rfl hkm (HI.out.below (HO1.out.step h5) rfl) (by omega)).mono ?_
      rintro e wF ⟨rfl, hb⟩
      have hE := owns_below hE hb
      have hG := owns_below hG hb
      have hH := owns_below hH hb
      have hN := boxn_step16 hN hb
      refine hK.out _ _ (On.step h5 hb) (fun h6 => ?_)
      clear hK K hb hSZ
      try simp only [Act.put, List.setIfInBounds_toArray, List.set_cons_zero, List.set_cons_succ, List.getElem_toArray, List.getElem_cons_succ, List.getElem_cons_zero]
      refine wpAnyH_take (i := 19) (v := ?_) rfl (by kernel_rfl) (by kernel_rfl) (by kernel_rfl) (fun _ _ _ h => h) (Or.inl ⟨by rfl, ?_⟩) h6 ?_
      rotate_left
      · intro w hSw; (try dsimp only at hSw); go_simp; with_reducible rfl
      try simp only [Act.put, List.setIfInBounds_toArray, List.set_cons_zero, List.set_cons_succ, List.getElem_toArray, List.getElem_cons_succ, List.getElem_cons_zero]
      refine wpAnyH_done (by kernel_rfl) ?_ _
      show wpList _ _ _ _ _ _
      have t0 := hN.cell (j := 0) rfl
      have t1 := hN.cell (j := 1) rfl
      have t2 := hN.cell (j := 2) rfl
      have t3 := hN.cell (j := 3) rfl
      have t4 := hN.frozen
      clear q0 q1 q2
      go_wp2_with fail
      exact ⟨_, rA, rC, A1, A2, A3, n1, c1, n2, c2, n3, c3, _, rfl, AtS.store hN hNS hE hG hH a12 a23 rfl h6⟩
  rintro a' V ⟨N, rA, rC, A1, A2, A3, n1, c1, n2, c2, n3, c3, tx, rfl, hS⟩
  have HS := Lib.hid hS
  have b1 := hS.box.cell (j := 1) rfl
  clear hS q0 q1 q2
  go_wp2_with fail
  refine (krev_to (n := n2) HS.out.b (show n2 ≤ 1000000 by have h1 : ((kinK L of (k0 : Int)).begs.reverse.map (Value.int .i64)).length = n2 * 1 := HS.out.b.1; have h2 := HLB.out; rw [List.length_map, List.length_reverse, Nat.mul_one] at h1; rw [← h1]; exact Nat.le_trans h2 (by decide))).mono ?_
  rintro e V2 ⟨rfl, hrow, hg⟩
  rw [List.reverse_reverse] at hrow
  have HRW := Lib.hid hrow
  have hbk := owns_block HS.out.b
  have hbx : BoxN V2 N 28 [.slice A1 n1 c1, .slice A2 n2 c2, .slice A3 n3 c3, .int .i64 tx] := HS.out.box.kept hg (fun e => boxn_apart16 HS.out.box (by decide) HS.out.b N e.symm rfl)
  have hres : Box V2 (w.heap.size + 1) [.slice none 0 0, .slice none 0 0, .slice none 0 0, .int .i64 0] := (HX1.out.below HS.out.on).grown hg (fun r hr => by have := hbk r hr; omega)
  have HE := Lib.hid (owns_keep16 HS.out.e hg (fun r h1 h2 => HS.out.a12 r h1 h2))
  have HB := Lib.hid (owns_keep16 HS.out.o hg (fun r h1 h2 => HS.out.a23 r h2 h1))
  have HON := Lib.hid (show On w V2 from HO1.out.trans (below_grown16 HS.out.on hg (fun r hr => hbk r hr) |>.mono HO1.out.size))
  have u0 := hbx.cell (j := 0) rfl
  have u1 := hbx.cell (j := 1) rfl
  have u2 := hbx.cell (j := 2) rfl
  have u3 := hbx.cell (j := 3) rfl
  have p0 := hres.2.2 0 _ rfl
  have p1 := hres.2.2 1 _ rfl
  have p2 := hres.2.2 2 _ rfl
  have p3 := hres.2.2 3 _ rfl
  have p4 : ∀ o, V2.frozen? ⟨w.heap.size + 1, o, none⟩ = false := hres.2.1
  have HRS := Lib.hid hres
  clear hg hrow hbk hbx hres b1
  go_wp2_with fail
  have hY := (((HRS.out.set 0 (.slice A1 n1 c1) (by simp)).set 1 (.slice A2 n2 c2) (by simp)).set 2 (.slice A3 n3 c3) (by simp)).set 3 (.int .i64 tx) (by simp)
  have r0 := hY.2.2 0 _ rfl
  have r1 := hY.2.2 1 _ rfl
  have r2 := hY.2.2 2 _ rfl
  have r3 := hY.2.2 3 _ rfl
  have far : ∀ {v : Value} {q : Nat} {xs : List Value}, V2.ownsRow w1.heap.size 3 1 v q xs → ((((V2.setCell ⟨w.heap.size + 1, 0, none⟩ (.slice A1 n1 c1)).setCell ⟨w.heap.size + 1, 1, none⟩ (.slice A2 n2 c2)).setCell ⟨w.heap.size + 1, 2, none⟩ (.slice A3 n3 c3)).setCell ⟨w.heap.size + 1, 3, none⟩ (.int .i64 tx)).ownsRow w1.heap.size 3 1 v q xs :=
    fun {v q xs} h => owns_set (owns_set (owns_set (owns_set h (by omega) _ _) (by omega) _ _) (by omega) _ _) (by omega) _ _
  have hOK := On.set (n := w.heap.size + 1) (j := 3) (On.set (n := w.heap.size + 1) (j := 2) (On.set (n := w.heap.size + 1) (j := 1) (On.set (n := w.heap.size + 1) (j := 0) HON.out (by omega) (.slice A1 n1 c1)) (by omega) (.slice A2 n2 c2)) (by omega) (.slice A3 n3 c3)) (by omega) (.int .i64 tx)
  exact bodyPost_ret (v := .tuple #[.agg #[.slice A1 n1 c1, .slice A2 n2 c2, .slice A3 n3 c3, .int .i64 tx], .int .i64 0]) (by simp [results, Try.results9, go_sem, r0, r1, r2, r3]) rfl
    ⟨⟨A1, n1, c1, A2, n2, c2, A3, n3, c3, tx⟩, rfl, ⟨owns_base16 (far HE.out) (by omega), owns_base16 (far HRW.out) (by omega), owns_base16 (far HB.out) (by omega), HS.out.t⟩, hOK⟩
theorem kAt_to {L : List Nd} {of : List Int} (hk : kinB L of = true) {k0 : Nat} {A B : Option Addr} {n c m d : Nat} {w : World} (hP : PreV L w A n) (hI : Ints w B m of) (hm : m ≤ 1000000) (hkm : k0 ≤ m) :
    Calls Try.prog 9 #[.slice A n c, .slice B m d, .int .i64 (k0 : Int)] w fun e w' => ∃ mm, e = .returned (.tuple #[.agg (encKn mm).toArray, .int .i64 0]) ∧ KnSee w' mm (kinK L of (k0 : Int)) ∧ Below w.heap.size w w' :=
  (kAtOwn_to hk hP hI hm hkm).mono fun e w' ⟨mm, he, hs, hb⟩ => ⟨mm, he, hs.see, hb⟩
set_option maxHeartbeats 2000000 in
set_option maxRecDepth 100000 in
theorem kAtNo_to {L : List Nd} {of : List Int} {k : Int} {A B : Option Addr} {n c m d : Nat} {w : World} (hbad : kinB L of = false ∨ k < 0 ∨ (m : Int) < k) (hP : PreV L w A n) (hI : Ints w B m of) (hm : m ≤ 1000000) :
    Calls Try.prog 9 #[.slice A n c, .slice B m d, .int .i64 k] w fun e w' => e = .returned (.tuple #[.agg (encKn KnM.none).toArray, .int .i64 4]) ∧ Below w.heap.size w w' := by
  have HP := Lib.hid hP
  have HI := Lib.hid hI
  have HBAD := Lib.hid hbad
  clear hP hI hbad
  go_enter Try.func9, Try.ntmps9
  go_wp2_with fail
  generalize hW : World.alloc (World.alloc (World.alloc w _) _) _ = W
  have HO := Lib.hid (show On w W by rw [← hW]; exact ((On.alloc (On.refl w) _).alloc _).alloc _)
  have HB0 := Lib.hid (show Box W w.heap.size [.int .i64 k] by rw [← hW]; exact ((box_new16 _ [.int .i64 k] _ _ rfl _ rfl).alloc _).alloc _)
  have HB1 := Lib.hid (show Box W (w.heap.size + 1) [.slice none 0 0, .slice none 0 0, .slice none 0 0, .int .i64 0] by rw [← hW]; exact (box_new16 _ _ _ _ (by simp) _ rfl).alloc _)
  clear hW
  rcases hk : kinB L of with _ | _
  all_goals
    refine (kmay_to (c := c) (d := d) hk (HP.out.below HO.out) (HI.out.below HO.out rfl) hm).mono ?_
    rintro e w1 ⟨rfl, hb⟩
    have HO1 := Lib.hid (show On w w1 from below_then HO.out hb)
    have hX1 := HB1.out.below hb
    have hX0 := HB0.out.below hb
    obtain ⟨q0, _, _⟩ := hX0.of1
    have p0 := hX1.2.2 0 _ rfl
    have p1 := hX1.2.2 1 _ rfl
    have p2 := hX1.2.2 2 _ rfl
    have p3 := hX1.2.2 3 _ rfl
    have p4 : ∀ o, w1.frozen? ⟨w.heap.size + 1, o, none⟩ = false := hX1.2.1
    have HRS := Lib.hid hX1
    clear hb hX1 hX0 HB0 HB1 HO
  · have HE := Lib.hid hk
    clear hk
    go_wp2_with fail
    have hY := (((HRS.out.set 0 (.slice none 0 0) (by simp)).set 1 (.slice none 0 0) (by simp)).set 2 (.slice none 0 0) (by simp)).set 3 (.int .i64 0) (by simp)
    have r0 := hY.2.2 0 _ rfl
    have r1 := hY.2.2 1 _ rfl
    have r2 := hY.2.2 2 _ rfl
    have r3 := hY.2.2 3 _ rfl
    have hOK := On.set (n := w.heap.size + 1) (j := 3) (On.set (n := w.heap.size + 1) (j := 2) (On.set (n := w.heap.size + 1) (j := 1) (On.set (n := w.heap.size + 1) (j := 0) HO1.out (by omega) (.slice none 0 0)) (by omega) (.slice none 0 0)) (by omega) (.slice none 0 0)) (by omega) (.int .i64 0)
    exact bodyPost_ret (v := .tuple #[.agg #[.slice none 0 0, .slice none 0 0, .slice none 0 0, .int .i64 0], .int .i64 4]) (by simp [results, Try.results9, go_sem, r0, r1, r2, r3]) rfl ⟨rfl, hOK⟩
  · have hmb := HI.out.2.1
    by_cases h2 : k < 0
    · have d0 : decide (k < 0) = true := decide_eq_true h2
      clear hk
      go_wp2_with fail
      have hY := (((HRS.out.set 0 (.slice none 0 0) (by simp)).set 1 (.slice none 0 0) (by simp)).set 2 (.slice none 0 0) (by simp)).set 3 (.int .i64 0) (by simp)
      have r0 := hY.2.2 0 _ rfl
      have r1 := hY.2.2 1 _ rfl
      have r2 := hY.2.2 2 _ rfl
      have r3 := hY.2.2 3 _ rfl
      have hOK := On.set (n := w.heap.size + 1) (j := 3) (On.set (n := w.heap.size + 1) (j := 2) (On.set (n := w.heap.size + 1) (j := 1) (On.set (n := w.heap.size + 1) (j := 0) HO1.out (by omega) (.slice none 0 0)) (by omega) (.slice none 0 0)) (by omega) (.slice none 0 0)) (by omega) (.int .i64 0)
      exact bodyPost_ret (v := .tuple #[.agg #[.slice none 0 0, .slice none 0 0, .slice none 0 0, .int .i64 0], .int .i64 4]) (by simp [results, Try.results9, go_sem, r0, r1, r2, r3]) rfl ⟨rfl, hOK⟩
    · have h1 : (m : Int) < k := by rcases HBAD.out with h | h | h; rw [hk] at h; cases h; exact absurd h h2; exact h
      have d0 : decide (k < 0) = false := decide_eq_false h2
      have h3 : 0 ≤ k := by omega
      have d1 : decide ((m : Int) < k) = true := decide_eq_true h1
      clear hk
      go_wp2_with fail
      have hY := (((HRS.out.set 0 (.slice none 0 0) (by simp)).set 1 (.slice none 0 0) (by simp)).set 2 (.slice none 0 0) (by simp)).set 3 (.int .i64 0) (by simp)
      have r0 := hY.2.2 0 _ rfl
      have r1 := hY.2.2 1 _ rfl
      have r2 := hY.2.2 2 _ rfl
      have r3 := hY.2.2 3 _ rfl
      have hOK := On.set (n := w.heap.size + 1) (j := 3) (On.set (n := w.heap.size + 1) (j := 2) (On.set (n := w.heap.size + 1) (j := 1) (On.set (n := w.heap.size + 1) (j := 0) HO1.out (by omega) (.slice none 0 0)) (by omega) (.slice none 0 0)) (by omega) (.slice none 0 0)) (by omega) (.int .i64 0)
      exact bodyPost_ret (v := .tuple #[.agg #[.slice none 0 0, .slice none 0 0, .slice none 0 0, .int .i64 0], .int .i64 4]) (by simp [results, Try.results9, go_sem, r0, r1, r2, r3]) rfl ⟨rfl, hOK⟩
end Go.Proofs.Ytamakeogaipdiaa
