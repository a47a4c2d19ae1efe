import Derived.Test.YtikpbgkjghcidaaMarginFns
import Derived.Test.YtikpbgkjghcidaaMapAt
import Derived.Test.YtikpbgkjghcidaaTail
/- The program's closures of package margin: what each kind of steps does to the moved pen. -/
namespace Go.Proofs.Ytikpbgkjghcidaa
open Go.RowKit
set_option linter.unusedVariables false
set_option linter.unusedSimpArgs false
/-- below B all but block k stays. -/
structure Fr (B k : Nat) (w w' : World) : Prop where
  os : w'.os = w.os
  tape : w'.tape = w.tape
  output : w'.output = w.output
  size : w.heap.size ≤ w'.heap.size
  block : ∀ j, j < B → j ≠ k → w'.heap[j]? = w.heap[j]?
theorem Fr.refl (B k : Nat) (w : World) : Fr B k w w := ⟨rfl, rfl, rfl, Nat.le_refl _, fun _ _ _ => rfl⟩
theorem Fr.trans {B k : Nat} {a b c : World} (h : Fr B k a b) (g : Fr B k b c) : Fr B k a c := ⟨g.os.trans h.os, g.tape.trans h.tape, g.output.trans h.output, Nat.le_trans h.size g.size, fun j h1 h2 => (g.block j h1 h2).trans (h.block j h1 h2)⟩
theorem Fr.of_grown {B k : Nat} {w w' : World} {row : Option Nat} (h : w.grownBy w' row) (hr : ∀ r, row = some r → B ≤ r ∨ r = k) (hB : B ≤ w.heap.size) : Fr B k w w' :=
  ⟨h.os, h.tape, h.output, h.size, fun j h1 h2 => h.block j (by omega) (fun e => by rcases hr j e.symm with h3 | h3 <;> omega)⟩
theorem Fr.of_below {B k : Nat} {w w' : World} (h : Below w.heap.size w w') (hB : B ≤ w.heap.size) : Fr B k w w' := ⟨h.os, h.tape, h.output, h.size, fun j h1 _ => h.block j (by omega)⟩
theorem Fr.drew {B k : Nat} {w w' : World} (h : Fr B k w w') : Fr B k w w'.drew := ⟨h.os, h.tape, h.output, h.size, h.block⟩
theorem Fr.low {B k B0 : Nat} {w0 w w' : World} (h : Fr B k w w') (hb : Below B0 w0 w) (h1 : B0 ≤ B) (h2 : B0 ≤ k) : Below B0 w0 w' :=
  ⟨h.os.trans hb.os, h.tape.trans hb.tape, h.output.trans hb.output, Nat.le_trans hb.size h.size, fun j hj => (h.block j (by omega) (by omega)).trans (hb.block j hj)⟩
theorem Fr.box {B k n : Nat} {w w' : World} {vs : List Value} (h : Fr B k w w') (hX : Box w n vs) (h1 : n < B) (h2 : n ≠ k) : Box w' n vs := by
  have hb : w'.heap[n]? = w.heap[n]? := h.block n h1 h2
  exact ⟨Nat.lt_of_lt_of_le hX.1 h.size, fun o => (World.frozen?_of_block (w := w) (a := ⟨n, o, none⟩) hb).trans (hX.2.1 o), fun j v hv => (World.cell?_of_block (w := w) (a := ⟨n, j, none⟩) hb).trans (hX.2.2 j v hv)⟩
theorem Fr.map {B k b : Nat} {w w' : World} {l : List (Int × Value)} (h : Fr B k w w') (hM : MapAt w b l) (h1 : b < B) (h2 : b ≠ k) : MapAt w' b l := (h.block b h1 h2).trans hM
theorem owns_grown {w w' : World} {base : Nat} {e : TypeId} {size : Nat} {v : Value} {n : Nat} {xs : List Value} {row : Option Nat} (h : w.ownsRow base e size v n xs) (hg : w.grownBy w' row) (hr : ∀ r, row = some r → r < base) : w'.ownsRow base e size v n xs := by
  refine ⟨h.1, ?_⟩
  rcases h.2 with h2 | ⟨g, cap, cur, h1, h2, h3, h4⟩
  · exact .inl h2
  · exact .inr ⟨g, cap, cur, h1, h2, (hg.block g (Array.getElem?_eq_some_iff.1 h3).1 (fun e => by have := hr g e.symm; omega)).trans h3, h4⟩
theorem box_new3 (w : World) (a b c : Value) (t : TypeId) : Box (w.alloc (.cells #[a, b, c] t)) w.heap.size [a, b, c] := Box.new w [a, b, c] t
/-- block k holds a moved pen that has put its things there; the row of their places is the call's own. -/
def Mv (B k : Nat) (w : World) (y m : Int) (zs : List Int) : Prop :=
  ∃ A c, Box w k (mvd y m A zs.length c) ∧ w.ownsRow B 3 1 (.slice A zs.length c) zs.length (zs.map (Value.int .i64)) ∧ k < B ∧ B ≤ w.heap.size
theorem mv_grown {B k : Nat} {w w' : World} {y' m' : Int} {zs : List Int} {A : Option Addr} {c : Nat} (h2 : w.ownsRow B 3 1 (.slice A zs.length c) zs.length (zs.map (Value.int .i64))) (h3 : k < B) (h4 : B ≤ w.heap.size) (hX : Box w' k (mvd y' m' A zs.length c)) (hg : w.grownBy w' (some k)) :
    Mv B k w' y' m' zs ∧ Fr B k w w' :=
  ⟨⟨A, c, hX, owns_grown h2 hg (fun r e => by injection e with e; omega), h3, Nat.le_trans h4 hg.size⟩, Fr.of_grown hg (fun r e => by injection e with e; exact .inr e.symm) h4⟩
theorem raise_bd {m a : Int} (hm : -1125899906842624 ≤ m ∧ m ≤ 1125899906842624) (ha : -1125899906842624 ≤ a ∧ a ≤ 1125899906842624) : -1125899906842624 ≤ raiseI m a ∧ raiseI m a ≤ 1125899906842624 := by unfold raiseI; split <;> omega
theorem nearI_bd {a : Int} (h : NearI a) : -1125899906842624 ≤ a ∧ a ≤ 1125899906842624 := h
theorem clo1_to {y m z a d y' m' : Int} (hv : enterP (y, m) a d = (y', m')) {j : Nat} (hp : PenB j (y, m)) (hj : j ≤ 1000) (ha : NearI a) (hd : NearI d) {B k c : Nat} {zs : List Int} {w : World} (hM : Mv B k w y m zs) (hC : Box w c [.pointer (some ⟨k, 0, none⟩)]) :
    Calls Try.prog 26 #[.agg #[.int .i64 z, .int .i64 a, .int .i64 d], .pointer (some ⟨c, 0, none⟩)] w fun e w' => e = .returned (.tuple #[]) ∧ Mv B k w' y' m' zs ∧ Fr B k w w' := by
  obtain ⟨A, n, hX, ho, hk, hB⟩ := hM
  obtain ⟨⟨y1, y2⟩, ⟨m1, m2⟩⟩ := penb_open hp hj
  obtain ⟨a1, a2⟩ := nearI_bd ha
  obtain ⟨d1, d2⟩ := nearI_bd hd
  obtain ⟨r1, r2⟩ := raise_bd ⟨m1, m2⟩ ⟨a1, a2⟩
  have HW1 := Lib.hid (show IntKind.i64.wrap (y + raiseI m a) = y + raiseI m a from wrap_far (by omega))
  have HW2 := Lib.hid (show IntKind.i64.wrap (y + raiseI m a + d) = y + raiseI m a + d from wrap_far (by omega))
  have HV := Lib.hid hv
  have hal : ∀ cs t, Below w.heap.size w (w.alloc (.cells cs t)) := fun cs t => (Below.refl _ _).alloc (Nat.le_refl _) _
  have HX := Lib.hid hX
  have HO := Lib.hid ho
  have HB := Lib.hid hB
  have HK := Lib.hid hk
  obtain ⟨c0, c1, c2⟩ := hC.of1
  clear hv hp hj ha hd hC hX ho hk hB hal
  go_enter Try.func26, Try.ntmps26
  go_wp2_with fail
  refine (enter13_to HV.out HW1.out HW2.out (HX.out.alloc _)).mono ?_
  rintro e w2 ⟨rfl, hX2, hg⟩
  have HE := Lib.hid (mv_grown (owns_below HO.out ((Below.refl _ _).alloc (Nat.le_refl _) _)) HK.out (by simp; have := HB.out; omega) hX2 hg)
  have HF := Lib.hid (Fr.of_below (k := k) ((Below.refl w.heap.size w).alloc (Nat.le_refl _) (.cells #[.int .i64 z, .int .i64 a, .int .i64 d] 33)) HB.out)
  clear hX2 hg HX HO
  go_wp2_with fail
  go_end0
  exact ⟨rfl, HE.out.1, HF.out.trans HE.out.2⟩
theorem clo2_to {y m z a d y' m' : Int} (hv : leaveP (y, m) a d = (y', m')) {j : Nat} (hp : PenB j (y, m)) (hj : j ≤ 1000) (ha : NearI a) (hd : NearI d) {B k c : Nat} {zs : List Int} {w : World} (hM : Mv B k w y m zs) (hC : Box w c [.pointer (some ⟨k, 0, none⟩)]) :
    Calls Try.prog 27 #[.agg #[.int .i64 z, .int .i64 a, .int .i64 d], .pointer (some ⟨c, 0, none⟩)] w fun e w' => e = .returned (.tuple #[]) ∧ Mv B k w' y' m' zs ∧ Fr B k w w' := by
  obtain ⟨A, n, hX, ho, hk, hB⟩ := hM
  obtain ⟨⟨y1, y2⟩, ⟨m1, m2⟩⟩ := penb_open hp hj
  obtain ⟨a1, a2⟩ := nearI_bd ha
  obtain ⟨d1, d2⟩ := nearI_bd hd
  have HW1 := Lib.hid (show IntKind.i64.wrap (y + m) = y + m from wrap_far (by omega))
  have HW2 := Lib.hid (show IntKind.i64.wrap (y + m + d) = y + m + d from wrap_far (by omega))
  have HV := Lib.hid hv
  have hal : ∀ cs t, Below w.heap.size w (w.alloc (.cells cs t)) := fun cs t => (Below.refl _ _).alloc (Nat.le_refl _) _
  have HX := Lib.hid hX
  have HO := Lib.hid ho
  have HB := Lib.hid hB
  have HK := Lib.hid hk
  obtain ⟨c0, c1, c2⟩ := hC.of1
  clear hv hp hj ha hd hC hX ho hk hB hal
  go_enter Try.func27, Try.ntmps27
  go_wp2_with fail
  refine (leave13_to HV.out HW1.out HW2.out (HX.out.alloc _)).mono ?_
  rintro e w2 ⟨rfl, hX2, hg⟩
  have HE := Lib.hid (mv_grown (owns_below HO.out ((Below.refl _ _).alloc (Nat.le_refl _) _)) HK.out (by simp; have := HB.out; omega) hX2 hg)
  have HF := Lib.hid (Fr.of_below (k := k) ((Below.refl w.heap.size w).alloc (Nat.le_refl _) (.cells #[.int .i64 z, .int .i64 a, .int .i64 d] 33)) HB.out)
  clear hX2 hg HX HO
  go_wp2_with fail
  go_end0
  exact ⟨rfl, HE.out.1, HF.out.trans HE.out.2⟩
theorem clo3_to {y m z a d y' m' : Int} (hv : clearP (y, m) a = (y', m')) {j : Nat} (hp : PenB j (y, m)) (hj : j ≤ 1000) (ha : NearI a) (hd : NearI d) {B k c : Nat} {zs : List Int} {w : World} (hM : Mv B k w y m zs) (hC : Box w c [.pointer (some ⟨k, 0, none⟩)]) :
    Calls Try.prog 28 #[.agg #[.int .i64 z, .int .i64 a, .int .i64 d], .pointer (some ⟨c, 0, none⟩)] w fun e w' => e = .returned (.tuple #[]) ∧ Mv B k w' y' m' zs ∧ Fr B k w w' := by
  obtain ⟨A, n, hX, ho, hk, hB⟩ := hM
  obtain ⟨⟨y1, y2⟩, ⟨m1, m2⟩⟩ := penb_open hp hj
  obtain ⟨a1, a2⟩ := nearI_bd ha
  obtain ⟨d1, d2⟩ := nearI_bd hd
  have HW1 := Lib.hid (show IntKind.i64.wrap (y + m) = y + m from wrap_far (by omega))
  have HV := Lib.hid hv
  have hal : ∀ cs t, Below w.heap.size w (w.alloc (.cells cs t)) := fun cs t => (Below.refl _ _).alloc (Nat.le_refl _) _
  have HX := Lib.hid hX
  have HO := Lib.hid ho
  have HB := Lib.hid hB
  have HK := Lib.hid hk
  obtain ⟨c0, c1, c2⟩ := hC.of1
  clear hv hp hj ha hd hC hX ho hk hB hal
  go_enter Try.func28, Try.ntmps28
  go_wp2_with fail
  refine (clear13_to HV.out HW1.out (HX.out.alloc _)).mono ?_
  rintro e w2 ⟨rfl, hX2, hg⟩
  have HE := Lib.hid (mv_grown (owns_below HO.out ((Below.refl _ _).alloc (Nat.le_refl _) _)) HK.out (by simp; have := HB.out; omega) hX2 hg)
  have HF := Lib.hid (Fr.of_below (k := k) ((Below.refl w.heap.size w).alloc (Nat.le_refl _) (.cells #[.int .i64 z, .int .i64 a, .int .i64 d] 33)) HB.out)
  clear hX2 hg HX HO
  go_wp2_with fail
  go_end0
  exact ⟨rfl, HE.out.1, HF.out.trans HE.out.2⟩
theorem int_info13c : (Try.prog.info? 3).map (fun i => (i.zero, i.size, i.bytes)) = some (some (.int .i64 0), 1, 8) := by kernel_rfl
theorem pushed {zs : List Int} {v : Int} : (zs ++ [v]).map (Value.int .i64) = zs.map (Value.int .i64) ++ [Value.int .i64 v] := by simp
set_option maxHeartbeats 4000000 in
set_option maxRecDepth 100000 in
theorem clo4_to {y m z a d : Int} {j : Nat} (hp : PenB j (y, m)) (hj : j ≤ 1000) (ha : NearI a) {B k c : Nat} {zs : List Int} {w : World} (hM : Mv B k w y m zs) (hC : Box w c [.pointer (some ⟨k, 0, none⟩)]) (hcB : c < B) (hck : c ≠ k) (hn : zs.length ≤ 1000) :
    Calls Try.prog 29 #[.agg #[.int .i64 z, .int .i64 a, .int .i64 d], .pointer (some ⟨c, 0, none⟩)] w fun e w' => e = .returned (.tuple #[]) ∧ Mv B k w' (y + m + a) 0 (zs ++ [y + m]) ∧ Fr B k w w' := by
  obtain ⟨q0, hq0, hy0, hy1, hy2⟩ := info_parts int_info13c
  obtain ⟨A, n, hX, ho, hk, hB⟩ := hM
  obtain ⟨⟨y1, y2⟩, ⟨m1, m2⟩⟩ := penb_open hp hj
  obtain ⟨a1, a2⟩ := nearI_bd ha
  have HW1 := Lib.hid (show IntKind.i64.wrap (y + m) = y + m from wrap_far (by omega))
  have HW2 := Lib.hid (show IntKind.i64.wrap (y + m + a) = y + m + a from wrap_far (by omega))
  have HX := Lib.hid hX
  have HO := Lib.hid ho
  have HB := Lib.hid hB
  have HK := Lib.hid hk
  have HC := Lib.hid hC
  obtain ⟨c0, c1, c2⟩ := hC.of1
  obtain ⟨⟨x0, x1, x2⟩, _, _⟩ := mvd_of hX
  clear hp hj ha hC hX ho hk hB
  go_enter Try.func29, Try.ntmps29
  go_wp2_with fail
  refine (place13_to A zs.length n HW1.out _).mono ?_
  rintro e w1 ⟨rfl, hb⟩
  have HBW := Lib.hid (show Below w.heap.size w w1 from below_then (by go_grown) hb)
  have HS1 := Lib.hid ((box_new3 w (.int .i64 z) (.int .i64 a) (.int .i64 d) 33).below hb)
  clear hb c0 c1 c2 x0 x1 x2
  go_wp2_with fail
  have HX1 := Lib.hid ((HX.out.below HBW.out).drew)
  have HC1 := Lib.hid ((HC.out.below HBW.out).drew)
  have HO1 := Lib.hid (owns_below HO.out (HBW.out.drew))
  have HS1' := Lib.hid (HS1.out.drew)
  have HBW1 := Lib.hid (HBW.out.drew)
  refine wp_region_held_tail 10 (S := fun W' => W'.cell? ⟨c, 0, none⟩ = some (.pointer (some ⟨k, 0, none⟩)) ∧ W'.cell? ⟨k, 2, none⟩ = some (.slice A zs.length n)) (by kernel_rfl) (by kernel_rfl) rfl ⟨HC1.out.of1.1, (mvd_of HX1.out).1.2.2⟩ (fun h0 => ?_)
  simp only [headOf, List.take_succ_cons, List.take_zero, List.getElem_toArray, List.getElem_cons_succ, List.getElem_cons_zero]
  have HRL := Lib.hid (owns_block_lt HO.out)
  have HF0 := Lib.hid (Fr.of_below (k := k) HBW1.out HB.out)
  clear HX HC HO HS1 HBW
  generalize w1.drew = U at HX1 HC1 HO1 HS1' HBW1 HF0 h0 ⊢
  refine wpAnyH_take (i := 0) (v := ?_) rfl (by kernel_rfl) (by kernel_rfl) (by kernel_rfl) (fun _ _ _ h => h) (Or.inl ⟨by rfl, ?_⟩) h0 ?_
  rotate_left
  · intro w hSw; (try dsimp only at hSw); obtain ⟨s3, s4⟩ := hSw; go_simp; with_reducible rfl
  try simp only [Act.put, List.setIfInBounds_toArray, List.set_cons_zero, List.set_cons_succ]
  refine wpAnyH_take (i := 1) (v := ?_) rfl (by kernel_rfl) (by kernel_rfl) (by kernel_rfl) (fun _ _ _ h => h) (Or.inl ⟨by rfl, ?_⟩) h0 ?_
  rotate_left
  · intro w hSw; (try dsimp only at hSw); obtain ⟨s3, s4⟩ := hSw; go_simp; with_reducible rfl
  try simp only [Act.put, List.setIfInBounds_toArray, List.set_cons_zero, List.set_cons_succ]
  refine wpAnyH_take (i := 2) (v := ?_) rfl (by kernel_rfl) (by kernel_rfl) (by kernel_rfl) (fun _ _ _ h => h) (Or.inl ⟨by rfl, ?_⟩) h0 ?_
  rotate_left
  · intro w hSw; (try dsimp only at hSw); obtain ⟨s3, s4⟩ := hSw; go_simp; with_reducible rfl
  try simp only [Act.put, List.setIfInBounds_toArray, List.set_cons_zero, List.set_cons_succ]
  refine wpAnyH_take (i := 3) (v := ?_) rfl (by kernel_rfl) (by kernel_rfl) (by kernel_rfl) (fun _ _ _ h => h) (Or.inl ⟨by rfl, ?_⟩) h0 ?_
  rotate_left
  · intro w hSw; (try dsimp only at hSw); obtain ⟨s3, s4⟩ := hSw; go_simp; with_reducible rfl
  try simp only [Act.put, List.setIfInBounds_toArray, List.set_cons_zero, List.set_cons_succ]
  refine wpAnyH_take (i := 4) (v := ?_) rfl (by kernel_rfl) (by kernel_rfl) (by kernel_rfl) (fun _ _ _ h => h) (Or.inl ⟨by rfl, ?_⟩) h0 ?_
  rotate_left
  · intro w hSw; (try dsimp only at hSw); obtain ⟨s3, s4⟩ := hSw; go_simp; with_reducible rfl
  try simp only [Act.put, List.setIfInBounds_toArray, List.set_cons_zero, List.set_cons_succ]
  refine wpAnyH_take (i := 5) (v := ?_) rfl (by kernel_rfl) (by kernel_rfl) (by kernel_rfl) (fun _ _ _ h => h) (Or.inl ⟨by rfl, ?_⟩) h0 ?_
  rotate_left
  · intro w hSw; (try dsimp only at hSw); obtain ⟨s3, s4⟩ := hSw; go_simp; with_reducible rfl
  try simp only [Act.put, List.setIfInBounds_toArray, List.set_cons_zero, List.set_cons_succ]
  refine wpAnyH_ready (rs := [6]) (by kernel_rfl) (by simp) ?_
  refine AllReadyH.cons rfl (fun K hK => ?_) AllReadyH.nil
  go_simp
  have hal : Below U.heap.size U (U.alloc (.cells #[.int .i64 (y + m)] 3)) := (Below.refl _ U).alloc (Nat.le_refl _) _
  have HX2 := Lib.hid (HX1.out.below hal)
  have HC2 := Lib.hid (HC1.out.below hal)
  have HS2 := Lib.hid (HS1'.out.below hal)
  have HO2 := Lib.hid (owns_below HO1.out hal)
  have hC5 := (Ints.new1 U 3 (y + m)).cells
  refine hK.out _ _ ⟨HC2.out.of1.1, (mvd_of HX2.out).1.2.2⟩ (fun h1 => ?_)
  clear hK K
  try simp only [Act.put, List.setIfInBounds_toArray, List.set_cons_zero, List.set_cons_succ]
  refine wpAnyH_ready (rs := [7]) (by kernel_rfl) (by simp) ?_
  refine AllReadyH.cons rfl (fun K hK => ?_) AllReadyH.nil
  refine step_append_cells _ rfl (.tmp 12) (.tmp 14) _ rfl B 3 q0 (.int .i64 0) 1 8 Try.underlying28 hq0 hy0 hy1 hy2 rfl (by decide) _ zs.length _ rfl HO2.out _ 1 1 _ rfl hC5 (by intro u hu; simp at hu; subst hu; rfl) (by unfold maxLen; omega) (by omega) (by have e1 := HB.out; have e2 := HBW1.out.size; simp; omega) ?_
  intro A7 c7 w6 hown6 hg6
  have hr : ∀ r, (Value.slice A zs.length n).ownBlock = some r → B ≤ r := owns_block HO2.out
  have hkB := HK.out
  have HX3 := Lib.hid (HX2.out.grown hg6 (fun r e => by have := hr r e; omega))
  have HC3 := Lib.hid (HC2.out.grown hg6 (fun r e => by have := hr r e; omega))
  have hrl : ∀ r, (Value.slice A zs.length n).ownBlock = some r → r < w.heap.size := HRL.out
  have HS3 := Lib.hid (HS2.out.grown hg6 (fun r e => by have := hrl r e; omega))
  have HF3 := Lib.hid ((HF0.out.trans (Fr.of_below hal (Nat.le_trans HB.out HBW1.out.size))).trans (Fr.of_grown hg6 (fun r e => .inl (hr r e)) (by have e1 := HB.out; have e2 := HBW1.out.size; simp; omega)))
  refine hK.out _ _ ⟨HC3.out.of1.1, (mvd_of HX3.out).1.2.2⟩ (fun h3 => ?_)
  clear hK K
  try simp only [Act.put, List.setIfInBounds_toArray, List.set_cons_zero, List.set_cons_succ]
  refine wpAnyH_take (i := 8) (v := ?_) rfl (by kernel_rfl) (by kernel_rfl) (by kernel_rfl) (fun _ _ _ h => h) (Or.inl ⟨by rfl, ?_⟩) h3 ?_
  rotate_left
  · intro w hSw; (try dsimp only at hSw); obtain ⟨s3, s4⟩ := hSw; go_simp; with_reducible rfl
  try simp only [Act.put, List.setIfInBounds_toArray, List.set_cons_zero, List.set_cons_succ]
  refine wpAnyH_take (i := 9) (v := ?_) rfl (by kernel_rfl) (by kernel_rfl) (by kernel_rfl) (fun _ _ _ h => h) (Or.inl ⟨by rfl, ?_⟩) h3 ?_
  rotate_left
  · intro w hSw; (try dsimp only at hSw); obtain ⟨s3, s4⟩ := hSw; go_simp; with_reducible rfl
  try simp only [Act.put, List.setIfInBounds_toArray, List.set_cons_zero, List.set_cons_succ]
  refine wpAnyH_done (by kernel_rfl) ?_ _
  show wpList _ _ _ _ _ _
  have hO6 := hown6
  rw [← List.map_append] at hO6
  have HO7 := Lib.hid (owns_grown hO6 (grownBy_setCellN w6 k 2 (.slice A7 (zs.length + 1) c7)) (fun r e => by injection e with e; have := HK.out; omega))
  have HX7 := Lib.hid (show Box (w6.setCell ⟨k, 2, none⟩ (.slice A7 (zs.length + 1) c7)) k (mvd y m A7 (zs.length + 1) c7) from HX3.out.set 2 (.slice A7 (zs.length + 1) c7) (by simp [mvd]))
  have HC7 := Lib.hid (HC3.out.set_other (fun e => hck e.symm) 2 (.slice A7 (zs.length + 1) c7))
  have hks : k ≠ w.heap.size := by have e1 := HB.out; have e2 := HK.out; omega
  have HS7 := Lib.hid (HS3.out.set_other hks 2 (.slice A7 (zs.length + 1) c7))
  have hB6 : B ≤ w6.heap.size := Nat.le_trans HB.out HF3.out.size
  have HF7 := Lib.hid (HF3.out.trans (Fr.of_grown (grownBy_setCellN w6 k 2 (.slice A7 (zs.length + 1) c7)) (fun r e => .inr (by injection e with e; exact e.symm)) hB6))
  have hB7 : B ≤ (w6.setCell ⟨k, 2, none⟩ (.slice A7 (zs.length + 1) c7)).heap.size := by simpa using hB6
  obtain ⟨_, ⟨_, _, f2⟩, _⟩ := mvd_of HX3.out
  have x2 := (mvd_of HX3.out).1.2.2
  clear h0 h1 h3 hal HX1 HC1 HO1 HS1' HBW1 HF0 HX2 HC2 HS2 HO2 hC5 hown6 hg6 hO6 hr hrl HX3 HC3 HS3 HF3 HRL hB6
  go_wp2_with ((with_reducible refine stop_load 50 (.tmp 1) ?_ ?_); exact rfl)
  refine Stop.intro ?_
  clear f2 x2
  generalize w6.setCell ⟨k, 2, none⟩ (.slice A7 (zs.length + 1) c7) = V at HX7 HC7 HS7 HO7 HF7 hB7 ⊢
  obtain ⟨c0, c1, c2⟩ := HC7.out.of1
  obtain ⟨⟨s0, s1, s2⟩, _⟩ := HS7.out.of3
  go_wp2_with fail
  refine (put13_to HW2.out HX7.out).mono ?_
  rintro e w8 ⟨rfl, hX8, hg8⟩
  have HE := Lib.hid (show Mv B k w8 (y + m + a) 0 (zs ++ [y + m]) from (by
    have hl : (zs ++ [y + m]).length = zs.length + 1 := by simp
    have hx : Box w8 k (mvd (y + m + a) 0 A7 (zs ++ [y + m]).length c7) := by rw [hl]; exact hX8
    have ho : V.ownsRow B 3 1 (.slice A7 (zs ++ [y + m]).length c7) (zs ++ [y + m]).length ((zs ++ [y + m]).map (Value.int .i64)) := by rw [hl]; exact HO7.out
    exact (mv_grown ho HK.out hB7 hx hg8).1))
  have HG := Lib.hid (HF7.out.trans (Fr.of_grown hg8 (fun r e => .inr (by injection e with e; exact e.symm)) hB7))
  clear hX8 hg8 HX7 HC7 HS7 HO7 HF7 c0 c1 c2 s0 s1 s2
  go_wp2_with fail
  go_end0
  exact ⟨rfl, HE.out, HG.out⟩
end Go.Proofs.Ytikpbgkjghcidaa
