import Derived.Test.YtamakeogaipdiaaJA25
import Derived.Test.YtamakeogaipdiaaJA01
/- The program's package kin: around, for the closures that it is called with. (Written by program: tools/drafts/genaround16.py.) -/
namespace Go.Proofs.Ytamakeogaipdiaa
open Go.RowKit Go.Shelf
set_option linter.unusedVariables false
set_option linter.unusedSimpArgs false
attribute [local go_sem] Oper.semAt_some
/-- a walk that ends in one way alone. -/
def Only16 (R : Act → World → Prop) : Exit → Act → World → Prop
  | .normal, a, w => R a w
  | _, _, _ => False
theorem only16_to {R : Act → World → Prop} {Q : Exit → Act → World → Prop} (h : ∀ a w, R a w → Q .normal a w) : ∀ e a w, Only16 R e a w → Q e a w := fun e a w hq => by
  cases e with
  | normal => exact h a w hq
  | _ => exact False.elim hq
/-- all that lay in w2 lies in V, but block D. -/
def Keep16 (w2 : World) (D : Nat) (V : World) : Prop := w2.heap.size ≤ V.heap.size ∧ ∀ k, k < w2.heap.size → k ≠ D → V.heap[k]? = w2.heap[k]?
theorem Keep16.refl (w2 : World) (D : Nat) : Keep16 w2 D w2 := ⟨Nat.le_refl _, fun _ _ _ => rfl⟩
theorem Keep16.on {w2 V V' : World} {D : Nat} (h : Keep16 w2 D V) (hb : Below V.heap.size V V') : Keep16 w2 D V' := ⟨Nat.le_trans h.1 hb.size, fun k hk hD => (hb.block k (Nat.lt_of_lt_of_le hk h.1)).trans (h.2 k hk hD)⟩
theorem Keep16.grown {w2 V V' : World} {D : Nat} {row : Option Nat} (h : Keep16 w2 D V) (hg : V.grownBy V' row) (hr : ∀ r, row = some r → w2.heap.size ≤ r) : Keep16 w2 D V' :=
  ⟨Nat.le_trans h.1 hg.size, fun k hk hD => (hg.block k (Nat.lt_of_lt_of_le hk h.1) (fun e => by have := hr k e.symm; omega)).trans (h.2 k hk hD)⟩
theorem Keep16.set {w2 V : World} {D : Nat} (h : Keep16 w2 D V) (j : Nat) (v : Value) : Keep16 w2 D (V.setCell ⟨D, j, none⟩ v) :=
  ⟨by simpa using h.1, fun k hk hD => (Below.heap_setCell _ _ _ _ (fun e => hD (by simpa using e))).trans (h.2 k hk hD)⟩
theorem Keep16.put {w2 V : World} {D l : Nat} (h : Keep16 w2 D V) (hl : w2.heap.size ≤ l) (o : Obj) : Keep16 w2 D (V.putObj l o) := h.grown (grownBy_putObj' V l o) (fun r e => by injection e with e; omega)
theorem Keep16.own {w2 : World} {D B : Nat} (hB : w2.heap.size ≤ B) {β : Type} : OwnFrom B (fun (_ : β) V => Keep16 w2 D V) := fun _ _ _ _ h hg hr => h.grown hg (fun r e => Nat.le_trans hB (hr r e).1)
theorem Keep16.owns {w2 V : World} {D base : Nat} {e : TypeId} {size n : Nat} {v : Value} {xs : List Value} (h : Keep16 w2 D V) (hD : D < base) (ho : w2.ownsRow base e size v n xs) : V.ownsRow base e size v n xs := by
  refine ⟨ho.1, ?_⟩
  rcases ho.2 with h2 | ⟨g, cap, cur, h1, h2, h3, h4⟩
  · exact .inl h2
  · exact .inr ⟨g, cap, cur, h1, h2, (h.2 g (Array.getElem?_eq_some_iff.1 h3).1 (by omega)).trans h3, h4⟩
theorem Keep16.boxed {w2 V : World} {D k : Nat} {t : TypeId} {v : Value} (h : Keep16 w2 D V) (hD : k ≠ D) (hb : Boxed w2 k t v) : Boxed V k t v := (h.2 k hb.lt hD).trans hb
theorem keeps_below16 {W W' : World} (h : Below W.heap.size W W') : KeepsOthers W W' := ⟨h.size, fun k o hk _ => (h.block k (Array.getElem?_eq_some_iff.1 hk).1).trans hk⟩
/-- the places found so far. -/
def found16 {N : Nat} (p : Nat → Bool) (pre : List (K16 N)) : List Int := (pre.filter fun x => p x.1).map fun x => ((x.1 : Nat) : Int)
theorem found_snoc {N : Nat} (p : Nat → Bool) (pre : List (K16 N)) (x : K16 N) : found16 p (pre ++ [x]) = found16 p pre ++ (if p x.1 then [((x.1 : Nat) : Int)] else []) := by
  unfold found16
  rw [List.filter_append, List.map_append]
  congr 1
  rcases h : p x.1 with _ | _
  · simp [h]
  · simp [h]
theorem found_len {N : Nat} (p : Nat → Bool) (pre : List (K16 N)) : (found16 p pre).length ≤ pre.length := by
  unfold found16
  rw [List.length_map]
  exact List.length_filter_le _ _
theorem found_all {N : Nat} (p : Nat → Bool) {ys : List (K16 N)} {l : List Nat} (h : ys.map (·.1) = l) : found16 p ys = (l.filter p).map fun b : Nat => (b : Int) := by
  subst h
  unfold found16
  rw [List.filter_map, List.map_map]
  rfl
theorem valI_of {N : Nat} {ys : List (K16 N)} {l : List Nat} (h : ys.map (·.1) = l) : valI ys = l.map fun b : Nat => (b : Int) := by
  subst h
  unfold valI
  rw [List.map_map]
  rfl
/-- between two rounds. -/
def AroI {N : Nat} (w w2 : World) (D : Nat) (p : Nat → Bool) (pre : List (K16 N)) (W : World) : Prop :=
  (∃ v, Boxed W D 23 v ∧ W.ownsRow w2.heap.size 3 1 v (found16 p pre).length ((found16 p pre).map (Value.int .i64)) ∧ True) ∧ (Below w.heap.size w W ∧ Keep16 w2 D W)
theorem aroI_own {N : Nat} {w w2 : World} {D : Nat} {p : Nat → Bool} (hw : w.heap.size ≤ w2.heap.size) : OwnFrom w2.heap.size (AroI (N := N) w w2 D p) :=
  OwnFrom.and (Own.from (holdsRow_own w2.heap.size D 23 3 1 (fun pre : List (K16 N) => (found16 p pre).length) (fun pre => (found16 p pre).map (Value.int .i64)) (fun pre v => True)) _) (OwnFrom.and (ownFrom_below (Nat.le_refl _) hw) (Keep16.own (Nat.le_refl _)))
/-- nothing is around an atom that there is not. -/
theorem below_of16 {w W W' : World} (h : Below w.heap.size w W) (hb : Below W.heap.size W W') : Below w.heap.size w W' := below_then h hb
theorem karound0_to {k : Int} {A B : Option Addr} {n c m d : Nat} (f : Value) (hf : f.oneCell' = true) (hk : ¬ (0 ≤ k ∧ k < (m : Int))) (hm : m ≤ 9223372036854775807) (w : World) :
    Calls Try.prog 27 #[.agg #[.slice A n c, .slice B m d], .int .i64 k, f] w (IntsOut w []) := by
  have HH := Lib.hid (khas_to (k := k) (m := m) (v := false) (by rcases Decidable.not_and_iff_not_or_not.1 hk with h9 | h9; rw [decide_eq_false h9, Bool.false_and]; rw [decide_eq_false h9, Bool.and_false]) hm A B n c d)
  clear hk
  go_enter Try.func27, Try.ntmps27
  go_wp2_with fail
  refine (HH.out _).mono ?_
  rintro e w1 ⟨rfl, hb⟩
  have HB := Lib.hid (below_then (On.alloc (On.alloc (On.refl w) _) _) hb)
  clear hb
  go_wp2_with fail
  go_ret
  exact ⟨none, 0, 0, rfl, owns_nil _ _ _ _, HB.out⟩
set_option maxRecDepth 100000 in
set_option maxHeartbeats 4000000 in
theorem karoundN_in {L : List Nd} {of : List Int} (h : KinOk L of) {i j : Nat} {p : Nat → Bool} {r : Nat} (ha : of[i]? = some (j : Int)) {A B : Option Addr} {n c m d : Nat} {w : World} (hP : PreV L w A n) (hI : Ints w B m of) (hm : m ≤ 1000000)
    (hC : ∀ (V : World) (b : Nat), On w V → b < L.length → Calls Try.prog 46 #[.int .i64 (b : Int), .pointer (some ⟨r, 0, none⟩)] V fun e w' => e = .returned (.bool (p b)) ∧ Below V.heap.size V w') :
    CallsIn Fence.wide 9 Try.prog 27 #[.agg #[.slice A n c, .slice B m d], .int .i64 (i : Int), .func (.func 46) #[] #[.pointer (some ⟨r, 0, none⟩)]] w (IntsOut w (((aboveP L j).filter p).map fun b : Nat => (b : Int))) := by
  have hlo := hI.1
  obtain ⟨i0, hi0', hz0, hz1, hz2⟩ := info_parts kin_info16
  have hi : i < m := by have := (List.getElem?_eq_some_iff.1 ha).1; omega
  have hi2 : (i : Int) < (m : Int) := by omega
  have hi0 : (0 : Int) ≤ (i : Int) := by omega
  have HH := Lib.hid (khas_to (k := (i : Int)) (m := m) (v := true) (by rw [decide_eq_true hi0, decide_eq_true hi2]; rfl) hI.2.1 A B n c d)
  obtain ⟨b1, o1, j', x, rfl, c1, ha', hx, _⟩ := of_cell h hI hi
  obtain rfl : j = j' := by rw [ha] at ha'; injection ha' with ha'; omega
  have hjl := (List.getElem?_eq_some_iff.1 hx).1
  have HC1 := Lib.hid (On.cell c1)
  have HP := Lib.hid hP
  have HC := Lib.hid hC
  have HOD := Lib.hid (show ordL L = L by unfold ordL; rw [if_pos ((docB_iff L).2 h.doc)])
  have HLN := Lib.hid hP.1.len
  have hnn := hP.2
  obtain ⟨ys, hys⟩ := k16_of (N := L.length) (l := aboveP L j) (fun b hb => by have := (above_mem.1 hb).1; omega)
  have HYS := Lib.hid hys
  have HAB := Lib.hid (show aboveI (ordL L) (j : Int) = valI ys by rw [HOD.out, aboveI_nat hjl, valI_of hys])
  have HYL := Lib.hid (show ys.length ≤ 100000 by
    have h1 := above_len (L := L) (j : Int)
    rw [show aboveI L (j : Int) = valI ys by rw [← HAB.out, HOD.out]] at h1
    have h2 := HLN.out
    unfold valI at h1
    rw [List.length_map] at h1
    omega)
  clear hI hP c1 hlo hC ha ha' hx hjl hys
  refine callsIn_of_wp_marks Try.func27 rfl trivial ?_ rfl
  simp only [Try.ntmps27, List.size_toArray, List.length_cons, List.length_nil, Nat.reduceAdd, Nat.reduceSub, Array.replicate_succ, Array.replicate_zero, List.push_toArray, List.append_toArray, List.nil_append, List.cons_append]
  gi_wp2_with ((refine ⟨trivial, ?_⟩; gi_at_call 44; refine (callsIn_wide.2 (HH.out _)).mono ?_; rintro e w1 ⟨rfl, hb⟩; have HB := Lib.hid hb; clear hb))
  have hmix : Try.prog.follows .mixedOrders = true := by kernel_rfl
  generalize hU : World.alloc w1 _ = U
  have hOw1 : On w w1 := below_then (On.alloc (On.alloc (On.refl w) _) _) HB.out
  have HOU := Lib.hid (show On w U by rw [← hU]; exact On.alloc hOw1 _)
  have hB1 : BoxN w1 w.heap.size 53 [.slice A n c, .slice (some ⟨b1, o1, none⟩) m d] := ((BoxN.new w _ _).alloc _).below HB.out (by simp only [World.size_alloc]; omega)
  have HBX := Lib.hid (show BoxN U w.heap.size 53 [.slice A n c, .slice (some ⟨b1, o1, none⟩) m d] by rw [← hU]; exact hB1.alloc _)
  have hB2 : Boxed w1 (w.heap.size + 1) 55 (.func (.func 46) #[] #[.pointer (some ⟨r, 0, none⟩)]) := (HB.out.block (w.heap.size + 1) (by simp)).trans (by
    have := Boxed.new (w.alloc (.cells #[.slice A n c, .slice (some ⟨b1, o1, none⟩) m d] 53)) 55 (.func (.func 46) #[] #[.pointer (some ⟨r, 0, none⟩)])
    rwa [World.size_alloc] at this)
  have HBF := Lib.hid (show Boxed U (w.heap.size + 1) 55 (.func (.func 46) #[] #[.pointer (some ⟨r, 0, none⟩)]) by rw [← hU]; exact hB2.alloc _)
  obtain ⟨D, hD⟩ : ∃ D, w1.heap.size = D := ⟨_, rfl⟩
  rw [hD]
  have HBD := Lib.hid (show Boxed U D 23 (.slice none 0 0) by rw [← hU, ← hD]; exact Boxed.new w1 _ _)
  have hDw : w.heap.size + 2 ≤ D := by rw [← hD]; have := HB.out.size; simp at this; omega
  have hUD : D < U.heap.size := HBD.out.lt
  clear hU hOw1 hB1 hB2 HB hD
  have q0 := HBX.out.cell (j := 0) rfl
  have q1 := HBX.out.cell (j := 1) rfl
  have q2 := HC1.out U HOU.out
  refine wpIn_mono (Q := Only16 (fun a' w2 => ∃ (X : Nat) (A5 : Option Addr) (m5 c5 : Nat), a' = { tmps := #[.agg #[.slice A n c, .slice (some ⟨b1, o1, none⟩) m d], .int .i64 (i : Int), .func (.func 46) #[] #[.pointer (some ⟨r, 0, none⟩)], .pointer (some ⟨w.heap.size, 0, none⟩), undef, .pointer (some ⟨w.heap.size + 1, 0, none⟩), .slice none 0 0, .pointer (some ⟨D, 0, none⟩), undef, .agg #[.slice A n c, .slice (some ⟨b1, o1, none⟩) m d], .int .i64 (i : Int), .bool true, .bool false, .pointer (some ⟨w.heap.size, 0, none⟩), .slice A n c, .pointer (some ⟨w.heap.size, 1, none⟩), .slice (some ⟨b1, o1, none⟩) m d, .int .i64 (i : Int), .pointer (some ⟨b1, o1 + i, none⟩), .int .i64 (j : Int), .func (.func 75) #[] #[.pointer (some ⟨X, 0, none⟩)], undef, undef, undef, undef, undef, undef, undef, undef, undef], defers := [] } ∧ U.heap.size ≤ X ∧ w2.heap[X]? = some (.cells #[.slice A5 m5 c5] 23) ∧ w2.ownsRow U.heap.size 3 1 (.slice A5 m5 c5) m5 ((valI ys).map (Value.int .i64)) ∧ On U w2)) ?_ (only16_to ?_)
  · rw [← HAB.out]
    gi_region_with_o (refine ⟨trivial, ?_⟩; gi_at_call 45; refine (callsIn_wide.2 (kabove_to (HP.out.below (On.drew HOU.out)))).mono ?_; rintro e w2 ⟨X, A5, m5, c5, rfl, hX1, hX2, hX3, hX4⟩)
    all_goals exact ⟨X, A5, m5, c5, rfl, by simpa using hX1, hX2, by simpa using hX3, (On.drew (On.refl U)).step hX4⟩
  rintro a' w2 ⟨X, A5, m5, c5, rfl, hX1, hX2, hX3, hX4⟩
  clear q0 q1 q2
  have hOw2 : On w w2 := below_then HOU.out hX4
  have hUw : U.heap.size ≤ w2.heap.size := hX4.size
  have HCF := Lib.hid (show Boxed w2 (w.heap.size + 1) 55 (.func (.func 46) #[] #[.pointer (some ⟨r, 0, none⟩)]) from (hX4.block _ HBF.out.lt).trans HBF.out)
  have hBD2 : Boxed w2 D 23 (.slice none 0 0) := (hX4.block _ HBD.out.lt).trans HBD.out
  have hm5 : m5 ≤ 100000 := by
    have h1 := hX3.1
    have h2 := HYL.out
    unfold valI at h1
    simp at h1
    omega
  have HST := Lib.hid (values_stops (N := L.length) X w2 (ys := ys) (A := A5) (m := m5) (c := c5) hm5 (Keep16 w2 D) (fun Y Z => Keep16 w2 D Y → Keep16 w2 D Z)
    (fun V hV => ⟨(hV.boxed (by omega) (show Boxed w2 X 23 (.slice A5 m5 c5) from hX2)).cell, (ownsRow_cells (hV.owns hUD hX3)).ints⟩) (fun Y Z h k => k h) (fun V hV => (Keep16.refl w2 D).on hV))
  have HOW := Lib.hid hOw2
  have hI0 : AroI (N := L.length) w w2 D p [] w2 := ⟨⟨_, hBD2, World.ownsRow_nil _ _ _ _, trivial⟩, hOw2, Keep16.refl _ _⟩
  have hww2 : w.heap.size ≤ w2.heap.size := hOw2.size
  have hDw2 : D < w2.heap.size := by omega
  clear hX2 hX3 hX4 hOw2 hBD2 HBF HBD HBX
  gi_wp2_with (fail)
  refine wpIn_rangeFunc_ownF (F := Fence.wide) rfl (by omega) (gf := 75) (lb := #[.pointer (some ⟨X, 0, none⟩)]) rfl trivial (enters_of Try.func75 (by kernel_rfl) rfl)
    (HST.out 8) (fun h k g => k (h g)) (fun W l o o' hl ho hc hw g => g.put hl o') (Below.refl _ _) (fun _ => rfl) (AroI w w2 D p) (fun _ _ _ => False) (aroI_own hww2) (fun _ _ _ _ _ hs _ _ => hs) hI0
    (fun x => { tmps := #[.agg #[.slice A n c, .slice (some ⟨b1, o1, none⟩) m d], .int .i64 (i : Int), .func (.func 46) #[] #[.pointer (some ⟨r, 0, none⟩)], .pointer (some ⟨w.heap.size, 0, none⟩), undef, .pointer (some ⟨w.heap.size + 1, 0, none⟩), .slice none 0 0, .pointer (some ⟨D, 0, none⟩), .int .i64 ((x.1 : Nat) : Int), .agg #[.slice A n c, .slice (some ⟨b1, o1, none⟩) m d], .int .i64 (i : Int), .bool true, .bool false, .pointer (some ⟨w.heap.size, 0, none⟩), .slice A n c, .pointer (some ⟨w.heap.size, 1, none⟩), .slice (some ⟨b1, o1, none⟩) m d, .int .i64 (i : Int), .pointer (some ⟨b1, o1 + i, none⟩), .int .i64 (j : Int), .func (.func 75) #[] #[.pointer (some ⟨X, 0, none⟩)], .int .i64 ((x.1 : Nat) : Int), undef, undef, undef, undef, undef, undef, undef, undef], defers := [] }) ?assign ?body ?done ?stop
  case assign =>
    intro l x W K hK
    gi_wp2
    exact hK
  case body =>
    rintro l pre x W ⟨⟨v, hv, hrow, _⟩, hB, hKp⟩ hlt
    have hfl := found_len p pre
    have hcf := (hKp.boxed (by omega) HCF.out).cell
    obtain ⟨z, hz⟩ : ∃ z : Int, ((x.1 : Nat) : Int) = z := ⟨_, rfl⟩
    have HCL := Lib.hid (HC.out W x.1 hB x.2)
    have HFS := Lib.hid (found_snoc p pre x)
    have HBW := Lib.hid hB
    have HKW := Lib.hid hKp
    have HVW := Lib.hid hv
    have HRW := Lib.hid hrow
    rw [hz] at HCL HFS
    try dsimp only
    rw [hz]
    clear hB hKp hv hrow hz
    rcases hpx : p x.1 with _ | _
    · rw [hpx] at HCL HFS
      clear hpx
      gi_wp2_with (refine ⟨trivial, ?_⟩; gi_at_call 46; refine (CallsIn.inRound l (callsIn_wide.2 HCL.out)).mono ?_; rintro e w4 ⟨rfl, hb4⟩)
      refine ⟨keeps_below16 hb4, fun g => g.on hb4, ⟨v, (hb4.block _ HVW.out.lt).trans HVW.out, ?_, trivial⟩, below_of16 HBW.out hb4, HKW.out.on hb4⟩
      rw [HFS.out]
      simpa using owns_below HRW.out hb4
    · rw [hpx] at HCL HFS
      clear hpx
      obtain ⟨fl, hflq⟩ : ∃ fl, (found16 p pre).length = fl := ⟨_, rfl⟩
      rw [hflq] at HRW hfl
      have HFQ := Lib.hid hflq
      clear hflq
      gi_wp2_with (first
        | (refine ⟨trivial, ?_⟩; gi_at_call 46; refine (CallsIn.inRound l (callsIn_wide.2 HCL.out)).mono ?_; rintro e w4 ⟨rfl, hb4⟩; have hv4 : Boxed w4 D 23 v := (hb4.block _ HVW.out.lt).trans HVW.out; have hrow4 := owns_below HRW.out hb4; have hc4 := hv4.cell; have hws : w2.heap.size ≤ w4.heap.size := Nat.le_trans HKW.out.1 hb4.size)
        | (gi_at_builtin; refine wpListIn_append_own _ rfl _ _ 23 rfl w2.heap.size 3 i0 (.int .i64 0) 1 8 Try.underlying23 hi0' hz0 hz1 hz2 rfl (by decide) _ _ _ rfl (hrow4.alloc _) ⟨w4.heap.size, 0, none⟩ 1 1 [.int .i64 z] rfl rfl (cell_one_new _ _ _) (by simp [Value.oneCell']) (by simp [maxLen]; omega) (by omega) (by simp; omega) ?_; intro v' w5 hown' hgrow _; obtain ⟨g', cap', rfl⟩ := ownsRow_succ hown'; obtain ⟨hv1, hv2, _, hk2, _⟩ := hv4.appended (by decide) (owns_base16 hrow4 (b2 := D) (by omega)) (by omega) (Nat.le_refl _) (owns_base16 hown' (b2 := D) (by omega)) hgrow; have hc1 := hv1.cell; have hf1 := hv1.frozen))
      have hbk := owns_block hrow4
      have hKe : ∀ {Y : World}, Keep16 w2 D Y → Below Y.heap.size Y w4 → Keep16 w2 D (w5.setCell ⟨D, 0, none⟩ (.slice (some ⟨g', 0, none⟩) (fl + 1) cap')) := fun {Y} g hb => (((g.on hb).on (On.alloc (On.refl w4) _)).grown hgrow (fun r e => hbk r e)).set 0 _
      have hBe : Below w.heap.size w (w5.setCell ⟨D, 0, none⟩ (.slice (some ⟨g', 0, none⟩) (fl + 1) cap')) := On.set (below_grown16 (On.alloc (below_of16 HBW.out hb4) _) hgrow (fun r e => by have := hbk r e; omega)) (by omega) _
      refine ⟨(keeps_below16 hb4).trans hk2, fun g => hKe g hb4, ⟨_, hv2, ?_, trivial⟩, hBe, hKe HKW.out hb4⟩
      rw [HFS.out]
      rw [if_pos trivial, List.length_append, List.map_append, HFQ.out]
      exact owns_set hown' (by omega) 0 _
  case done =>
    rintro D2 xs W hD2 rfl ⟨⟨v, hv, hrow, _⟩, hB, hKp⟩ hK
    obtain ⟨A6, c6, rfl⟩ := ownsRow_form hrow
    have hc := hv.cell
    have HRO := Lib.hid hrow
    clear hrow
    gi_wp2
    refine ⟨by simp, .inl ⟨_, _, rfl, run_takeDeferred hK, ?_⟩⟩
    refine ⟨_, results_tmp rfl _ _ _, A6, _, c6, rfl, ?_, hB.grown (grownBy_putObj' _ _ _) (by have := hB.size; omega) (fun k e => by cases e; omega)⟩
    have := owns_base16 (ownsRow_putObj HRO.out (.deferred none) hK rfl) (b2 := w.heap.size) hww2
    rw [found_all p HYS.out] at this
    simpa [found_all p HYS.out] using this
  case stop =>
    rintro D2 c2 pre W _ _ h _
    exact h.elim
theorem karoundN_to {L : List Nd} {of : List Int} (h : KinOk L of) {i j : Nat} {p : Nat → Bool} {r : Nat} (ha : of[i]? = some (j : Int)) {A B : Option Addr} {n c m d : Nat} {w : World} (hP : PreV L w A n) (hI : Ints w B m of) (hm : m ≤ 1000000)
    (hC : ∀ (V : World) (b : Nat), On w V → b < L.length → Calls Try.prog 46 #[.int .i64 (b : Int), .pointer (some ⟨r, 0, none⟩)] V fun e w' => e = .returned (.bool (p b)) ∧ Below V.heap.size V w') :
    Calls Try.prog 27 #[.agg #[.slice A n c, .slice B m d], .int .i64 (i : Int), .func (.func 46) #[] #[.pointer (some ⟨r, 0, none⟩)]] w (IntsOut w (((aboveP L j).filter p).map fun b : Nat => (b : Int))) :=
  callsIn_wide.1 (karoundN_in h ha hP hI hm hC)
set_option maxRecDepth 100000 in
set_option maxHeartbeats 4000000 in
theorem karoundB_in {L : List Nd} {of : List Int} (h : KinOk L of) {i j : Nat} {p : Nat → Bool} {pp qq : Nat} (ha : of[i]? = some (j : Int)) {A B : Option Addr} {n c m d : Nat} {w : World} (hP : PreV L w A n) (hI : Ints w B m of) (hm : m ≤ 1000000)
    (hC : ∀ (V : World) (b : Nat), On w V → b < L.length → Calls Try.prog 26 #[.int .i64 (b : Int), .pointer (some ⟨pp, 0, none⟩), .pointer (some ⟨qq, 0, none⟩)] V fun e w' => e = .returned (.bool (p b)) ∧ Below V.heap.size V w') :
    CallsIn Fence.wide 9 Try.prog 27 #[.agg #[.slice A n c, .slice B m d], .int .i64 (i : Int), .func (.func 26) #[] #[.pointer (some ⟨pp, 0, none⟩), .pointer (some ⟨qq, 0, none⟩)]] w (IntsOut w (((aboveP L j).filter p).map fun b : Nat => (b : Int))) := by
  have hlo := hI.1
  obtain ⟨i0, hi0', hz0, hz1, hz2⟩ := info_parts kin_info16
  have hi : i < m := by have := (List.getElem?_eq_some_iff.1 ha).1; omega
  have hi2 : (i : Int) < (m : Int) := by omega
  have hi0 : (0 : Int) ≤ (i : Int) := by omega
  have HH := Lib.hid (khas_to (k := (i : Int)) (m := m) (v := true) (by rw [decide_eq_true hi0, decide_eq_true hi2]; rfl) hI.2.1 A B n c d)
  obtain ⟨b1, o1, j', x, rfl, c1, ha', hx, _⟩ := of_cell h hI hi
  obtain rfl : j = j' := by rw [ha] at ha'; injection ha' with ha'; omega
  have hjl := (List.getElem?_eq_some_iff.1 hx).1
  have HC1 := Lib.hid (On.cell c1)
  have HP := Lib.hid hP
  have HC := Lib.hid hC
  have HOD := Lib.hid (show ordL L = L by unfold ordL; rw [if_pos ((docB_iff L).2 h.doc)])
  have HLN := Lib.hid hP.1.len
  have hnn := hP.2
  obtain ⟨ys, hys⟩ := k16_of (N := L.length) (l := aboveP L j) (fun b hb => by have := (above_mem.1 hb).1; omega)
  have HYS := Lib.hid hys
  have HAB := Lib.hid (show aboveI (ordL L) (j : Int) = valI ys by rw [HOD.out, aboveI_nat hjl, valI_of hys])
  have HYL := Lib.hid (show ys.length ≤ 100000 by
    have h1 := above_len (L := L) (j : Int)
    rw [show aboveI L (j : Int) = valI ys by rw [← HAB.out, HOD.out]] at h1
    have h2 := HLN.out
    unfold valI at h1
    rw [List.length_map] at h1
    omega)
  clear hI hP c1 hlo hC ha ha' hx hjl hys
  refine callsIn_of_wp_marks Try.func27 rfl trivial ?_ rfl
  simp only [Try.ntmps27, List.size_toArray, List.length_cons, List.length_nil, Nat.reduceAdd, Nat.reduceSub, Array.replicate_succ, Array.replicate_zero, List.push_toArray, List.append_toArray, List.nil_append, List.cons_append]
  gi_wp2_with ((refine ⟨trivial, ?_⟩; gi_at_call 44; refine (callsIn_wide.2 (HH.out _)).mono ?_; rintro e w1 ⟨rfl, hb⟩; have HB := Lib.hid hb; clear hb))
  have hmix : Try.prog.follows .mixedOrders = true := by kernel_rfl
  generalize hU : World.alloc w1 _ = U
  have hOw1 : On w w1 := below_then (On.alloc (On.alloc (On.refl w) _) _) HB.out
  have HOU := Lib.hid (show On w U by rw [← hU]; exact On.alloc hOw1 _)
  have hB1 : BoxN w1 w.heap.size 53 [.slice A n c, .slice (some ⟨b1, o1, none⟩) m d] := ((BoxN.new w _ _).alloc _).below HB.out (by simp only [World.size_alloc]; omega)
  have HBX := Lib.hid (show BoxN U w.heap.size 53 [.slice A n c, .slice (some ⟨b1, o1, none⟩) m d] by rw [← hU]; exact hB1.alloc _)
  have hB2 : Boxed w1 (w.heap.size + 1) 55 (.func (.func 26) #[] #[.pointer (some ⟨pp, 0, none⟩), .pointer (some ⟨qq, 0, none⟩)]) := (HB.out.block (w.heap.size + 1) (by simp)).trans (by
    have := Boxed.new (w.alloc (.cells #[.slice A n c, .slice (some ⟨b1, o1, none⟩) m d] 53)) 55 (.func (.func 26) #[] #[.pointer (some ⟨pp, 0, none⟩), .pointer (some ⟨qq, 0, none⟩)])
    rwa [World.size_alloc] at this)
  have HBF := Lib.hid (show Boxed U (w.heap.size + 1) 55 (.func (.func 26) #[] #[.pointer (some ⟨pp, 0, none⟩), .pointer (some ⟨qq, 0, none⟩)]) by rw [← hU]; exact hB2.alloc _)
  obtain ⟨D, hD⟩ : ∃ D, w1.heap.size = D := ⟨_, rfl⟩
  rw [hD]
  have HBD := Lib.hid (show Boxed U D 23 (.slice none 0 0) by rw [← hU, ← hD]; exact Boxed.new w1 _ _)
  have hDw : w.heap.size + 2 ≤ D := by rw [← hD]; have := HB.out.size; simp at this; omega
  have hUD : D < U.heap.size := HBD.out.lt
  clear hU hOw1 hB1 hB2 HB hD
  have q0 := HBX.out.cell (j := 0) rfl
  have q1 := HBX.out.cell (j := 1) rfl
  have q2 := HC1.out U HOU.out
  refine wpIn_mono (Q := Only16 (fun a' w2 => ∃ (X : Nat) (A5 : Option Addr) (m5 c5 : Nat), a' = { tmps := #[.agg #[.slice A n c, .slice (some ⟨b1, o1, none⟩) m d], .int .i64 (i : Int), .func (.func 26) #[] #[.pointer (some ⟨pp, 0, none⟩), .pointer (some ⟨qq, 0, none⟩)], .pointer (some ⟨w.heap.size, 0, none⟩), undef, .pointer (some ⟨w.heap.size + 1, 0, none⟩), .slice none 0 0, .pointer (some ⟨D, 0, none⟩), undef, .agg #[.slice A n c, .slice (some ⟨b1, o1, none⟩) m d], .int .i64 (i : Int), .bool true, .bool false, .pointer (some ⟨w.heap.size, 0, none⟩), .slice A n c, .pointer (some ⟨w.heap.size, 1, none⟩), .slice (some ⟨b1, o1, none⟩) m d, .int .i64 (i : Int), .pointer (some ⟨b1, o1 + i, none⟩), .int .i64 (j : Int), .func (.func 75) #[] #[.pointer (some ⟨X, 0, none⟩)], undef, undef, undef, undef, undef, undef, undef, undef, undef], defers := [] } ∧ U.heap.size ≤ X ∧ w2.heap[X]? = some (.cells #[.slice A5 m5 c5] 23) ∧ w2.ownsRow U.heap.size 3 1 (.slice A5 m5 c5) m5 ((valI ys).map (Value.int .i64)) ∧ On U w2)) ?_ (only16_to ?_)
  · rw [← HAB.out]
    gi_region_with_o (refine ⟨trivial, ?_⟩; gi_at_call 45; refine (callsIn_wide.2 (kabove_to (HP.out.below (On.drew HOU.out)))).mono ?_; rintro e w2 ⟨X, A5, m5, c5, rfl, hX1, hX2, hX3, hX4⟩)
    all_goals exact ⟨X, A5, m5, c5, rfl, by simpa using hX1, hX2, by simpa using hX3, (On.drew (On.refl U)).step hX4⟩
  rintro a' w2 ⟨X, A5, m5, c5, rfl, hX1, hX2, hX3, hX4⟩
  clear q0 q1 q2
  have hOw2 : On w w2 := below_then HOU.out hX4
  have hUw : U.heap.size ≤ w2.heap.size := hX4.size
  have HCF := Lib.hid (show Boxed w2 (w.heap.size + 1) 55 (.func (.func 26) #[] #[.pointer (some ⟨pp, 0, none⟩), .pointer (some ⟨qq, 0, none⟩)]) from (hX4.block _ HBF.out.lt).trans HBF.out)
  have hBD2 : Boxed w2 D 23 (.slice none 0 0) := (hX4.block _ HBD.out.lt).trans HBD.out
  have hm5 : m5 ≤ 100000 := by
    have h1 := hX3.1
    have h2 := HYL.out
    unfold valI at h1
    simp at h1
    omega
  have HST := Lib.hid (values_stops (N := L.length) X w2 (ys := ys) (A := A5) (m := m5) (c := c5) hm5 (Keep16 w2 D) (fun Y Z => Keep16 w2 D Y → Keep16 w2 D Z)
    (fun V hV => ⟨(hV.boxed (by omega) (show Boxed w2 X 23 (.slice A5 m5 c5) from hX2)).cell, (ownsRow_cells (hV.owns hUD hX3)).ints⟩) (fun Y Z h k => k h) (fun V hV => (Keep16.refl w2 D).on hV))
  have HOW := Lib.hid hOw2
  have hI0 : AroI (N := L.length) w w2 D p [] w2 := ⟨⟨_, hBD2, World.ownsRow_nil _ _ _ _, trivial⟩, hOw2, Keep16.refl _ _⟩
  have hww2 : w.heap.size ≤ w2.heap.size := hOw2.size
  have hDw2 : D < w2.heap.size := by omega
  clear hX2 hX3 hX4 hOw2 hBD2 HBF HBD HBX
  gi_wp2_with (fail)
  refine wpIn_rangeFunc_ownF (F := Fence.wide) rfl (by omega) (gf := 75) (lb := #[.pointer (some ⟨X, 0, none⟩)]) rfl trivial (enters_of Try.func75 (by kernel_rfl) rfl)
    (HST.out 8) (fun h k g => k (h g)) (fun W l o o' hl ho hc hw g => g.put hl o') (Below.refl _ _) (fun _ => rfl) (AroI w w2 D p) (fun _ _ _ => False) (aroI_own hww2) (fun _ _ _ _ _ hs _ _ => hs) hI0
    (fun x => { tmps := #[.agg #[.slice A n c, .slice (some ⟨b1, o1, none⟩) m d], .int .i64 (i : Int), .func (.func 26) #[] #[.pointer (some ⟨pp, 0, none⟩), .pointer (some ⟨qq, 0, none⟩)], .pointer (some ⟨w.heap.size, 0, none⟩), undef, .pointer (some ⟨w.heap.size + 1, 0, none⟩), .slice none 0 0, .pointer (some ⟨D, 0, none⟩), .int .i64 ((x.1 : Nat) : Int), .agg #[.slice A n c, .slice (some ⟨b1, o1, none⟩) m d], .int .i64 (i : Int), .bool true, .bool false, .pointer (some ⟨w.heap.size, 0, none⟩), .slice A n c, .pointer (some ⟨w.heap.size, 1, none⟩), .slice (some ⟨b1, o1, none⟩) m d, .int .i64 (i : Int), .pointer (some ⟨b1, o1 + i, none⟩), .int .i64 (j : Int), .func (.func 75) #[] #[.pointer (some ⟨X, 0, none⟩)], .int .i64 ((x.1 : Nat) : Int), undef, undef, undef, undef, undef, undef, undef, undef], defers := [] }) ?assign ?body ?done ?stop
  case assign =>
    intro l x W K hK
    gi_wp2
    exact hK
  case body =>
    rintro l pre x W ⟨⟨v, hv, hrow, _⟩, hB, hKp⟩ hlt
    have hfl := found_len p pre
    have hcf := (hKp.boxed (by omega) HCF.out).cell
    obtain ⟨z, hz⟩ : ∃ z : Int, ((x.1 : Nat) : Int) = z := ⟨_, rfl⟩
    have HCL := Lib.hid (HC.out W x.1 hB x.2)
    have HFS := Lib.hid (found_snoc p pre x)
    have HBW := Lib.hid hB
    have HKW := Lib.hid hKp
    have HVW := Lib.hid hv
    have HRW := Lib.hid hrow
    rw [hz] at HCL HFS
    try dsimp only
    rw [hz]
    clear hB hKp hv hrow hz
    rcases hpx : p x.1 with _ | _
    · rw [hpx] at HCL HFS
      clear hpx
      gi_wp2_with (refine ⟨trivial, ?_⟩; gi_at_call 26; refine (CallsIn.inRound l (callsIn_wide.2 HCL.out)).mono ?_; rintro e w4 ⟨rfl, hb4⟩)
      refine ⟨keeps_below16 hb4, fun g => g.on hb4, ⟨v, (hb4.block _ HVW.out.lt).trans HVW.out, ?_, trivial⟩, below_of16 HBW.out hb4, HKW.out.on hb4⟩
      rw [HFS.out]
      simpa using owns_below HRW.out hb4
    · rw [hpx] at HCL HFS
      clear hpx
      obtain ⟨fl, hflq⟩ : ∃ fl, (found16 p pre).length = fl := ⟨_, rfl⟩
      rw [hflq] at HRW hfl
      have HFQ := Lib.hid hflq
      clear hflq
      gi_wp2_with (first
        | (refine ⟨trivial, ?_⟩; gi_at_call 26; refine (CallsIn.inRound l (callsIn_wide.2 HCL.out)).mono ?_; rintro e w4 ⟨rfl, hb4⟩; have hv4 : Boxed w4 D 23 v := (hb4.block _ HVW.out.lt).trans HVW.out; have hrow4 := owns_below HRW.out hb4; have hc4 := hv4.cell; have hws : w2.heap.size ≤ w4.heap.size := Nat.le_trans HKW.out.1 hb4.size)
        | (gi_at_builtin; refine wpListIn_append_own _ rfl _ _ 23 rfl w2.heap.size 3 i0 (.int .i64 0) 1 8 Try.underlying23 hi0' hz0 hz1 hz2 rfl (by decide) _ _ _ rfl (hrow4.alloc _) ⟨w4.heap.size, 0, none⟩ 1 1 [.int .i64 z] rfl rfl (cell_one_new _ _ _) (by simp [Value.oneCell']) (by simp [maxLen]; omega) (by omega) (by simp; omega) ?_; intro v' w5 hown' hgrow _; obtain ⟨g', cap', rfl⟩ := ownsRow_succ hown'; obtain ⟨hv1, hv2, _, hk2, _⟩ := hv4.appended (by decide) (owns_base16 hrow4 (b2 := D) (by omega)) (by omega) (Nat.le_refl _) (owns_base16 hown' (b2 := D) (by omega)) hgrow; have hc1 := hv1.cell; have hf1 := hv1.frozen))
      have hbk := owns_block hrow4
      have hKe : ∀ {Y : World}, Keep16 w2 D Y → Below Y.heap.size Y w4 → Keep16 w2 D (w5.setCell ⟨D, 0, none⟩ (.slice (some ⟨g', 0, none⟩) (fl + 1) cap')) := fun {Y} g hb => (((g.on hb).on (On.alloc (On.refl w4) _)).grown hgrow (fun r e => hbk r e)).set 0 _
      have hBe : Below w.heap.size w (w5.setCell ⟨D, 0, none⟩ (.slice (some ⟨g', 0, none⟩) (fl + 1) cap')) := On.set (below_grown16 (On.alloc (below_of16 HBW.out hb4) _) hgrow (fun r e => by have := hbk r e; omega)) (by omega) _
      refine ⟨(keeps_below16 hb4).trans hk2, fun g => hKe g hb4, ⟨_, hv2, ?_, trivial⟩, hBe, hKe HKW.out hb4⟩
      rw [HFS.out]
      rw [if_pos trivial, List.length_append, List.map_append, HFQ.out]
      exact owns_set hown' (by omega) 0 _
  case done =>
    rintro D2 xs W hD2 rfl ⟨⟨v, hv, hrow, _⟩, hB, hKp⟩ hK
    obtain ⟨A6, c6, rfl⟩ := ownsRow_form hrow
    have hc := hv.cell
    have HRO := Lib.hid hrow
    clear hrow
    gi_wp2
    refine ⟨by simp, .inl ⟨_, _, rfl, run_takeDeferred hK, ?_⟩⟩
    refine ⟨_, results_tmp rfl _ _ _, A6, _, c6, rfl, ?_, hB.grown (grownBy_putObj' _ _ _) (by have := hB.size; omega) (fun k e => by cases e; omega)⟩
    have := owns_base16 (ownsRow_putObj HRO.out (.deferred none) hK rfl) (b2 := w.heap.size) hww2
    rw [found_all p HYS.out] at this
    simpa [found_all p HYS.out] using this
  case stop =>
    rintro D2 c2 pre W _ _ h _
    exact h.elim
theorem karoundB_to {L : List Nd} {of : List Int} (h : KinOk L of) {i j : Nat} {p : Nat → Bool} {pp qq : Nat} (ha : of[i]? = some (j : Int)) {A B : Option Addr} {n c m d : Nat} {w : World} (hP : PreV L w A n) (hI : Ints w B m of) (hm : m ≤ 1000000)
    (hC : ∀ (V : World) (b : Nat), On w V → b < L.length → Calls Try.prog 26 #[.int .i64 (b : Int), .pointer (some ⟨pp, 0, none⟩), .pointer (some ⟨qq, 0, none⟩)] V fun e w' => e = .returned (.bool (p b)) ∧ Below V.heap.size V w') :
    Calls Try.prog 27 #[.agg #[.slice A n c, .slice B m d], .int .i64 (i : Int), .func (.func 26) #[] #[.pointer (some ⟨pp, 0, none⟩), .pointer (some ⟨qq, 0, none⟩)]] w (IntsOut w (((aboveP L j).filter p).map fun b : Nat => (b : Int))) :=
  callsIn_wide.1 (karoundB_in h ha hP hI hm hC)
end Go.Proofs.Ytamakeogaipdiaa
