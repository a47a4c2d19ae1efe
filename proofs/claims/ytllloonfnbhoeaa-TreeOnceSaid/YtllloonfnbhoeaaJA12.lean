import Derived.Test.YtllloonfnbhoeaaJA08
import Derived.Deep.MidRow
import Derived.Test.YtllloonfnbhoeaaJA01
import Derived.BigQuiet
import Derived.Test.YtllloonfnbhoeaaJA02
import Derived.Test.YtllloonfnbhoeaaJA09
import Derived.Deep.LoopGhost
import Derived.BigRegion
/- The document's Same: rows of nodes compared. (Written by program: tools/drafts/gensame.py.) -/
namespace Go.Proofs.Ytllloonfnbhoeaa
open Go.RowKit
set_option linter.unusedVariables false
set_option linter.unusedSimpArgs false
theorem rndone_to {m1 m2 : NdM} {x1 x2 : Nd} {v : Bool} (hv : ndB x1 x2 = v) (w : World) (h1 : Shows w m1 x1) (h2 : Shows w m2 x2) : Calls Try.prog 36 #[.agg (encM m1).toArray, .agg (encM m2).toArray] w fun e w' => e = .returned (.bool v) ∧ Below w.heap.size w w' := by
  subst hv; exact rndone_any m1 m2 x1 x2 w h1 h2
set_option maxHeartbeats 4000000 in
set_option maxRecDepth 100000 in
theorem rsame_any (a b : List Nd) (A B : Option Addr) (n m ca cb : Nat) (w : World) (ha : Sees w A n a) (hb : Sees w B m b) : Calls Try.prog 14 #[.slice A n ca, .slice B m cb] w fun e w' => e = .returned (.bool (ndsB a b)) ∧ Below w.heap.size w w' := by
  have hn := ha.bound
  have hm := hb.bound
  have hla := ha.len
  have hlb := hb.len
  by_cases hnm : n = m
  rotate_left
  · have HV := Lib.hid (ndsB_len (a := a) (b := b) (by omega))
    have h1 : ((n : Int) != (m : Int)) = true := by simp; omega
    clear ha hb hla hlb
    go_enter Try.func14, Try.ntmps14
    go_wp2_with fail
    go_ret
    exact ⟨ret_bool (by rw [HV.out]), Below.refl _ _⟩
  subst hnm
  have HA := Lib.hid ha
  have HB := Lib.hid hb
  have h1 : ((n : Int) != (n : Int)) = false := by simp
  clear ha hb
  go_enter Try.func14, Try.ntmps14
  go_wp2_with fail
  go_loopw [5] (fun i wr => ∃ k : Nat, k ≤ n ∧ i = .int .i64 k ∧ (∀ j, j < k → a[j]? = b[j]?) ∧ On w wr) (fun i _ => n - (intOf i).toNat)
  case atStart => exact ⟨0, by omega, rfl, fun j hj => by omega, On.refl w⟩
  case round =>
    obtain ⟨k, hk, rfl, hall, hon⟩ := hrel
    have HL := Lib.hid hall
    have HO := Lib.hid hon
    clear hall hon
    by_cases hlt : k < n
    · obtain ⟨b1, o1, m1, x1, rfl, hb1, e1, r1, s1⟩ := (HA.out.on HO.out).at_ hlt
      obtain ⟨b2, o2, m2, x2, rfl, hb2, e2, r2, s2⟩ := (HB.out.on HO.out).at_ hlt
      have hk2 : (k : Int) < (n : Int) := by omega
      have R1 := Lib.hid (range_on r1)
      have R2 := Lib.hid (range_on r2)
      have S1 := Lib.hid s1
      have S2 := Lib.hid s2
      have E1 := Lib.hid e1
      have E2 := Lib.hid e2
      obtain ⟨v, hv⟩ : ∃ v, ndB x1 x2 = v := ⟨_, rfl⟩
      have HV := Lib.hid hv
      clear r1 r2 s1 s2 e1 e2 hv
      go_wp2_with fail
      refine wp_region_held (S := fun W' => On wr W') (by kernel_rfl) ?_
      show wpAnyH _ _ _ _ _ _ _ _ wr.drew
      have h0 : On wr wr.drew := (On.refl wr).drew
      refine wpAnyH_take (i := 0) (v := ?_) rfl (by kernel_rfl) (by kernel_rfl) (by kernel_rfl) (fun _ _ _ h => h) (Or.inl ⟨by rfl, ?_⟩) h0 ?_
      rotate_left
      · intro w hSw; (try dsimp only at hSw); go_simp; with_reducible rfl
      try simp only [Act.put, List.getElem_toArray, List.getElem_cons_succ, List.getElem_cons_zero, List.setIfInBounds_toArray, List.set_cons_zero, List.set_cons_succ]
      refine wpAnyH_take (i := 1) (v := ?_) rfl (by kernel_rfl) (by kernel_rfl) (by kernel_rfl) (fun _ _ _ h => h) (Or.inl ⟨by rfl, ?_⟩) h0 ?_
      rotate_left
      · intro w hSw; (try dsimp only at hSw); go_simp; with_reducible rfl
      try simp only [Act.put, List.getElem_toArray, List.getElem_cons_succ, List.getElem_cons_zero, List.setIfInBounds_toArray, List.set_cons_zero, List.set_cons_succ]
      refine wpAnyH_take (i := 2) (v := ?_) rfl (by kernel_rfl) (by kernel_rfl) (by kernel_rfl) (fun _ _ _ h => h) (Or.inl ⟨by rfl, ?_⟩) h0 ?_
      rotate_left
      · intro w hSw; (try dsimp only at hSw); go_simp; with_reducible rfl
      try simp only [Act.put, List.getElem_toArray, List.getElem_cons_succ, List.getElem_cons_zero, List.setIfInBounds_toArray, List.set_cons_zero, List.set_cons_succ]
      refine wpAnyH_take (i := 3) (v := ?_) rfl (by kernel_rfl) (by kernel_rfl) (by kernel_rfl) (fun _ _ _ h => h) ?_ h0 ?_
      rotate_left
      · refine yieldsIf_load_mid ?_ 41 (.tmp 19) ?_ b1 (o1 + k * 20) ?_ (encM m1) _ R1.out Try.underlying41 rfl (by kernel_rfl) <;> rfl
      try simp only [Act.put, List.getElem_toArray, List.getElem_cons_succ, List.getElem_cons_zero, List.setIfInBounds_toArray, List.set_cons_zero, List.set_cons_succ]
      refine wpAnyH_take (i := 4) (v := ?_) rfl (by kernel_rfl) (by kernel_rfl) (by kernel_rfl) (fun _ _ _ h => h) (Or.inl ⟨by rfl, ?_⟩) h0 ?_
      rotate_left
      · intro w hSw; (try dsimp only at hSw); go_simp; with_reducible rfl
      try simp only [Act.put, List.getElem_toArray, List.getElem_cons_succ, List.getElem_cons_zero, List.setIfInBounds_toArray, List.set_cons_zero, List.set_cons_succ]
      refine wpAnyH_take (i := 5) (v := ?_) rfl (by kernel_rfl) (by kernel_rfl) (by kernel_rfl) (fun _ _ _ h => h) (Or.inl ⟨by rfl, ?_⟩) h0 ?_
      rotate_left
      · intro w hSw; (try dsimp only at hSw); go_simp; with_reducible rfl
      try simp only [Act.put, List.getElem_toArray, List.getElem_cons_succ, List.getElem_cons_zero, List.setIfInBounds_toArray, List.set_cons_zero, List.set_cons_succ]
      refine wpAnyH_take (i := 6) (v := ?_) rfl (by kernel_rfl) (by kernel_rfl) (by kernel_rfl) (fun _ _ _ h => h) (Or.inl ⟨by rfl, ?_⟩) h0 ?_
      rotate_left
      · intro w hSw; (try dsimp only at hSw); go_simp; with_reducible rfl
      try simp only [Act.put, List.getElem_toArray, List.getElem_cons_succ, List.getElem_cons_zero, List.setIfInBounds_toArray, List.set_cons_zero, List.set_cons_succ]
      refine wpAnyH_take (i := 7) (v := ?_) rfl (by kernel_rfl) (by kernel_rfl) (by kernel_rfl) (fun _ _ _ h => h) ?_ h0 ?_
      rotate_left
      · refine yieldsIf_load_mid ?_ 41 (.tmp 23) ?_ b2 (o2 + k * 20) ?_ (encM m2) _ R2.out Try.underlying41 rfl (by kernel_rfl) <;> rfl
      try simp only [Act.put, List.getElem_toArray, List.getElem_cons_succ, List.getElem_cons_zero, List.setIfInBounds_toArray, List.set_cons_zero, List.set_cons_succ]
      refine wpAnyH_ready (rs := [8]) (by kernel_rfl) (by simp) ?_
      refine AllReadyH.cons rfl (fun K hK => ?_) AllReadyH.nil
      go_simp
      refine (rndone_to HV.out _ (S1.out.below h0) (S2.out.below h0)).mono ?_
      rintro e w5 ⟨rfl, hb5⟩
      refine hK.out _ _ (On.step h0 hb5) (fun h1 => ?_)
      clear hK K
      try simp only [Act.put, List.getElem_toArray, List.getElem_cons_succ, List.getElem_cons_zero, List.setIfInBounds_toArray, List.set_cons_zero, List.set_cons_succ]
      refine wpAnyH_take (i := 9) (v := ?_) rfl (by kernel_rfl) (by kernel_rfl) (by kernel_rfl) (fun _ _ _ h => h) (Or.inl ⟨by rfl, ?_⟩) h1 ?_
      rotate_left
      · intro w hSw; (try dsimp only at hSw); go_simp; with_reducible rfl
      try simp only [Act.put, List.getElem_toArray, List.getElem_cons_succ, List.getElem_cons_zero, List.setIfInBounds_toArray, List.set_cons_zero, List.set_cons_succ]
      refine wpAnyH_done (by kernel_rfl) ?_ _
      have HO5 := Lib.hid (below_then HO.out h1)
      clear h0 h1 hb5
      cases v with
      | true =>
        have hxx := (ndB_iff x1 x2).1 HV.out
        subst hxx
        go_wp2_with fail
        go_roundw
        case rel => exact ⟨k + 1, by omega, by go_num, fun j hj => by
          by_cases e : j = k
          · subst e; rw [E1.out, E2.out]
          · exact HL.out j (by omega), HO5.out⟩
        case measure => simp [intOf]; omega
      | false =>
        have HW := Lib.hid (ndsB_ne E1.out E2.out (fun e => by have := (ndB_iff x1 x2).2 e; rw [HV.out] at this; cases this))
        go_wp2_with fail
        go_ret
        exact ⟨ret_bool (by rw [HW.out]), HO5.out⟩
    · have HW := Lib.hid (ndsB_all (a := a) (b := b) (by omega) (fun j hj => HL.out j (by omega)))
      go_wp2_with fail
      go_ret
      exact ⟨ret_bool (by rw [HW.out]), HO.out⟩
end Go.Proofs.Ytllloonfnbhoeaa
/- The program's package valid: the row of what is open. -/
namespace Go.Proofs.Ytllloonfnbhoeaa
open Go.RowKit
set_option linter.unusedVariables false
set_option linter.unusedSimpArgs false
def cntL (s : Sm) (A : Option Addr) (k c : Nat) : List Value := [.int .i64 s.depth, .int .i64 s.pieces, .int .i64 s.nodes, .int .i64 s.heights, .slice A k c]
/-- what has been counted lies in block D; what is open in a row of the call's own. -/
structure Cnt (base D : Nat) (w : World) (s : Sm) (A : Option Addr) (k c : Nat) (es : List Int) : Prop where
  blk : Blk w D 66 (cntL s A k c)
  row : w.ownsRow base 3 1 (.slice A k c) k (es.map (Value.int .i64))
theorem Cnt.len {base D : Nat} {w : World} {s : Sm} {A : Option Addr} {k c : Nat} {es : List Int} (h : Cnt base D w s A k c es) : es.length = k := by
  have := h.row.1
  simpa using this
theorem Cnt.ints {base D : Nat} {w : World} {s : Sm} {A : Option Addr} {k c : Nat} {es : List Int} (h : Cnt base D w s A k c es) : Ints w A k es := (ownsRow_cells h.row).ints
theorem Cnt.on {base D : Nat} {w w' : World} {s : Sm} {A : Option Addr} {k c : Nat} {es : List Int} (h : Cnt base D w s A k c es) (hb : On w w') : Cnt base D w' s A k c es := ⟨h.blk.on hb, owns_below h.row hb⟩
theorem Cnt.cap {base D : Nat} {w : World} {s : Sm} {A : Option Addr} {k c : Nat} {es : List Int} (h : Cnt base D w s A k c es) : k ≤ c ∧ c ≤ 9223372036854775807 := by
  rcases h.row.2 with ⟨h1, h2⟩ | ⟨g, cap, cur, h1, _, _, h2, h3, _⟩
  · injection h1 with _ h1 h3; omega
  · injection h1 with _ _ h1
    unfold maxLen at h3
    omega
/-- only block D has turned. -/
structure OnlyAt (D : Nat) (w w' : World) : Prop where
  below : Below D w w'
  size : w'.heap.size = w.heap.size
  block : ∀ k, k ≠ D → w'.heap[k]? = w.heap[k]?
theorem OnlyAt.refl (D : Nat) (w : World) : OnlyAt D w w := ⟨Below.refl _ _, rfl, fun _ _ => rfl⟩
theorem OnlyAt.drewN {D : Nat} {w w' : World} (h : OnlyAt D w w') (n : Nat) : OnlyAt D w (w'.drewN n) := ⟨below_drewN h.below n, h.size, h.block⟩
theorem OnlyAt.drew {D : Nat} {w w' : World} (h : OnlyAt D w w') : OnlyAt D w w'.drew := ⟨h.below.drew, h.size, h.block⟩
theorem OnlyAt.set {D : Nat} {w w' : World} (h : OnlyAt D w w') (j : Nat) (v : Value) : OnlyAt D w (w'.setCell ⟨D, j, none⟩ v) :=
  ⟨h.below.setCell (Nat.le_refl _) v, by simp [h.size], fun k hk => (Below.heap_setCell _ _ _ _ hk).trans (h.block k hk)⟩
theorem OnlyAt.blk {D g : Nat} {w w' : World} {t : TypeId} {vs : List Value} (h : OnlyAt D w w') (hg : g ≠ D) (hb : Blk w g t vs) : Blk w' g t vs := (h.block g hg).trans hb
theorem owns_only {D base : Nat} {w w' : World} {e t : TypeId} {size : Nat} {v : Value} {n : Nat} {xs vs : List Value} (h : w.ownsRow base e size v n xs) (ho : OnlyAt D w w') (hD : Blk w D t vs) (ht : e ≠ t) : w'.ownsRow base e size v n xs := by
  refine ⟨h.1, ?_⟩
  rcases h.2 with h2 | ⟨g, cap, cur, h1, h2, h3, h4⟩
  · exact .inl h2
  · refine .inr ⟨g, cap, cur, h1, h2, (ho.block g (fun e => ?_)).trans h3, h4⟩
    subst e
    rw [show w.heap[g]? = _ from hD] at h3
    injection h3 with h3
    injection h3 with _ h3 _
    exact ht h3.symm
theorem owns_take {base : Nat} {w : World} {e : TypeId} {A : Option Addr} {n c : Nat} {xs : List Value} (h : w.ownsRow base e 1 (.slice A n c) n xs) {k : Nat} (hk : k ≤ n) : w.ownsRow base e 1 (.slice A k c) k (xs.take k) := by
  have hl := h.1
  refine ⟨by rw [List.length_take]; omega, ?_⟩
  rcases h.2 with ⟨h1, h2⟩ | ⟨g, cap, cur, h1, h2, h3, h4, h5, h6, h7⟩
  · injection h1 with h1 _ h3
    subst h1 h3
    obtain rfl : k = 0 := by omega
    exact .inl ⟨rfl, rfl⟩
  · injection h1 with h1 _ h8
    subst h1 h8
    refine .inr ⟨g, c, cur, rfl, h2, h3, by omega, h5, h6, ?_⟩
    rw [← h7, List.take_take]
    congr 1
    omega
theorem Cnt.below {base D : Nat} {w w' : World} {s : Sm} {A : Option Addr} {k c : Nat} {es : List Int} (h : Cnt base D w s A k c es) (hb : Below w.heap.size w w') : Cnt base D w' s A k c es := h.on hb
theorem pend_any (base D : Nat) (w : World) (s : Sm) (A : Option Addr) (k c : Nat) (es : List Int) (z : Int) (h : Cnt base D w s A (k + 1) c es) (hz : es[k]? = some z) : Calls Try.prog 54 #[.pointer (some ⟨D, 0, none⟩)] w fun e w' => e = .returned (.int .i64 z) ∧ ∃ q, w' = w.drewN q := by
  have hI := h.ints
  obtain ⟨b1, o1, rfl, hc1⟩ := hI.at_ (Nat.lt_succ_self k)
  rw [show es[k]?.getD 0 = z by rw [hz]; rfl] at hc1
  have c4 := h.blk.box.2.2 4 _ rfl
  have hcap := h.cap
  have hk : k + 1 ≤ 9223372036854775807 := by omega
  clear h hI hz hcap
  go_enter Try.func54, Try.ntmps54
  go_wp2_with fail
  go_quiet (fail)
  go_wp2_with fail
  go_ret
  exact ⟨rfl, _, rfl⟩
theorem pend_to {base D : Nat} {w : World} {s : Sm} {A : Option Addr} {k c : Nat} {es : List Int} {z : Int} (h : Cnt base D w s A (k + 1) c es) (hz : es[k]? = some z) : Calls Try.prog 54 #[.pointer (some ⟨D, 0, none⟩)] w fun e w' => e = .returned (.int .i64 z) ∧ ∃ q, w' = w.drewN q := pend_any base D w s A k c es z h hz
theorem Cnt.drewN {base D : Nat} {w : World} {s : Sm} {A : Option Addr} {k c : Nat} {es : List Int} (h : Cnt base D w s A k c es) (q : Nat) : Cnt base D (w.drewN q) s A k c es := h.on (below_drewN (Below.refl _ _) q)
set_option maxHeartbeats 4000000 in
theorem pleave_any (base D : Nat) (w : World) (s : Sm) (A : Option Addr) (c : Nat) (ks : List Int) (i z : Int) (m : Nat) (h : Cnt base D w s A (ks.length + m) c (ks ++ List.replicate m i)) (hz : ks.getLast? = some z) (hne : z ≠ i) :
    Calls Try.prog 52 #[.pointer (some ⟨D, 0, none⟩), .int .i64 i] w fun e w' => e = .returned (.tuple #[]) ∧ Cnt base D w' s A ks.length c ks ∧ OnlyAt D w w' := by
  have H := Lib.hid h
  have HZ := Lib.hid hz
  have HN := Lib.hid hne
  clear h hz hne
  go_enter Try.func52, Try.ntmps52
  go_wp2_with fail
  go_loopg [] m (fun k wr => k ≤ m ∧ Cnt base D wr s A (ks.length + k) c (ks ++ List.replicate k i) ∧ OnlyAt D w wr)
  case atStart => exact ⟨Nat.le_refl _, H.out, OnlyAt.refl _ _⟩
  case round =>
    obtain ⟨hk, hC, hO⟩ := hrel
    have HC := Lib.hid hC
    have HO := Lib.hid hO
    clear hC hO
    cases gk with
    | zero =>
      obtain ⟨j, hj⟩ : ∃ j, ks.length = j + 1 := ⟨ks.length - 1, by
        have : ks ≠ [] := fun e => by rw [e] at HZ; cases HZ.out
        have := List.length_pos_iff.2 this
        omega⟩
      have hC := HC.out
      simp only [Nat.add_zero, List.replicate_zero, List.append_nil] at hC
      have HC1 := Lib.hid hC
      have hC2 : Cnt base D wr s A (j + 1) c ks := by rw [← hj]; exact hC
      have hz2 : ks[j]? = some z := by rw [← HZ.out, List.getLast?_eq_getElem?, hj]; rfl
      have HC2 := Lib.hid hC2
      have HZ2 := Lib.hid hz2
      have hzi : (z == i) = false := by simpa using HN.out
      clear hC hC2 hz2 hj
      go_wp2_with fail
      refine (pend_to HC2.out HZ2.out).mono ?_
      rintro e w1 ⟨rfl, q, rfl⟩
      go_wp2_with fail
      go_returns
      exact ⟨rfl, HC1.out.drewN q, HO.out.drewN q⟩
    | succ g =>
      obtain ⟨r, hr⟩ : ∃ r, ks.length + g = r := ⟨_, rfl⟩
      have hC2 : Cnt base D wr s A (r + 1) c (ks ++ List.replicate (g + 1) i) := by rw [← hr]; exact HC.out
      have hz2 : (ks ++ List.replicate (g + 1) i)[r]? = some i := by
        rw [List.getElem?_append_right (by omega), List.getElem?_replicate]
        rw [if_pos (by omega)]
      have HC2 := Lib.hid hC2
      have HZ2 := Lib.hid hz2
      have HR := Lib.hid hr
      clear hC2 hz2 hr
      go_wp2_with fail
      refine (pend_to HC2.out HZ2.out).mono ?_
      rintro e w1 ⟨rfl, q, rfl⟩
      have hC3 := HC2.out.drewN q
      have hO3 := HO.out.drewN q
      generalize wr.drewN q = V at hC3 hO3
      have c4 := hC3.blk.box.2.2 4 _ rfl
      have f4 := hC3.blk.box.2.1 4
      have hcap := hC3.cap
      have hlt := hC3.blk.box.1
      obtain ⟨hc1, hc2⟩ := hcap
      have HC3 := Lib.hid hC3
      have HO3 := Lib.hid hO3
      clear hC3 hO3
      go_wp2_with fail
      go_region
      go_wp2_with fail
      go_roundg g
      case rel =>
        have hO4 : OnlyAt D V (V.setCell ⟨D, 4, none⟩ (.slice A r c)).drew := ((OnlyAt.refl D V).set 4 _).drew
        refine ⟨by omega, ⟨?_, ?_⟩, (HO3.out.set 4 _).drew⟩
        · rw [HR.out]
          exact (HC3.out.blk.set 4 (.slice A r c)).drew
        · have h1 := owns_take HC3.out.row (Nat.le_succ r)
          have h2 := owns_only h1 hO4 HC3.out.blk (by decide)
          have e : ((ks ++ List.replicate (g + 1) i).map (Value.int .i64)).take r = (ks ++ List.replicate g i).map (Value.int .i64) := by
            rw [← List.map_take]
            congr 1
            rw [← HR.out, List.take_length_add_append, List.take_replicate]
            congr 2
            omega
          rw [e] at h2
          rw [HR.out]
          exact h2
      case measure => omega
end Go.Proofs.Ytllloonfnbhoeaa
/- The document's Own: nodes in memory of their own. (Written by program: tools/drafts/genown.py.) -/
namespace Go.Proofs.Ytllloonfnbhoeaa
open Go.RowKit
set_option linter.unusedVariables false
set_option linter.unusedSimpArgs false
theorem int_infoOwn : (Try.prog.info? 3).map (fun i => (i.zero, i.size, i.bytes)) = some (some (.int .i64 0), 1, 8) := by kernel_rfl
set_option maxHeartbeats 4000000 in
set_option maxRecDepth 100000 in
theorem rown_any (l : List Nd) (A : Option Addr) (n ca : Nat) (w : World) (hl : Sees w A n l) (hn : n ≤ 600000) (hW : ∀ x ∈ l, x.words.length ≤ 600000) : Calls Try.prog 8 #[.slice A n ca] w fun e w' => ∃ A' c', e = .returned (.slice A' n c') ∧ Nds w.heap.size w' A' n l ∧ Below w.heap.size w w' := by
  obtain ⟨j0, hj0, hy0, hy1, hy2⟩ := info_parts node_info5
  obtain ⟨i0, hi0, hz0, hz1, hz2⟩ := info_parts int_infoOwn
  have hla := hl.len
  have HA := Lib.hid hl
  have HWd := Lib.hid hW
  clear hl hW
  obtain ⟨D, hD⟩ : ∃ D, w.heap.size = D := ⟨_, rfl⟩
  rw [hD]
  go_enter Try.func8, Try.ntmps8
  go_wp2_with fail
  go_loopw [3, 4] (fun o i wr => ∃ (k c1 : Nat) (A1 : Option Addr) (zs : List NdM), k ≤ n ∧ i = .int .i64 k ∧ o = .slice A1 k c1 ∧ wr.ownsRow D 41 20 (.slice A1 k c1) k (zs.flatMap encM) ∧ Holds2 D wr zs (l.take k) ∧ On w wr) (fun _ i _ => n - (intOf i).toNat)
  case atStart => exact ⟨0, 0, none, [], by omega, rfl, rfl, owns_nil _ _ _ _, by simpa using Holds2.nil D w, On.refl w⟩
  case round =>
    obtain ⟨k, c1, A1, zs, hk, rfl, rfl, hown, hh, hon⟩ := hrel
    have HOw := Lib.hid hown
    have HH := Lib.hid hh
    have HO := Lib.hid hon
    have hsz := hon.size
    clear hown hh hon
    by_cases hlt : k < n
    · obtain ⟨b1, o1, m1, x1, rfl, hb1, e1, r1, s1⟩ := (HA.out.on HO.out).at_ hlt
      have hk2 : (k : Int) < (n : Int) := by omega
      have R1 := Lib.hid (range_on r1)
      have S1 := Lib.hid s1
      have E1 := Lib.hid e1
      have hwl : m1.n ≤ 600000 := by rw [← s1.2.1]; exact HWd.out _ (List.mem_of_getElem? e1)
      clear r1 s1 e1
      go_wp2_with (first | ((with_reducible refine stop_load 41 (.tmp 14) ?_ ?_); exact rfl; refine Stop.intro ?_; refine wpList_load_mid rfl 41 (.tmp 14) rfl b1 (o1 + k * 20) rfl (encM m1) _ (R1.out wr (On.refl wr)) Try.underlying41 rfl (by kernel_rfl) ?_) | ((with_reducible refine stop_store 41 (.tmp 5) (.tmp 15) ?_ ?_); exact rfl))
      refine Stop.intro ?_
      refine wpList_store_row rfl 41 (.tmp 5) (.tmp 15) rfl wr.heap.size rfl 41 #[.int .i64 0, .int .i64 0, .int .i64 0, .int .i64 0, .int .i64 0, .int .i64 0, .int .i64 0, .int .i64 0, .int .i64 0, .int .i64 0, .int .i64 0, .int .i64 0, .int .i64 0, .int .i64 0, .int .i64 0, .int .i64 0, .slice none 0 0, .int .i64 0, .int .i64 0, .int .i64 0] (encM m1).toArray rfl (Blk.new wr 41 [.int .i64 0, .int .i64 0, .int .i64 0, .int .i64 0, .int .i64 0, .int .i64 0, .int .i64 0, .int .i64 0, .int .i64 0, .int .i64 0, .int .i64 0, .int .i64 0, .int .i64 0, .int .i64 0, .int .i64 0, .int .i64 0, .slice none 0 0, .int .i64 0, .int .i64 0, .int .i64 0] _ rfl _ rfl) (by kernel_rfl) rfl (by rw [List.all_toArray]; exact List.all_eq_true.2 (encM_one m1)) ?_
      intro V hV
      have hVs : V.heap.size = wr.heap.size + 1 := by rw [hV, setRow_size]; simp
      have hbV : On wr V := by rw [hV]; exact below_setRow ((Below.refl _ _).alloc (Nat.le_refl _) _) (Nat.le_refl _) _
      have HK1 := Lib.hid (show Blk V wr.heap.size 41 (encM m1) by rw [hV]; exact Blk.row (Blk.new wr 41 [.int .i64 0, .int .i64 0, .int .i64 0, .int .i64 0, .int .i64 0, .int .i64 0, .int .i64 0, .int .i64 0, .int .i64 0, .int .i64 0, .int .i64 0, .int .i64 0, .int .i64 0, .int .i64 0, .int .i64 0, .int .i64 0, .slice none 0 0, .int .i64 0, .int .i64 0, .int .i64 0] _ rfl _ rfl) _ _ rfl)
      have x16 : V.cell? ⟨b1, o1 + k * 20 + 16, none⟩ = some (.slice m1.A m1.n m1.c) := R1.out V hbV 16 _ rfl
      clear hV
      go_wp2_with ((with_reducible refine stop_dst 22 ?_ ?_); exact rfl)
      refine Stop.intro ?_
      have hbU : On wr (V.alloc (.cells #[] 3)) := On.alloc hbV _
      have hO0 : (V.alloc (.cells #[] 3)).ownsRow (wr.heap.size + 1) 3 1 (.slice (some ⟨wr.heap.size + 1, 0, none⟩) 0 0) 0 [] := ⟨rfl, .inr ⟨wr.heap.size + 1, 0, #[], rfl, Nat.le_refl _, by rw [← hVs]; exact World.alloc_heap_new V _, Nat.le_refl _, Nat.zero_le _, rfl, rfl⟩⟩
      have hI := (S1.out.below hbU).2
      have hIc := hI.cells
      have hIl := hI.1
      have hUs : (V.alloc (.cells #[] 3)).heap.size = wr.heap.size + 2 := by simp; omega
      refine wpList_append_cells _ rfl (.tmp 16) (.tmp 21) _ rfl (wr.heap.size + 1) 3 i0 (.int .i64 0) 1 8 Try.underlying27 hi0 hz0 hz1 hz2 rfl (by decide) (.slice (some ⟨wr.heap.size + 1, 0, none⟩) 0 0) 0 _ rfl hO0 m1.A m1.n m1.c _ rfl hIc (by intro u hu; obtain ⟨z, _, rfl⟩ := List.mem_map.1 hu; rfl) (by unfold maxLen; omega) (by omega) (by rw [hUs]; omega) ?_
      intro A2 c2 V2 hown2 hg2
      rw [Nat.zero_add] at hown2
      have hV2s : wr.heap.size + 2 ≤ V2.heap.size := by rw [← hUs]; exact hg2.size
      have hbV2 : On wr V2 := hbU.grown hg2 (by rw [hUs]; omega) (fun r e => by cases e; simp only; omega)
      have hK2 : Blk V2 wr.heap.size 41 (encM m1) := (HK1.out.alloc _).grown hg2 (fun r e => by cases e; simp only; omega)
      let m2 : NdM := { m1 with A := A2, c := c2 }
      have hK3 : Blk (V2.setCell ⟨wr.heap.size, 16, none⟩ (.slice A2 m1.n c2)) wr.heap.size 41 (encM m2) := hK2.set 16 _
      have hb3 : On wr (V2.setCell ⟨wr.heap.size, 16, none⟩ (.slice A2 m1.n c2)) := Below.setCell hbV2 (p := ⟨wr.heap.size, 16, none⟩) (Nat.le_refl _) _
      have hw3 := owns_set hown2 (m := wr.heap.size) (by omega) 16 (.slice A2 m1.n c2)
      have f16 := hK2.box.2.1 16
      have g16 := hK2.box.2.2 16 _ rfl
      have HK3 := Lib.hid hK3
      have HB3 := Lib.hid hb3
      have HW3 := Lib.hid hw3
      clear hK2 hK3 hb3 hw3 hown2 hg2 hO0 hI hIc hbU hbV hbV2 HK1 x16
      simp only [Nat.zero_add]
      go_wp2_with (first | ((with_reducible refine stop_load 41 (.tmp 5) ?_ ?_); exact rfl; refine Stop.intro ?_; refine Go.Proofs.Ytllloonfnbhoeaa.wpList_load_row rfl 41 (.tmp 5) rfl (wr.heap.size) rfl 41 #[.int .i64 m1.kind, .int .i64 m1.size, .int .i64 m1.sty.top, .int .i64 m1.sty.bottom, .int .i64 m1.sty.padTop, .int .i64 m1.sty.padBottom, .int .i64 m1.sty.inset, .int .i64 m1.sty.orphans, .int .i64 m1.sty.widows, .int .i64 m1.sty.head, .int .i64 m1.sty.before, .int .i64 m1.sty.after, .int .i64 m1.sty.inside, .int .i64 m1.sty.clear, .int .i64 m1.line, .int .i64 m1.space, .slice A2 m1.n c2, .int .i64 m1.side, .int .i64 m1.w, .int .i64 m1.h] _ (HK3.out) Try.underlying41 rfl (by kernel_rfl) ?_) | ((with_reducible refine stop_dst 27 ?_ ?_); exact rfl))
      refine Stop.intro ?_
      have hV3s : (V2.setCell ⟨wr.heap.size, 16, none⟩ (.slice A2 m1.n c2)).heap.size = V2.heap.size := by simp
      have hO4 : ((V2.setCell ⟨wr.heap.size, 16, none⟩ (.slice A2 m1.n c2)).alloc (.cells #[.int .i64 m1.kind, .int .i64 m1.size, .int .i64 m1.sty.top, .int .i64 m1.sty.bottom, .int .i64 m1.sty.padTop, .int .i64 m1.sty.padBottom, .int .i64 m1.sty.inset, .int .i64 m1.sty.orphans, .int .i64 m1.sty.widows, .int .i64 m1.sty.head, .int .i64 m1.sty.before, .int .i64 m1.sty.after, .int .i64 m1.sty.inside, .int .i64 m1.sty.clear, .int .i64 m1.line, .int .i64 m1.space, .slice A2 m1.n c2, .int .i64 m1.side, .int .i64 m1.w, .int .i64 m1.h] 41)).ownsRow D 41 20 (.slice A1 k c1) k (zs.flatMap encM) := owns_below (owns_below HOw.out HB3.out) ((Below.refl _ _).alloc (Nat.le_refl _) _)
      have hb4 : On wr ((V2.setCell ⟨wr.heap.size, 16, none⟩ (.slice A2 m1.n c2)).alloc (.cells #[.int .i64 m1.kind, .int .i64 m1.size, .int .i64 m1.sty.top, .int .i64 m1.sty.bottom, .int .i64 m1.sty.padTop, .int .i64 m1.sty.padBottom, .int .i64 m1.sty.inset, .int .i64 m1.sty.orphans, .int .i64 m1.sty.widows, .int .i64 m1.sty.head, .int .i64 m1.sty.before, .int .i64 m1.sty.after, .int .i64 m1.sty.inside, .int .i64 m1.sty.clear, .int .i64 m1.line, .int .i64 m1.space, .slice A2 m1.n c2, .int .i64 m1.side, .int .i64 m1.w, .int .i64 m1.h] 41)) := On.alloc HB3.out _
      have hc4 : Cells ((V2.setCell ⟨wr.heap.size, 16, none⟩ (.slice A2 m1.n c2)).alloc (.cells #[.int .i64 m1.kind, .int .i64 m1.size, .int .i64 m1.sty.top, .int .i64 m1.sty.bottom, .int .i64 m1.sty.padTop, .int .i64 m1.sty.padBottom, .int .i64 m1.sty.inset, .int .i64 m1.sty.orphans, .int .i64 m1.sty.widows, .int .i64 m1.sty.head, .int .i64 m1.sty.before, .int .i64 m1.sty.after, .int .i64 m1.sty.inside, .int .i64 m1.sty.clear, .int .i64 m1.line, .int .i64 m1.space, .slice A2 m1.n c2, .int .i64 m1.side, .int .i64 m1.w, .int .i64 m1.h] 41)) (some ⟨V2.heap.size, 0, none⟩) 1 20 (encM m2) := by
        have h := ownsRow_cells (owns_one (w := V2.setCell ⟨wr.heap.size, 16, none⟩ (.slice A2 m1.n c2)) (e := 41) (size := 20) (base := 0) (encM m2) rfl (by decide) (Nat.zero_le _) (encM_one m2) _ rfl _ rfl)
        rw [hV3s] at h
        exact h
      have hw4 := owns_below HW3.out ((Below.refl _ _).alloc (Nat.le_refl _) (.cells #[.int .i64 m1.kind, .int .i64 m1.size, .int .i64 m1.sty.top, .int .i64 m1.sty.bottom, .int .i64 m1.sty.padTop, .int .i64 m1.sty.padBottom, .int .i64 m1.sty.inset, .int .i64 m1.sty.orphans, .int .i64 m1.sty.widows, .int .i64 m1.sty.head, .int .i64 m1.sty.before, .int .i64 m1.sty.after, .int .i64 m1.sty.inside, .int .i64 m1.sty.clear, .int .i64 m1.line, .int .i64 m1.space, .slice A2 m1.n c2, .int .i64 m1.side, .int .i64 m1.w, .int .i64 m1.h] 41))
      have hh4 := (HH.out.below HB3.out).below ((Below.refl _ _).alloc (Nat.le_refl _) (.cells #[.int .i64 m1.kind, .int .i64 m1.size, .int .i64 m1.sty.top, .int .i64 m1.sty.bottom, .int .i64 m1.sty.padTop, .int .i64 m1.sty.padBottom, .int .i64 m1.sty.inset, .int .i64 m1.sty.orphans, .int .i64 m1.sty.widows, .int .i64 m1.sty.head, .int .i64 m1.sty.before, .int .i64 m1.sty.after, .int .i64 m1.sty.inside, .int .i64 m1.sty.clear, .int .i64 m1.line, .int .i64 m1.space, .slice A2 m1.n c2, .int .i64 m1.side, .int .i64 m1.w, .int .i64 m1.h] 41))
      have hz4 := hO4.1
      rw [flat_len encM_len] at hz4
      refine wpList_append_cells _ rfl (.tmp 24) (.tmp 26) _ rfl D 41 j0 (.agg #[.int .i64 0, .int .i64 0, .int .i64 0, .int .i64 0, .int .i64 0, .int .i64 0, .int .i64 0, .int .i64 0, .int .i64 0, .int .i64 0, .int .i64 0, .int .i64 0, .int .i64 0, .int .i64 0, .int .i64 0, .int .i64 0, .slice none 0 0, .int .i64 0, .int .i64 0, .int .i64 0]) 20 176 Try.underlying22 hj0 hy0 hy1 hy2 rfl (by decide) (.slice A1 k c1) k _ rfl hO4 (some ⟨V2.heap.size, 0, none⟩) 1 1 _ rfl hc4 (encM_one m2) (by unfold maxLen; omega) (by omega) (by have := hb4.size; omega) ?_
      intro A5 c5 V5 hown5 hg5
      have hblk := owns_block hO4
      have hb5 : Below D w V5 := (HO.out.mono (by omega)).trans ((hb4.mono (by omega)).grown hg5 (by have := hb4.size; omega) (fun r e => hblk r e))
      have hh5 := hh4.grown hO4 (by decide) hg5
      have hw5 := owns_grown hw4 hO4 (by decide) hg5
      have hfl : (zs ++ [m2]).flatMap encM = zs.flatMap encM ++ encM m2 := by simp
      have HO5 := Lib.hid (show V5.ownsRow D 41 20 (.slice A5 (k + 1) c5) (k + 1) ((zs ++ [m2]).flatMap encM) by rw [hfl]; exact hown5)
      have hx2 : Holds D V5 m2 x1 := ⟨S1.out.1, by
        have := owns_up hw5 (base' := D) (by omega)
        exact this⟩
      have HH5 := Lib.hid (show Holds2 D V5 (zs ++ [m2]) (l.take (k + 1)) by
        have := hh5.append (Holds2.one hx2)
        rw [List.take_add_one, E1.out]
        exact this)
      have HB5 := Lib.hid (show On w V5 by rw [On, hD]; exact hb5)
      clear hO4 hb4 hc4 hw4 hh4 hz4 hown5 hg5 hblk hb5 hh5 hw5 hfl hx2
      go_wp2_with fail
      go_roundw
      case rel => exact ⟨k + 1, c5, A5, zs ++ [m2], by omega, by go_num, rfl, HO5.out, HH5.out, HB5.out⟩
      case measure => simp [intOf]; omega
    · have hk2 : (n : Int) ≤ (k : Int) := by omega
      obtain rfl : k = n := by omega
      go_wp2_with fail
      go_returns
      exact ⟨A1, c1, rfl, ⟨zs, ownsRow_rows encM_len (by decide) HOw.out, by have := HH.out; rw [List.take_of_length_le (by omega)] at this; exact this, Far.owns HOw.out⟩, by rw [← hD]; exact HO.out⟩
end Go.Proofs.Ytllloonfnbhoeaa
/- Contracts by value: rows of nodes compared. -/
namespace Go.Proofs.Ytllloonfnbhoeaa
open Go.RowKit
set_option linter.unusedVariables false
set_option linter.unusedSimpArgs false
theorem rsame_to {a b : List Nd} {v : Bool} (hv : ndsB a b = v) {A B : Option Addr} {n m ca cb : Nat} (w : World) (ha : Sees w A n a) (hb : Sees w B m b) : Calls Try.prog 14 #[.slice A n ca, .slice B m cb] w fun e w' => e = .returned (.bool v) ∧ Below w.heap.size w w' := by
  subst hv; exact rsame_any a b A B n m ca cb w ha hb
theorem ndsB_self (a : List Nd) : ndsB a a = true := by unfold ndsB; simp
end Go.Proofs.Ytllloonfnbhoeaa
