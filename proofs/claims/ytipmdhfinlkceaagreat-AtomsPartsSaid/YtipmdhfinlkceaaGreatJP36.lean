import Derived.Test.YtipmdhfinlkceaaGreatJP10
import Derived.Test.YtipmdhfinlkceaaGreatJP32
/- TreeFill. -/
set_option linter.unusedVariables false
set_option linter.unusedSimpArgs false
namespace Go.Proofs.YtipmdhfinlkceaaGreat
open Go.RowKit
theorem grown_of_belowF {w w' : World} (h : Below w.heap.size w w') (row : Option Nat) : w.grownBy w' row := ⟨h.os, h.tape, h.output, h.size, fun k hk _ => h.block k hk⟩
theorem grown_two {a b c : World} {row : Option Nat} (h : a.grownBy b row) (k : b.grownBy c row) : a.grownBy c row :=
  ⟨k.os.trans h.os, k.tape.trans h.tape, k.output.trans h.output, Nat.le_trans h.size k.size, fun i hi hne => (k.block i (Nat.lt_of_lt_of_le hi h.size) hne).trans (h.block i hi hne)⟩
def rmsV (L : List Nd) (W : Int) (k n : Nat) : List Value := (roomsTo L W k).flatMap encRm ++ List.replicate (2 * (n - k)) (.int .i64 0)
theorem flatRm_len : ∀ (l : List (Int × Int)), (l.flatMap encRm).length = l.length * 2
  | [] => rfl
  | p :: l => by rw [List.flatMap_cons, List.length_append, flatRm_len l, encRm_len, List.length_cons]; omega
theorem rmsV_len {L : List Nd} {W : Int} {k n : Nat} (h : k ≤ n) : (rmsV L W k n).length = n * 2 := by
  unfold rmsV
  rw [List.length_append, flatRm_len, roomsTo_len, List.length_replicate]
  omega
theorem rmsV_split {L : List Nd} {W : Int} {k n : Nat} (h : k < n) : rmsV L W k n = (roomsTo L W k).flatMap encRm ++ (.int .i64 0 :: .int .i64 0 :: List.replicate (2 * (n - (k + 1))) (.int .i64 0)) := by
  unfold rmsV
  rw [show 2 * (n - k) = 2 * (n - (k + 1)) + 1 + 1 by omega, List.replicate_succ, List.replicate_succ]
theorem rmsV_get {L : List Nd} {W : Int} {k n : Nat} (h : k < n) : (rmsV L W k n)[k * 2]? = some (.int .i64 0) ∧ (rmsV L W k n)[k * 2 + 1]? = some (.int .i64 0) := by
  rw [rmsV_split h]
  have hl : ((roomsTo L W k).flatMap encRm).length = k * 2 := by rw [flatRm_len, roomsTo_len]
  refine ⟨?_, ?_⟩
  · rw [List.getElem?_append_right (by omega), hl, Nat.sub_self]; rfl
  · rw [List.getElem?_append_right (by omega), hl, show k * 2 + 1 - k * 2 = 1 by omega]; rfl
theorem rmsV_step {L : List Nd} {W : Int} {k n : Nat} {x y : Int} (h : k < n) (hr : roomP L W k = (x, y)) : rmsV L W (k + 1) n = ((rmsV L W k n).set (k * 2) (.int .i64 x)).set (k * 2 + 1) (.int .i64 y) := by
  rw [rmsV_split h]
  have hl : ((roomsTo L W k).flatMap encRm).length = k * 2 := by rw [flatRm_len, roomsTo_len]
  rw [List.set_append_right _ _ (by omega), hl, Nat.sub_self, List.set_append_right _ _ (by omega), hl, show k * 2 + 1 - k * 2 = 1 by omega]
  unfold rmsV
  rw [roomsTo_cells, hr, List.append_assoc]
  rfl
theorem rmsV_zero (L : List Nd) (W : Int) (n : Nat) : rmsV L W 0 n = List.replicate (2 * n) (.int .i64 0) := by
  unfold rmsV
  rw [roomsTo_zero, Nat.sub_zero]
  rfl
theorem rmsV_all (L : List Nd) (W : Int) (n : Nat) : rmsV L W n n = (roomsTo L W n).flatMap encRm := by
  unfold rmsV
  rw [Nat.sub_self]
  exact List.append_nil _
def FillEnv (w : World) (bR bO bF bD : Nat) (A : Option Addr) (n c : Nat) : Prop :=
  w.cell? ⟨bR, 0, none⟩ = some (.slice (some ⟨bD, 0, none⟩) n n) ∧ w.cell? ⟨bO, 0, none⟩ = some (.slice A n c) ∧
  w.cell? ⟨bF, 0, none⟩ = some (.func (.func 35) #[] #[.pointer (some ⟨bR, 0, none⟩), .pointer (some ⟨bO, 0, none⟩), .pointer (some ⟨bF, 0, none⟩)]) ∧ bR ≠ bD ∧ bO ≠ bD ∧ bF ≠ bD
theorem FillEnv.kept {w w' : World} {bR bO bF bD : Nat} {A : Option Addr} {n c : Nat} (h : FillEnv w bR bO bF bD A n c) (hg : w.grownBy w' (some bD)) : FillEnv w' bR bO bF bD A n c := by
  obtain ⟨h1, h2, h3, n1, n2, n3⟩ := h
  exact ⟨hg.cell h1 (fun e => n1 (by injection e)), hg.cell h2 (fun e => n2 (by injection e)), hg.cell h3 (fun e => n3 (by injection e)), n1, n2, n3⟩
theorem box_far {w w' : World} {b bD : Nat} {vs : List Value} (h : Box w b vs) (hg : w.grownBy w' (some bD)) (hne : b ≠ bD) : Box w' b vs := by
  have hb : w'.heap[b]? = w.heap[b]? := hg.block b h.1 (fun e => hne (by injection e))
  refine ⟨Nat.lt_of_lt_of_le h.1 hg.size, fun o => ?_, fun j v hv => hg.cell (h.2.2 j v hv) (fun e => hne (by injection e))⟩
  have := h.2.1 o
  unfold World.frozen? at this ⊢
  simp only [hb]
  exact this
theorem on_grown {W0 w w' : World} {bD : Nat} (h : On W0 w) (hD : W0.heap.size ≤ bD) (hg : w.grownBy w' (some bD)) : On W0 w' :=
  Below.grown h hg h.size (fun k e => by injection e with e; omega)
theorem grown_set {w : World} {b j : Nat} (v : Value) : w.grownBy (w.setCell ⟨b, j, none⟩ v) (some b) :=
  ⟨rfl, rfl, rfl, by simp, fun k _ hk => Below.heap_setCell _ _ _ k (fun e => hk (by rw [e]))⟩
set_option maxHeartbeats 4000000 in
set_option maxRecDepth 100000 in
theorem fill_all {L : List Nd} (hd : IsDoc L) {W : Int} (hw1 : 1 ≤ W) (hw2 : W ≤ maxX) (W0 : World) {A : Option Addr} {n c : Nat} (hS : Sees W0 A n L) (hn2 : n ≤ 100000) (bR bO bF bD : Nat) (hD : W0.heap.size ≤ bD) :
    ∀ (N k e : Nat) (x : Nd) (rx ry : Int) (w : World), e - k ≤ N → L[k]? = some x → (k : Int) + x.size = (e : Int) → roomP L W k = (rx, ry) → On W0 w → FillEnv w bR bO bF bD A n c → Box w bD (rmsV L W k n) →
    Calls Tryz.prog 35 #[.int .i64 (k : Int), .agg #[.int .i64 rx, .int .i64 ry], .pointer (some ⟨bR, 0, none⟩), .pointer (some ⟨bO, 0, none⟩), .pointer (some ⟨bF, 0, none⟩)] w fun r w' => r = .returned (.int .i64 (e : Int)) ∧ w.grownBy w' (some bD) ∧ Box w' bD (rmsV L W e n) := by
  have hnest : Nested L := (forest_iff_nested L).1 hd.2
  have HL := Lib.hid hS.len
  have HS := Lib.hid hS
  clear hS
  intro N
  induction N using Nat.strongRecOn with
  | _ N ih =>
  intro k e x rx ry w hN hx he hr hO hE hB
  have IH := Lib.hid ih
  have hkL := (List.getElem?_eq_some_iff.1 hx).1
  have hkn : k < n := by have := HL.out; omega
  have hsz := hnest k x hx
  have hen : e ≤ n := by have := HL.out; have := hsz.2.1; omega
  have hke : k < e := by have := hsz.1; omega
  have hbd := room_bd hd.1 hw1 hw2 k
  rw [hr] at hbd
  obtain ⟨rx0, rx1, ry0, ry1'⟩ := hbd
  simp only at rx0 rx1 ry0 ry1'
  have ry1 : ry ≤ 1099511627776 := Int.le_trans ry1' hw2
  unfold maxX at rx1
  have hin := inset_bd hd.1 k
  obtain ⟨i, hi⟩ : ∃ i, insetAt L k = i := ⟨_, rfl⟩
  rw [hi] at hin
  obtain ⟨i0, i1⟩ := hin
  unfold maxX at i1
  have HIN := Lib.hid hi
  have HKL := Lib.hid hkL
  have HX := Lib.hid hx
  have HE := Lib.hid he
  have HR := Lib.hid hr
  have HO := Lib.hid hO
  have HEn := Lib.hid hE
  have hbl := hB.lt
  have hne : w.heap.size ≠ bD := by omega
  have g1 := hB.2.2 (k * 2) _ (rmsV_get hkn).1
  have g2 := hB.2.2 (k * 2 + 1) _ (rmsV_get hkn).2
  have g3 := hB.2.1
  have hlen := rmsV_len (L := L) (W := W) (Nat.le_of_lt hkn)
  have HB1 := Lib.hid (show Box (((w.setCell ⟨bD, k * 2, none⟩ (.int .i64 rx)).setCell ⟨bD, k * 2 + 1, none⟩ (.int .i64 ry)).alloc (.cells #[.int .i64 rx, .int .i64 ry] 90)) bD (rmsV L W (k + 1) n) by
    rw [rmsV_step hkn hr]
    exact ((hB.set (k * 2) _ (by omega)).set (k * 2 + 1) _ (by rw [List.length_set]; omega)).alloc _)
  have HX1 := Lib.hid (show Box (((w.setCell ⟨bD, k * 2, none⟩ (.int .i64 rx)).setCell ⟨bD, k * 2 + 1, none⟩ (.int .i64 ry)).alloc (.cells #[.int .i64 rx, .int .i64 ry] 90)) w.heap.size [.int .i64 rx, .int .i64 ry] from
    Box.new2' _ _ _ _ _ (by simp))
  have HG1 := Lib.hid (show w.grownBy (((w.setCell ⟨bD, k * 2, none⟩ (.int .i64 rx)).setCell ⟨bD, k * 2 + 1, none⟩ (.int .i64 ry)).alloc (.cells #[.int .i64 rx, .int .i64 ry] 90)) (some bD) from
    grown_two (grown_two (grown_set _) (grown_set _)) (World.grownBy_alloc _ _ _))
  have HK1 := Lib.hid (show KidAt L (k : Int) (e : Int) (k + 1) by
    rw [← he]
    by_cases h0 : (k : Int) + 1 < (k : Int) + x.size
    · have := hsz.2.1
      exact .inr ⟨by omega, (parI_some (by omega)).2 (first_some hnest hx h0), by omega⟩
    · exact .inl ⟨by omega, kidsFrom_last hx (by omega)⟩)
  have HINN := Lib.hid (show innerI L (k : Int) = ((k : Int) + 1, (e : Int)) by rw [innerI_nat hx, he])
  have cR := hE.1
  have lR : bR < w.heap.size := cell_lt cR
  have nR : ¬ bR = w.heap.size := by omega
  have nD : ¬ bD = w.heap.size := by omega
  have hki : (k : Int) < (n : Int) := by omega
  clear ih hx he hr hO hE hB hi hlen hsz ry1' hkL
  go_enter Tryz.func35, Tryz.ntmps35
  go_wp2_with fail
  go_loopw [8] (fun nx wr => ∃ (j : Nat), nx = .int .i64 (j : Int) ∧ k + 1 ≤ j ∧ j ≤ e ∧ Hid (KidAt L (k : Int) (e : Int) j) ∧ Hid (w.grownBy wr (some bD)) ∧ Hid (Box wr bD (rmsV L W j n)) ∧ Hid (Box wr w.heap.size [.int .i64 rx, .int .i64 ry])) (fun nx _ => e - (intOf nx).toNat)
  case atStart => exact ⟨k + 1, by go_num, Nat.le_refl _, by omega, HK1, HG1, HB1, HX1⟩
  case round =>
    obtain ⟨j, rfl, hj1, hj2, HK, HGq, HBq, HXq⟩ := hrel
    have HEq := Lib.hid (HEn.out.kept HGq.out)
    have HOq := Lib.hid (on_grown HO.out hD HGq.out)
    have cO := HEq.out.2.1
    clear g1 g2 g3 cR lR nR nD
    by_cases hlt : j < e
    · have hlt2 : (j : Int) < (e : Int) := by omega
      obtain ⟨hpj, hjL⟩ : parentI L (j : Int) = (k : Int) ∧ j < L.length := by
        rcases HK.out with ⟨h1, _⟩ | ⟨_, h2, h3⟩
        · omega
        · exact ⟨h2, h3⟩
      have hy : L[j]? = some (L[j]'hjL) := List.getElem?_eq_getElem _
      obtain ⟨y, hyy⟩ : ∃ y, L[j]'hjL = y := ⟨_, rfl⟩
      rw [hyy] at hy
      obtain ⟨e2, he2, hje, hee, _, hke2⟩ := kidAt_step hnest HINN.out hy hpj hlt2
      have HY := Lib.hid hy
      have HYE := Lib.hid he2
      have HK2 := Lib.hid hke2
      have hrj := room_step (w := W) ((parI_some hjL).1 hpj)
      rw [HR.out, HIN.out] at hrj
      simp only at hrj
      unfold maxX at hrj
      obtain ⟨p, hp⟩ : ∃ p, min (rx + i) 1099511627776 = p := ⟨_, rfl⟩
      obtain ⟨q, hq⟩ : ∃ q, max (ry - i - i) 1 = q := ⟨_, rfl⟩
      rw [hp, hq] at hrj
      have HP := Lib.hid hp
      have HQ := Lib.hid hq
      have HRJ := Lib.hid hrj
      clear hy hyy he2 hke2 hpj hrj hp hq
      go_wp2_with fail
      refine (tend_to hnest HX.out HE.out (HS.out.below HOq.out) hn2).mono ?_
      rintro r5 w5 ⟨rfl, rfl⟩
      clear cO
      have k0 : ∀ W', wr.grownBy W' (some bD) → W'.cell? ⟨bF, 0, none⟩ = some (.func (.func 35) #[] #[.pointer (some ⟨bR, 0, none⟩), .pointer (some ⟨bO, 0, none⟩), .pointer (some ⟨bF, 0, none⟩)]) := fun W' hg => (HEq.out.kept hg).2.2.1
      have k1 : ∀ W', wr.grownBy W' (some bD) → W'.cell? ⟨bO, 0, none⟩ = some (.slice A n c) := fun W' hg => (HEq.out.kept hg).2.1
      have k2 : ∀ W', wr.grownBy W' (some bD) → W'.cell? ⟨w.heap.size, 0, none⟩ = some (.int .i64 rx) := fun W' hg => (box_far HXq.out hg hne).of2.1
      have k3 : ∀ W', wr.grownBy W' (some bD) → W'.cell? ⟨w.heap.size, 1, none⟩ = some (.int .i64 ry) := fun W' hg => (box_far HXq.out hg hne).of2.2.1
      go_wp2_with fail
      refine wp_region_held_tail 9 (S := fun W' => wr.grownBy W' (some bD)) (by kernel_rfl) (by kernel_rfl) rfl (grown_of_belowF (Below.refl _ _).drew _) (fun h0 => ?_)
      simp only [headOf, List.take_succ_cons, List.take_zero, List.getElem_toArray, List.getElem_cons_succ, List.getElem_cons_zero]
      refine wpAnyH_take (i := 0) (v := ?_) rfl (by kernel_rfl) (by kernel_rfl) (by kernel_rfl) (fun _ _ _ h => h) (Or.inl ⟨by rfl, ?_⟩) h0 ?_
      rotate_left
      · intro w hSw; (try dsimp only at hSw); go_simp; with_reducible rfl
      try simp only [Act.put, List.setIfInBounds_toArray, List.set_cons_zero, List.set_cons_succ]
      refine wpAnyH_take (i := 1) (v := ?_) rfl (by kernel_rfl) (by kernel_rfl) (by kernel_rfl) (fun _ _ _ h => h) (Or.inl ⟨by rfl, ?_⟩) h0 ?_
      rotate_left
      · intro w hSw; (try dsimp only at hSw); go_simp; with_reducible rfl
      try simp only [Act.put, List.setIfInBounds_toArray, List.set_cons_zero, List.set_cons_succ]
      refine wpAnyH_take (i := 2) (v := ?_) rfl (by kernel_rfl) (by kernel_rfl) (by kernel_rfl) (fun _ _ _ h => h) (Or.inl ⟨by rfl, ?_⟩) h0 ?_
      rotate_left
      · intro w hSw; (try dsimp only at hSw); go_simp; with_reducible rfl
      try simp only [Act.put, List.setIfInBounds_toArray, List.set_cons_zero, List.set_cons_succ]
      refine wpAnyH_take (i := 3) (v := ?_) rfl (by kernel_rfl) (by kernel_rfl) (by kernel_rfl) (fun _ _ _ h => h) (Or.inl ⟨by rfl, ?_⟩) h0 ?_
      rotate_left
      · intro w hSw; (try dsimp only at hSw); go_simp; with_reducible rfl
      try simp only [Act.put, List.setIfInBounds_toArray, List.set_cons_zero, List.set_cons_succ]
      refine wpAnyH_take (i := 4) (v := ?_) rfl (by kernel_rfl) (by kernel_rfl) (by kernel_rfl) (fun _ _ _ h => h) (Or.inl ⟨by rfl, ?_⟩) h0 ?_
      rotate_left
      · intro w hSw; (try dsimp only at hSw); go_simp; with_reducible rfl
      try simp only [Act.put, List.setIfInBounds_toArray, List.set_cons_zero, List.set_cons_succ]
      refine wpAnyH_take (i := 5) (v := ?_) rfl (by kernel_rfl) (by kernel_rfl) (by kernel_rfl) (fun _ _ _ h => h) (Or.inl ⟨by rfl, ?_⟩) h0 ?_
      rotate_left
      · intro w hSw; (try dsimp only at hSw); go_simp; with_reducible rfl
      try simp only [Act.put, List.setIfInBounds_toArray, List.set_cons_zero, List.set_cons_succ]
      refine wpAnyH_ready (rs := [6]) (by kernel_rfl) (by simp) ?_
      refine AllReadyH.cons rfl (fun K hK => ?_) AllReadyH.nil
      go_simp
      refine (tinset_to HKL.out HIN.out (HS.out.below HOq.out.drew)).mono ?_
      rintro r7 v7 ⟨rfl, rfl⟩
      refine hK.out _ _ h0 (fun h1 => ?_)
      clear hK K
      try simp only [Act.put, List.setIfInBounds_toArray, List.set_cons_zero, List.set_cons_succ]
      refine wpAnyH_ready (rs := [7]) (by kernel_rfl) (by simp) ?_
      refine AllReadyH.cons rfl (fun K hK => ?_) AllReadyH.nil
      go_simp
      refine (twithin_to rx0 rx1 ry0 ry1 i0 i1 HP.out HQ.out _).mono ?_
      rintro r8 v8 ⟨rfl, hb8⟩
      have HS8 := Lib.hid (grown_two h1 (grown_of_belowF hb8 (some bD)))
      have HB8 := Lib.hid (HBq.out.drew.below hb8)
      clear hb8
      refine hK.out _ _ HS8.out (fun h2 => ?_)
      clear hK K
      try simp only [Act.put, List.setIfInBounds_toArray, List.set_cons_zero, List.set_cons_succ]
      refine wpAnyH_ready (rs := [8]) (by kernel_rfl) (by simp) ?_
      refine AllReadyH.cons rfl (fun K hK => ?_) AllReadyH.nil
      go_simp
      refine (IH.out (e2 - j) (by omega) j e2 y _ _ _ (Nat.le_refl _) HY.out HYE.out HRJ.out (on_grown HOq.out hD HS8.out) (HEq.out.kept HS8.out) HB8.out).mono ?_
      rintro r9 v9 ⟨rfl, hg9, hb9⟩
      have HG9 := Lib.hid (grown_two HGq.out (grown_two HS8.out hg9))
      have HB9 := Lib.hid hb9
      have HX9 := Lib.hid (box_far (box_far HXq.out HS8.out hne) hg9 hne)
      have HS9 := Lib.hid (grown_two HS8.out hg9)
      clear hg9 hb9
      refine hK.out _ _ HS9.out (fun h3 => ?_)
      clear hK K
      try simp only [Act.put, List.setIfInBounds_toArray, List.set_cons_zero, List.set_cons_succ]
      refine wpAnyH_done (by kernel_rfl) ?_ _
      show wpList _ _ _ _ _ _
      clear k0 k1 k2 k3 h0 h1 h2 h3
      go_wp2_with fail
      go_roundw
      case rel => exact ⟨e2, rfl, by omega, by omega, HK2, HG9, HB9, HX9⟩
      case measure => simp [intOf] <;> omega
    · obtain rfl : j = e := by omega
      go_wp2_with fail
      refine (tend_to hnest HX.out HE.out (HS.out.below HOq.out) hn2).mono ?_
      rintro r5 w5 ⟨rfl, rfl⟩
      go_wp2_with fail
      go_ret
      exact ⟨rfl, HGq.out, HBq.out⟩
end Go.Proofs.YtipmdhfinlkceaaGreat
