import Derived.Test.YtamakeogaipdiaaJA18
import Derived.Test.YtamakeogaipdiaaJA03
/- The program's package valid: nodes are counted. (Written by program: tools/drafts/gencount.py.) -/
namespace Go.Proofs.Ytamakeogaipdiaa
open Go.RowKit
set_option linter.unusedVariables false
set_option linter.unusedSimpArgs false
def CountPost (l : List Nd) (w : World) (e : Ending) (w' : World) : Prop :=
  ((IsDoc l ∧ ∃ A k c, e = .returned (.tuple #[.agg #[.int .i64 (sumB l).depth, .int .i64 (sumB l).pieces, .int .i64 (sumB l).nodes, .int .i64 (sumB l).heights, .slice A k c], .bool true])) ∨
  (¬ IsDoc l ∧ e = .returned (.tuple #[.agg #[.int .i64 0, .int .i64 0, .int .i64 0, .int .i64 0, .slice none 0 0], .bool false]))) ∧ Below w.heap.size w w'
theorem encM_all6 (m : NdM) : ((encM m).toArray.all (·.oneCell')) = true := by
  rw [List.all_toArray]
  exact List.all_eq_true.2 (encM_one m)
theorem ptake_to {D : Nat} {w : World} {s s' : Sm} {A : Option Addr} {k c : Nat} {es es' : List Int} {i : Int} {m : NdM} {x : Nd} (h : Cnt (D + 1) D w s A (k + 1) c es) (h1 : takeS s x (k + 1) = s') (h2 : es ++ (if x.kind = 1 then [i + x.size] else []) = es') (hS : Shows w m x) (hf : x.fits) (hs : s.small) (hwl : x.words.length ≤ 9223372036854775807) (hi : 0 ≤ i ∧ i ≤ 2305843009213693952) (hsz : 0 ≤ x.size ∧ x.size ≤ 2305843009213693952) (hk : k ≤ 1000000) :
    Calls Try.prog 74 #[.pointer (some ⟨D, 0, none⟩), .int .i64 i, .agg (encM m).toArray] w fun e w' => e = .returned (.tuple #[]) ∧ (∃ A' k' c', Cnt (D + 1) D w' s' A' k' c' es') ∧ Below D w w' := by
  subst h1 h2
  exact ptake_any D w s A k c es i m x h hS hf hs hwl hi hsz hk
set_option maxHeartbeats 8000000 in
set_option maxRecDepth 100000 in
theorem pcount_any (l : List Nd) (A : Option Addr) (n ca : Nat) (w : World) (hl : Sees w A n l) (hn : n ≤ 100000) : Calls Try.prog 59 #[.slice A n ca] w (CountPost l w) := by
  have hla := hl.len
  have HA := Lib.hid hl
  clear hl
  obtain ⟨D, hD⟩ : ∃ D, w.heap.size = D := ⟨_, rfl⟩
  go_enter Try.func59, Try.ntmps59
  go_wp2_with fail

  go_loopw [12] (fun i wr => ∃ (k A1 : _) (k1 c1 : Nat), k ≤ n ∧ i = .int .i64 (k : Nat) ∧ Cnt (D + 1) D wr (sumTo l k) A1 k1 c1 (endsAt l k) ∧ upTo l k ∧ On w wr) (fun i _ => n - (intOf i).toNat)
  case atStart => exact ⟨0, some ⟨D + 1, 0, none⟩, 1, 1, Nat.zero_le _, rfl, ⟨by rw [sumTo_zero]; exact (Blk.new w 90 (cntL .none (some ⟨D + 1, 0, none⟩) 1 1) D hD.symm _ rfl).alloc _, by rw [endsAt_zero, hla]; exact owns_one (w := w.alloc _) (e := 3) (size := 1) (base := D + 1) [.int .i64 n] rfl (by decide) (by rw [World.size_alloc, hD]; exact Nat.le_refl _) (by intro u hu; simp at hu; subst hu; rfl) _ (by rw [World.size_alloc, hD]) _ rfl⟩, upTo.zero l, On.alloc (On.alloc (On.refl w) _) _⟩
  case round =>
    obtain ⟨k, A1, k1, c1, hk, rfl, hC, hU, hon⟩ := hrel
    have HC := Lib.hid hC
    have HU := Lib.hid hU
    have HO := Lib.hid hon
    clear hC hU hon
    by_cases hlt : k < n
    · obtain ⟨b1, o1, m1, x1, rfl, hb1, e1, r1, s1⟩ := HA.out.at_ hlt
      have hk2 : (k : Int) < (n : Int) := by omega
      have R1 := Lib.hid (range_on r1)
      have S1 := Lib.hid s1
      have E1 := Lib.hid e1
      have hwl1 : x1.words.length ≤ 9223372036854775807 := by have := s1.2.1; have := s1.2.2.1; omega
      have HX1 := Lib.hid hwl1
      clear hwl1
      clear r1 s1 e1
      go_wp2_with (first | ((with_reducible refine stop_load 45 (.tmp 15) ?_ ?_); exact rfl; refine Stop.intro ?_; refine wpList_load_mid rfl 45 (.tmp 15) rfl b1 (o1 + k * 20) rfl (encM m1) _ (R1.out wr HO.out) Try.underlying45 rfl (by kernel_rfl) ?_) | ((with_reducible refine stop_store 45 (.tmp 5) (.tmp 16) ?_ ?_); exact rfl))
      refine Stop.intro ?_
      refine wpList_store_row rfl 45 (.tmp 5) (.tmp 16) rfl wr.heap.size rfl 45 #[.int .i64 0, .int .i64 0, .int .i64 0, .int .i64 0, .int .i64 0, .int .i64 0, .int .i64 0, .int .i64 0, .int .i64 0, .int .i64 0, .int .i64 0, .int .i64 0, .int .i64 0, .int .i64 0, .int .i64 0, .int .i64 0, .slice none 0 0, .int .i64 0, .int .i64 0, .int .i64 0] (encM m1).toArray rfl (Blk.new wr 45 [.int .i64 0, .int .i64 0, .int .i64 0, .int .i64 0, .int .i64 0, .int .i64 0, .int .i64 0, .int .i64 0, .int .i64 0, .int .i64 0, .int .i64 0, .int .i64 0, .int .i64 0, .int .i64 0, .int .i64 0, .int .i64 0, .slice none 0 0, .int .i64 0, .int .i64 0, .int .i64 0] _ rfl _ rfl) (by kernel_rfl) rfl (encM_all6 m1) ?_
      intro V hV
      have hVs : V.heap.size = wr.heap.size + 1 := by rw [hV, setRow_size]; simp
      have hbV : On wr V := by rw [hV]; exact below_setRow ((Below.refl _ _).alloc (Nat.le_refl _) _) (Nat.le_refl _) _
      have HK1 := Lib.hid (show Blk V wr.heap.size 45 (encM m1) by rw [hV]; exact Blk.row (Blk.new wr 45 [.int .i64 0, .int .i64 0, .int .i64 0, .int .i64 0, .int .i64 0, .int .i64 0, .int .i64 0, .int .i64 0, .int .i64 0, .int .i64 0, .int .i64 0, .int .i64 0, .int .i64 0, .int .i64 0, .int .i64 0, .int .i64 0, .slice none 0 0, .int .i64 0, .int .i64 0, .int .i64 0] _ rfl _ rfl) _ _ rfl)
      have HBV := Lib.hid hbV
      have HVs := Lib.hid hVs
      obtain ⟨mm, hmm⟩ := ends_split HU.out
      have hC2 := HC.out.on hbV
      have hlen := hC2.len
      rw [hmm] at hC2 hlen
      rw [List.length_append, List.length_replicate] at hlen
      obtain ⟨r, hr⟩ : ∃ r, (endsIn l k).length = r + 1 := ⟨(opnV l k k).length, rfl⟩
      have hC3 : Cnt (D + 1) D V (sumTo l k) A1 ((endsIn l k).length + mm) c1 (endsIn l k ++ List.replicate mm (k : Int)) := by rw [hlen]; exact hC2
      have hgt := lastEnd_gt (l := l) (k := k) (by omega)
      have hLV := Lib.hid (pleave_any (D + 1) D V (sumTo l k) A1 c1 (endsIn l k) k (lastEnd l k) mm hC3 (endsIn_last l k) (by omega))
      have HR := Lib.hid hr
      clear hV hbV hVs hmm hC2 hlen hC3 hgt hr
      go_wp2_with fail
      refine hLV.out.mono ?_
      rintro e w2 ⟨rfl, hC4, hO4⟩
      have hDlt := HC.out.blk.box.1
      have hXD : wr.heap.size ≠ D := by omega
      have hon4 : On w w2 := (HO.out.step HBV.out).trans (hO4.below.mono (by omega))
      have HX2 := Lib.hid (show Blk w2 wr.heap.size 45 (encM m1) from hO4.blk hXD HK1.out)
      obtain ⟨z, hz⟩ : ∃ z, lastEnd l k = z := ⟨_, rfl⟩
      have hz1 := lastEnd_gt (l := l) (k := k) (by omega)
      have hz2 := lastEnd_le HU.out
      rw [hz] at hz1 hz2
      rw [hla] at hz2
      have hC5 : Cnt (D + 1) D w2 (sumTo l k) A1 (r + 1) c1 (endsIn l k) := by rw [← HR.out]; exact hC4
      have HZ2 := Lib.hid (show (endsIn l k)[r]? = some z by rw [← hz, ← endsIn_last l k, List.getLast?_eq_getElem?, HR.out]; rfl)
      have HZ := Lib.hid hz
      have HC5 := Lib.hid hC5
      have HO5 := Lib.hid hon4
      have S2 := Lib.hid (S1.out.below hon4)
      have hwr : IntKind.i64.wrap (z - (k : Int)) = z - (k : Int) := by rw [IntKind.wrap_i64]; omega
      obtain ⟨v1, hv1⟩ : ∃ v, fitsB m1 (z - k) = v := ⟨_, rfl⟩
      obtain ⟨v2, hv2⟩ : ∃ v, mayB m1 x1.words = v := ⟨_, rfl⟩
      have HV1 := Lib.hid hv1
      have HV2 := Lib.hid hv2
      have HRX := Lib.hid (range_on (w := w2) (b := wr.heap.size) (o := 0) (cs := encM m1) (fun j v hv => by rw [Nat.zero_add]; exact HX2.out.box.2.2 j v hv))
      clear hC4 hO4 hDlt hXD hon4 hz hC5 hv1 hv2
      go_wp2_with fail
      refine wp_region_held (S := fun W' => On w2 W') (by kernel_rfl) ?_
      show wpAnyH _ _ _ _ _ _ _ _ w2.drew
      have h0 : On w2 w2.drew := (On.refl w2).drew
      refine wpAnyH_take (i := 0) (v := ?_) rfl (by kernel_rfl) (by kernel_rfl) (by kernel_rfl) (fun _ _ _ h => h) ?_ h0 ?_
      rotate_left
      · refine yieldsIf_load_mid ?_ 45 (.tmp 5) ?_ wr.heap.size 0 ?_ (encM m1) _ HRX.out Try.underlying45 rfl (by kernel_rfl) <;> rfl
      try simp only [Act.put, List.getElem_toArray, List.getElem_cons_succ, List.getElem_cons_zero, List.setIfInBounds_toArray, List.set_cons_zero, List.set_cons_succ]
      refine wpAnyH_take (i := 2) (v := ?_) rfl (by kernel_rfl) (by kernel_rfl) (by kernel_rfl) (fun _ _ _ h => h) (Or.inl ⟨by rfl, ?_⟩) h0 ?_
      rotate_left
      · intro w hSw; (try dsimp only at hSw); go_simp; with_reducible rfl
      try simp only [Act.put, List.getElem_toArray, List.getElem_cons_succ, List.getElem_cons_zero, List.setIfInBounds_toArray, List.set_cons_zero, List.set_cons_succ]
      refine wpAnyH_ready (rs := [1]) (by kernel_rfl) (by simp) ?_
      refine AllReadyH.cons rfl (fun K hK => ?_) AllReadyH.nil
      go_simp
      refine (pend_to (HC5.out.on h0) HZ2.out).mono ?_
      rintro e w3 ⟨rfl, q, rfl⟩
      refine hK.out _ _ (below_drewN h0 q) (fun h1 => ?_)
      clear hK K
      try simp only [Act.put, List.getElem_toArray, List.getElem_cons_succ, List.getElem_cons_zero, List.setIfInBounds_toArray, List.set_cons_zero, List.set_cons_succ]
      refine wpAnyH_take (i := 3) (v := ?_) rfl (by kernel_rfl) (by kernel_rfl) (by kernel_rfl) (fun _ _ _ h => h) (Or.inl ⟨by rfl, ?_⟩) h1 ?_
      rotate_left
      · intro w hSw; (try dsimp only at hSw); go_simp; with_reducible rfl
      try simp only [Act.put, List.getElem_toArray, List.getElem_cons_succ, List.getElem_cons_zero, List.setIfInBounds_toArray, List.set_cons_zero, List.set_cons_succ]
      refine wpAnyH_ready (rs := [4]) (by kernel_rfl) (by simp) ?_
      refine AllReadyH.cons rfl (fun K hK => ?_) AllReadyH.nil
      go_simp
      refine (pfits_to HV1.out _).mono ?_
      rintro e w4 ⟨rfl, hb4⟩
      refine hK.out _ _ (On.step (below_drewN (On.refl w2) _) hb4) (fun h2 => ?_)
      clear hK K hb4 h1 h0
      try simp only [Act.put, List.getElem_toArray, List.getElem_cons_succ, List.getElem_cons_zero, List.setIfInBounds_toArray, List.set_cons_zero, List.set_cons_succ]
      cases v1 with
      | false =>
        refine wpAnyH_take (i := 5) (v := ?_) rfl (by kernel_rfl) (by kernel_rfl) (by kernel_rfl) (fun _ _ _ h => h) (Or.inl ⟨by rfl, ?_⟩) h2 ?_
        rotate_left
        · intro w hSw; (try dsimp only at hSw); go_simp; with_reducible rfl
        try simp only [Act.put, List.getElem_toArray, List.getElem_cons_succ, List.getElem_cons_zero, List.setIfInBounds_toArray, List.set_cons_zero, List.set_cons_succ]
        refine wpAnyH_take (i := 6) (v := ?_) rfl (by kernel_rfl) (by kernel_rfl) (by kernel_rfl) (fun _ _ _ h => h) (Or.inl ⟨by rfl, ?_⟩) h2 ?_
        rotate_left
        · intro w hSw; (try dsimp only at hSw); go_simp; with_reducible rfl
        try simp only [Act.put, List.getElem_toArray, List.getElem_cons_succ, List.getElem_cons_zero, List.setIfInBounds_toArray, List.set_cons_zero, List.set_cons_succ]
        refine wpAnyH_take (i := 7) (v := undef) rfl (by kernel_rfl) (by kernel_rfl) (by kernel_rfl) (fun _ _ _ h => h) (Or.inr ⟨by rfl, rfl⟩) h2 ?_
        try simp only [Act.put, List.getElem_toArray, List.getElem_cons_succ, List.getElem_cons_zero, List.setIfInBounds_toArray, List.set_cons_zero, List.set_cons_succ]
        refine wpAnyH_take (i := 8) (v := undef) rfl (by kernel_rfl) (by kernel_rfl) (by kernel_rfl) (fun _ _ _ h => h) (Or.inr ⟨by rfl, rfl⟩) h2 ?_
        try simp only [Act.put, List.getElem_toArray, List.getElem_cons_succ, List.getElem_cons_zero, List.setIfInBounds_toArray, List.set_cons_zero, List.set_cons_succ]
        refine wpAnyH_take (i := 9) (v := undef) rfl (by kernel_rfl) (by kernel_rfl) (by kernel_rfl) (fun _ _ _ h => h) (Or.inr ⟨by rfl, rfl⟩) h2 ?_
        try simp only [Act.put, List.getElem_toArray, List.getElem_cons_succ, List.getElem_cons_zero, List.setIfInBounds_toArray, List.set_cons_zero, List.set_cons_succ]
        refine wpAnyH_take (i := 10) (v := ?_) rfl (by kernel_rfl) (by kernel_rfl) (by kernel_rfl) (fun _ _ _ h => h) (Or.inl ⟨by rfl, ?_⟩) h2 ?_
        rotate_left
        · intro w hSw; (try dsimp only at hSw); go_simp; with_reducible rfl
        try simp only [Act.put, List.getElem_toArray, List.getElem_cons_succ, List.getElem_cons_zero, List.setIfInBounds_toArray, List.set_cons_zero, List.set_cons_succ]
        refine wpAnyH_done (by kernel_rfl) ?_ _
        have hC6 := HC5.out.on h2
        have HB6 := Lib.hid (HO5.out.step h2)
        have c0 := hC6.blk.box.2.2 0 _ rfl
        have c1' := hC6.blk.box.2.2 1 _ rfl
        have c2 := hC6.blk.box.2.2 2 _ rfl
        have c3 := hC6.blk.box.2.2 3 _ rfl
        have c4 := hC6.blk.box.2.2 4 _ rfl
        have f0 := hC6.blk.box.2.1 0
        have f1 := hC6.blk.box.2.1 1
        have f2 := hC6.blk.box.2.1 2
        have f3 := hC6.blk.box.2.1 3
        have f4 := hC6.blk.box.2.1 4
        have fl := hC6.blk.box.1
        have HK6 := Lib.hid hC6.blk
        clear hC6 h2
        have HND := Lib.hid (show ¬ IsDoc l from notdoc_nest (fun hN => by have := (fits_nest HU.out E1.out S1.out.1.1 S1.out.1.2.1).2 hN; rw [HZ.out, HV1.out] at this; cases this))
        go_wp2_with fail
        have hY := (((((HK6.out.set 0 (.int .i64 0)).set 1 (.int .i64 0)).set 2 (.int .i64 0)).set 3 (.int .i64 0)).set 4 (.slice none 0 0)).box
        have r0 := hY.2.2 0 _ rfl
        have r1 := hY.2.2 1 _ rfl
        have r2 := hY.2.2 2 _ rfl
        have r3 := hY.2.2 3 _ rfl
        have r4 := hY.2.2 4 _ rfl
        refine bodyPost_ret (v := .tuple #[.agg #[.int .i64 0, .int .i64 0, .int .i64 0, .int .i64 0, .slice none 0 0], .bool false]) (by simp [results, Try.results59, go_sem, r0, r1, r2, r3, r4]) rfl ⟨.inr ⟨HND.out, rfl⟩, ?_⟩
        exact ((((HB6.out.setCell (by simp; omega) _).setCell (by simp; omega) _).setCell (by simp; omega) _).setCell (by simp; omega) _).setCell (by simp; omega) _
      | true =>
        refine wpAnyH_take (i := 5) (v := ?_) rfl (by kernel_rfl) (by kernel_rfl) (by kernel_rfl) (fun _ _ _ h => h) (Or.inl ⟨by rfl, ?_⟩) h2 ?_
        rotate_left
        · intro w hSw; (try dsimp only at hSw); go_simp; with_reducible rfl
        try simp only [Act.put, List.getElem_toArray, List.getElem_cons_succ, List.getElem_cons_zero, List.setIfInBounds_toArray, List.set_cons_zero, List.set_cons_succ]
        refine wpAnyH_take (i := 6) (v := ?_) rfl (by kernel_rfl) (by kernel_rfl) (by kernel_rfl) (fun _ _ _ h => h) (Or.inl ⟨by rfl, ?_⟩) h2 ?_
        rotate_left
        · intro w hSw; (try dsimp only at hSw); go_simp; with_reducible rfl
        try simp only [Act.put, List.getElem_toArray, List.getElem_cons_succ, List.getElem_cons_zero, List.setIfInBounds_toArray, List.set_cons_zero, List.set_cons_succ]
        refine wpAnyH_take (i := 7) (v := ?_) rfl (by kernel_rfl) (by kernel_rfl) (by kernel_rfl) (fun _ _ _ h => h) ?_ h2 ?_
        rotate_left
        · refine yieldsIf_load_mid ?_ 45 (.tmp 5) ?_ wr.heap.size 0 ?_ (encM m1) _ HRX.out Try.underlying45 rfl (by kernel_rfl) <;> rfl
        try simp only [Act.put, List.getElem_toArray, List.getElem_cons_succ, List.getElem_cons_zero, List.setIfInBounds_toArray, List.set_cons_zero, List.set_cons_succ]
        refine wpAnyH_ready (rs := [8]) (by kernel_rfl) (by simp) ?_
        refine AllReadyH.cons rfl (fun K hK => ?_) AllReadyH.nil
        go_simp
        refine (pmay_to HV2.out _ (S2.out.below h2).2).mono ?_
        rintro e w5 ⟨rfl, hb5⟩
        refine hK.out _ _ (On.step h2 hb5) (fun h3 => ?_)
        clear hK K hb5 h2
        try simp only [Act.put, List.getElem_toArray, List.getElem_cons_succ, List.getElem_cons_zero, List.setIfInBounds_toArray, List.set_cons_zero, List.set_cons_succ]
        refine wpAnyH_take (i := 9) (v := ?_) rfl (by kernel_rfl) (by kernel_rfl) (by kernel_rfl) (fun _ _ _ h => h) (Or.inl ⟨by rfl, ?_⟩) h3 ?_
        rotate_left
        · intro w hSw; (try dsimp only at hSw); go_simp; with_reducible rfl
        try simp only [Act.put, List.getElem_toArray, List.getElem_cons_succ, List.getElem_cons_zero, List.setIfInBounds_toArray, List.set_cons_zero, List.set_cons_succ]
        refine wpAnyH_take (i := 10) (v := ?_) rfl (by kernel_rfl) (by kernel_rfl) (by kernel_rfl) (fun _ _ _ h => h) (Or.inl ⟨by rfl, ?_⟩) h3 ?_
        rotate_left
        · intro w hSw; (try dsimp only at hSw); go_simp; with_reducible rfl
        try simp only [Act.put, List.getElem_toArray, List.getElem_cons_succ, List.getElem_cons_zero, List.setIfInBounds_toArray, List.set_cons_zero, List.set_cons_succ]
        refine wpAnyH_done (by kernel_rfl) ?_ _
        cases v2 with
        | false =>
          have hC6 := HC5.out.on h3
          have HB6 := Lib.hid (HO5.out.step h3)
          have c0 := hC6.blk.box.2.2 0 _ rfl
          have c1' := hC6.blk.box.2.2 1 _ rfl
          have c2 := hC6.blk.box.2.2 2 _ rfl
          have c3 := hC6.blk.box.2.2 3 _ rfl
          have c4 := hC6.blk.box.2.2 4 _ rfl
          have f0 := hC6.blk.box.2.1 0
          have f1 := hC6.blk.box.2.1 1
          have f2 := hC6.blk.box.2.1 2
          have f3 := hC6.blk.box.2.1 3
          have f4 := hC6.blk.box.2.1 4
          have fl := hC6.blk.box.1
          have HK6 := Lib.hid hC6.blk
          clear hC6 h3
          have HND := Lib.hid (show ¬ IsDoc l from notdoc_one E1.out (by rw [← mayB_one S1.out]; exact HV2.out))
          go_wp2_with fail
          have hY := (((((HK6.out.set 0 (.int .i64 0)).set 1 (.int .i64 0)).set 2 (.int .i64 0)).set 3 (.int .i64 0)).set 4 (.slice none 0 0)).box
          have r0 := hY.2.2 0 _ rfl
          have r1 := hY.2.2 1 _ rfl
          have r2 := hY.2.2 2 _ rfl
          have r3 := hY.2.2 3 _ rfl
          have r4 := hY.2.2 4 _ rfl
          refine bodyPost_ret (v := .tuple #[.agg #[.int .i64 0, .int .i64 0, .int .i64 0, .int .i64 0, .slice none 0 0], .bool false]) (by simp [results, Try.results59, go_sem, r0, r1, r2, r3, r4]) rfl ⟨.inr ⟨HND.out, rfl⟩, ?_⟩
          exact ((((HB6.out.setCell (by simp; omega) _).setCell (by simp; omega) _).setCell (by simp; omega) _).setCell (by simp; omega) _).setCell (by simp; omega) _
        | true =>
          have hfit := (oneB_iff x1).1 (by rw [← mayB_one S1.out]; exact HV2.out)
          have hnest := (fits_nest HU.out E1.out S1.out.1.1 S1.out.1.2.1).1 (by rw [HZ.out]; exact HV1.out)
          have hsz := hnest x1 E1.out
          have hsz1 := hsz.1
          have hsz2 := hsz.2.1
          rw [hla] at hsz2
          have hU2 := HU.out.succ E1.out hnest hfit
          have hkl := endsIn_len l k
          have HT := Lib.hid (ptake_to (s' := sumTo l (k + 1)) (i := (k : Int)) (HC5.out.on h3) (by rw [← HR.out]; exact take_sum HU.out E1.out hfit hsz1 HX1.out) (ends_next E1.out hsz1) (S2.out.below h3) hfit (sum_small HU.out (by omega)) HX1.out ⟨by omega, by omega⟩ ⟨by omega, by omega⟩ (by have := HR.out; omega))
          have HU2 := Lib.hid hU2
          have HX6 := Lib.hid (HX2.out.on h3)
          have HB6 := Lib.hid (HO5.out.step h3)
          clear hfit hnest hsz hsz1 hsz2 hU2 hkl h3
          go_wp2_with ((with_reducible refine stop_load 45 (.tmp 5) ?_ ?_); exact rfl; refine Stop.intro ?_; refine Go.Proofs.Ytamakeogaipdiaa.wpList_load_row rfl 45 (.tmp 5) rfl (wr.heap.size) rfl 45 (encM m1).toArray _ (HX6.out) Try.underlying45 rfl (by kernel_rfl) ?_)
          refine HT.out.mono ?_
          rintro e w6 ⟨rfl, ⟨A6, k6, c6, hC6⟩, hb6⟩
          have HC6 := Lib.hid hC6
          have HB7 := Lib.hid (show On w w6 from HB6.out.trans (hb6.mono (by omega)))
          clear hC6 hb6
          go_wp2_with fail
          go_roundw
          case rel => exact ⟨k + 1, A6, k6, c6, by omega, by go_num, HC6.out, HU2.out, HB7.out⟩
          case measure => simp [intOf]; omega
    · obtain rfl : k = n := by omega
      have HD := Lib.hid (HU.out.all (by omega))
      have hC6 := HC.out
      have HS := Lib.hid (show sumB l = sumTo l k by unfold sumB; rw [hla])
      have c0 := hC6.blk.box.2.2 0 _ rfl
      have c1' := hC6.blk.box.2.2 1 _ rfl
      have c2 := hC6.blk.box.2.2 2 _ rfl
      have c3 := hC6.blk.box.2.2 3 _ rfl
      have c4 := hC6.blk.box.2.2 4 _ rfl
      have f0 := hC6.blk.box.2.1 0
      have f1 := hC6.blk.box.2.1 1
      have f2 := hC6.blk.box.2.1 2
      have f3 := hC6.blk.box.2.1 3
      have f4 := hC6.blk.box.2.1 4
      have fl := hC6.blk.box.1
      have HK6 := Lib.hid hC6.blk
      clear hC6
      go_wp2_with fail
      have hY := (((((HK6.out.set 0 (.int .i64 (sumTo l k).depth)).set 1 (.int .i64 (sumTo l k).pieces)).set 2 (.int .i64 (sumTo l k).nodes)).set 3 (.int .i64 (sumTo l k).heights)).set 4 (.slice A1 k1 c1)).box
      have r0 := hY.2.2 0 _ rfl
      have r1 := hY.2.2 1 _ rfl
      have r2 := hY.2.2 2 _ rfl
      have r3 := hY.2.2 3 _ rfl
      have r4 := hY.2.2 4 _ rfl
      refine bodyPost_ret (v := .tuple #[.agg #[.int .i64 (sumTo l k).depth, .int .i64 (sumTo l k).pieces, .int .i64 (sumTo l k).nodes, .int .i64 (sumTo l k).heights, .slice A1 k1 c1], .bool true]) (by simp [results, Try.results59, go_sem, r0, r1, r2, r3, r4]) rfl ⟨.inl ⟨HD.out, A1, k1, c1, by rw [HS.out]⟩, ?_⟩
      exact ((((HO.out.setCell (by simp; omega) _).setCell (by simp; omega) _).setCell (by simp; omega) _).setCell (by simp; omega) _).setCell (by simp; omega) _
end Go.Proofs.Ytamakeogaipdiaa
