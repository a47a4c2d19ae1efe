import Derived.Test.YtamakeogaipdiaaJA14
import Derived.Test.YtamakeogaipdiaaJA01
import Derived.BigQuiet
/- The document's answers for package read: a text. -/
namespace Go.Proofs.Ytamakeogaipdiaa
open Go.RowKit
set_option linter.unusedVariables false
set_option linter.unusedSimpArgs false
set_option maxRecDepth 100000 in
set_option maxHeartbeats 4000000 in
theorem rtext5_any (toks : List Tok) (A : Option Addr) (n c' : Nat) (i : Nat) (w : World) (hR : Rows 4 encT w A n toks) (hi : i ≤ 1000000) (hn : n ≤ 1000000) (ho : sgB toks i 40 = true) :
    Calls Try.prog 68 #[.slice A n c', .int .i64 i] w (GotP toks false i w) := by
  obtain ⟨j0, hj0, hy0, hy1, hy2⟩ := info_parts int_info5
  have HR := Lib.hid hR
  have HO := Lib.hid ho
  clear hR ho
  go_enter Try.func68, Try.ntmps68
  go_wp2_with fail
  generalize hW : w.alloc (.cells #[.slice none 0 0, .int .i64 0, .int .i64 0] 72) = W
  have hG : Box W w.heap.size [.slice none 0 0, .int .i64 0, .int .i64 0] := by rw [← hW]; exact box_new _ _ _ _ rfl _ rfl
  have HB := Lib.hid (show Below w.heap.size w W by rw [← hW]; go_grown)
  have HR2 := Lib.hid (HR.out.below HB.out)
  clear hW
  have HG := Lib.hid hG
  obtain ⟨⟨g0, g1, g2⟩, ⟨f0, f1, f2⟩, g3⟩ := box3_of hG
  clear hG
  rcases h1 : nmB toks (i + 1) 1 maxN with _ | _
  · have HS := Lib.hid h1
    clear h1
    have k1 := rnum_to (c' := c') (x := (i : Int) + 1) (i := i + 1) (lo := 1) (hi := 1099511627776) (by omega) HS.out W HR2.out (by omega)
    go_wp2_with (first | (go_at_call 82; refine (rmost_any _).mono ?_; rintro e w' ⟨rfl, rfl⟩) | (go_at_call 80; with_reducible refine k1.mono ?_; rintro e w' ⟨rfl, rfl⟩))
    refine bodyPost_ret (v := gotV none 0 0 ((i + 1 : Nat) : Int) 1) (by simp [results, Try.results68, go_sem, g0, g1, g2, gotV]) rfl ?_
    exact ⟨_, .textL HO.out HS.out, rfl, Below.setCell (Below.setCell (Below.setCell HB.out (by go_size) _) (by go_size) _) (by go_size) _⟩
  have HN1 := Lib.hid h1
  have k1 := rnum_to (c' := c') (x := (i : Int) + 1) (i := i + 1) (lo := 1) (hi := 1099511627776) (by omega) h1 W HR2.out (by omega)
  rcases h2 : nmB toks (i + 2) 0 maxN with _ | _
  · have HS := Lib.hid h2
    clear h1 h2
    have k2 := rnum_to (c' := c') (x := (i : Int) + 2) (i := i + 2) (lo := 0) (hi := 1099511627776) (by omega) HS.out W HR2.out (by omega)
    go_wp2_with (first | (go_at_call 82; refine (rmost_any _).mono ?_; rintro e w' ⟨rfl, rfl⟩) | (go_at_call 80; with_reducible refine k1.mono ?_; rintro e w' ⟨rfl, rfl⟩) | (go_at_call 80; with_reducible refine k2.mono ?_; rintro e w' ⟨rfl, rfl⟩))
    refine bodyPost_ret (v := gotV none 0 0 ((i + 2 : Nat) : Int) 1) (by simp [results, Try.results68, go_sem, g0, g1, g2, gotV]) rfl ?_
    exact ⟨_, .textS HO.out HN1.out HS.out, rfl, Below.setCell (Below.setCell (Below.setCell HB.out (by go_size) _) (by go_size) _) (by go_size) _⟩
  have HN2 := Lib.hid h2
  have k2 := rnum_to (c' := c') (x := (i : Int) + 2) (i := i + 2) (lo := 0) (hi := 1099511627776) (by omega) h2 W HR2.out (by omega)
  obtain ⟨bl, off, rfl, hbl, hin1, _⟩ := tok_n HR.out h1
  obtain ⟨_, _, hA, _, _, t1⟩ := tok_n HR2.out h1
  cases hA
  obtain ⟨_, _, hA, _, hin2, t2⟩ := tok_n HR2.out h2
  cases hA
  obtain ⟨u, hu⟩ : ∃ u, nAt toks (i + 1) = u := ⟨_, rfl⟩
  obtain ⟨v, hv⟩ : ∃ v, nAt toks (i + 2) = v := ⟨_, rfl⟩
  rw [hu] at t1
  rw [hv] at t2
  have HU := Lib.hid hu
  have HV := Lib.hid hv
  have i1 : (i : Int) + 1 < (n : Int) := by omega
  have i2 : (i : Int) + 2 < (n : Int) := by omega
  clear h1 h2 hu hv
  go_wp2_with (first | (go_at_call 82; refine (rmost_any _).mono ?_; rintro e w' ⟨rfl, rfl⟩) | (go_at_call 80; with_reducible refine k1.mono ?_; rintro e w' ⟨rfl, rfl⟩) | (go_at_call 80; with_reducible refine k2.mono ?_; rintro e w' ⟨rfl, rfl⟩))
  have e1 : IntKind.i64.wrap ((i : Int) + 1) = (i : Int) + 1 := IntWalk.i64_in _ (by omega)
  have e2 : IntKind.i64.wrap ((i : Int) + 2) = (i : Int) + 2 := IntWalk.i64_in _ (by omega)
  have e1n : ((i : Int) + 1).toNat = i + 1 := by omega
  have e2n : ((i : Int) + 2).toNat = i + 2 := by omega
  have z1 : (0 : Int) ≤ (i : Int) + 1 := by omega
  have z2 : (0 : Int) ≤ (i : Int) + 2 := by omega
  have ht1 := On.cell t1
  have ht2 := On.cell t2
  refine wp_region_held_tail 14 (S := fun W' => On W W') (by kernel_rfl) (by kernel_rfl) rfl (On.refl _).drew (fun h0 => ?_)
  simp only [headOf, List.take_succ_cons, List.take_zero, List.getElem_toArray, List.getElem_cons_succ, List.getElem_cons_zero]
  refine wpAnyH_take (i := 0) (v := ?_) rfl (by kernel_rfl) (by kernel_rfl) (by kernel_rfl) (fun _ _ _ h => h) (Or.inl ⟨by rfl, ?_⟩) h0 ?_
  rotate_left
  · intro w hSw; (try dsimp only at hSw); go_simp; with_reducible rfl
  try simp only [Act.put, List.setIfInBounds_toArray, List.set_cons_zero, List.set_cons_succ]
  refine wpAnyH_take (i := 1) (v := ?_) rfl (by kernel_rfl) (by kernel_rfl) (by kernel_rfl) (fun _ _ _ h => h) (Or.inl ⟨by rfl, ?_⟩) h0 ?_
  rotate_left
  · intro w hSw; (try dsimp only at hSw); go_simp; with_reducible rfl
  try simp only [Act.put, List.setIfInBounds_toArray, List.set_cons_zero, List.set_cons_succ]
  refine wpAnyH_take (i := 2) (v := ?_) rfl (by kernel_rfl) (by kernel_rfl) (by kernel_rfl) (fun _ _ _ h => h) (Or.inl ⟨by rfl, ?_⟩) h0 ?_
  rotate_left
  · intro w hSw; (try dsimp only at hSw); go_simp; with_reducible rfl
  try simp only [Act.put, List.setIfInBounds_toArray, List.set_cons_zero, List.set_cons_succ]
  refine wpAnyH_take (i := 3) (v := ?_) rfl (by kernel_rfl) (by kernel_rfl) (by kernel_rfl) (fun _ _ _ h => h) (Or.inl ⟨by rfl, ?_⟩) h0 ?_
  rotate_left
  · intro w hSw; (try dsimp only at hSw); go_simp; with_reducible rfl
  try simp only [Act.put, List.setIfInBounds_toArray, List.set_cons_zero, List.set_cons_succ]
  refine wpAnyH_take (i := 4) (v := ?_) rfl (by kernel_rfl) (by kernel_rfl) (by kernel_rfl) (fun _ _ _ h => h) (Or.inl ⟨by rfl, ?_⟩) h0 ?_
  rotate_left
  · intro w hSw; (try dsimp only at hSw); go_simp; with_reducible rfl
  try simp only [Act.put, List.setIfInBounds_toArray, List.set_cons_zero, List.set_cons_succ]
  refine wpAnyH_take (i := 5) (v := ?_) rfl (by kernel_rfl) (by kernel_rfl) (by kernel_rfl) (fun _ _ _ h => h) (Or.inl ⟨by rfl, ?_⟩) h0 ?_
  rotate_left
  · intro w hSw; (try dsimp only at hSw); go_simp; with_reducible rfl
  try simp only [Act.put, List.setIfInBounds_toArray, List.set_cons_zero, List.set_cons_succ]
  refine wpAnyH_take (i := 6) (v := ?_) rfl (by kernel_rfl) (by kernel_rfl) (by kernel_rfl) (fun _ _ _ h => h) (Or.inl ⟨by rfl, ?_⟩) h0 ?_
  rotate_left
  · intro w hSw; (try dsimp only at hSw); go_simp; with_reducible rfl
  try simp only [Act.put, List.setIfInBounds_toArray, List.set_cons_zero, List.set_cons_succ]
  refine wpAnyH_take (i := 7) (v := ?_) rfl (by kernel_rfl) (by kernel_rfl) (by kernel_rfl) (fun _ _ _ h => h) (Or.inl ⟨by rfl, ?_⟩) h0 ?_
  rotate_left
  · intro w hSw; (try dsimp only at hSw); go_simp; with_reducible rfl
  try simp only [Act.put, List.setIfInBounds_toArray, List.set_cons_zero, List.set_cons_succ]
  refine wpAnyH_take (i := 8) (v := ?_) rfl (by kernel_rfl) (by kernel_rfl) (by kernel_rfl) (fun _ _ _ h => h) (Or.inl ⟨by rfl, ?_⟩) h0 ?_
  rotate_left
  · intro w hSw; (try dsimp only at hSw); go_simp; with_reducible rfl
  try simp only [Act.put, List.setIfInBounds_toArray, List.set_cons_zero, List.set_cons_succ]
  refine wpAnyH_take (i := 9) (v := ?_) rfl (by kernel_rfl) (by kernel_rfl) (by kernel_rfl) (fun _ _ _ h => h) (Or.inl ⟨by rfl, ?_⟩) h0 ?_
  rotate_left
  · intro w hSw; (try dsimp only at hSw); go_simp; with_reducible rfl
  try simp only [Act.put, List.setIfInBounds_toArray, List.set_cons_zero, List.set_cons_succ]
  refine wpAnyH_take (i := 10) (v := ?_) rfl (by kernel_rfl) (by kernel_rfl) (by kernel_rfl) (fun _ _ _ h => h) (Or.inl ⟨by rfl, ?_⟩) h0 ?_
  rotate_left
  · intro w hSw; (try dsimp only at hSw); go_simp; with_reducible rfl
  try simp only [Act.put, List.setIfInBounds_toArray, List.set_cons_zero, List.set_cons_succ]
  refine wpAnyH_take (i := 11) (v := ?_) rfl (by kernel_rfl) (by kernel_rfl) (by kernel_rfl) (fun _ _ _ h => h) (Or.inl ⟨by rfl, ?_⟩) h0 ?_
  rotate_left
  · intro w hSw; (try dsimp only at hSw); go_simp; with_reducible rfl
  try simp only [Act.put, List.setIfInBounds_toArray, List.set_cons_zero, List.set_cons_succ]
  refine wpAnyH_take (i := 12) (v := ?_) rfl (by kernel_rfl) (by kernel_rfl) (by kernel_rfl) (fun _ _ _ h => h) (Or.inl ⟨by rfl, ?_⟩) h0 ?_
  rotate_left
  · intro w hSw; (try dsimp only at hSw); go_simp; with_reducible rfl
  try simp only [Act.put, List.setIfInBounds_toArray, List.set_cons_zero, List.set_cons_succ]
  refine wpAnyH_ready (rs := [13]) (by kernel_rfl) (by simp) ?_
  refine AllReadyH.cons rfl (fun K hK => ?_) AllReadyH.nil
  go_simp
  refine hK.out _ _ (On.alloc h0 _) (fun h1 => ?_)
  clear hK K
  try simp only [Act.put, List.setIfInBounds_toArray, List.set_cons_zero, List.set_cons_succ]
  refine wpAnyH_done (by kernel_rfl) ?_ _
  show wpList _ _ _ _ _ _
  have hbk : Blk (W.alloc (.cells #[.int .i64 0, .int .i64 0, .int .i64 0, .int .i64 0, .int .i64 0, .int .i64 0, .int .i64 0, .int .i64 0, .int .i64 0, .int .i64 0, .int .i64 0, .int .i64 0, .int .i64 0, .int .i64 0, .int .i64 0, .int .i64 0, .slice none 0 0, .int .i64 0, .int .i64 0, .int .i64 0] 45)).drew W.heap.size 45 [.int .i64 0, .int .i64 0, .int .i64 0, .int .i64 0, .int .i64 0, .int .i64 0, .int .i64 0, .int .i64 0, .int .i64 0, .int .i64 0, .int .i64 0, .int .i64 0, .int .i64 0, .int .i64 0, .int .i64 0, .int .i64 0, .slice none 0 0, .int .i64 0, .int .i64 0, .int .i64 0] := Blk.new W _ _ _ rfl _ rfl
  refine wpList_store_row rfl 45 (.tmp 5) (.tmp 37) rfl W.heap.size rfl 45 #[.int .i64 0, .int .i64 0, .int .i64 0, .int .i64 0, .int .i64 0, .int .i64 0, .int .i64 0, .int .i64 0, .int .i64 0, .int .i64 0, .int .i64 0, .int .i64 0, .int .i64 0, .int .i64 0, .int .i64 0, .int .i64 0, .slice none 0 0, .int .i64 0, .int .i64 0, .int .i64 0] #[.int .i64 2, .int .i64 1, .int .i64 0, .int .i64 0, .int .i64 0, .int .i64 0, .int .i64 0, .int .i64 0, .int .i64 0, .int .i64 0, .int .i64 0, .int .i64 0, .int .i64 0, .int .i64 0, .int .i64 u, .int .i64 v, .slice none 0 0, .int .i64 0, .int .i64 0, .int .i64 0] rfl hbk (by kernel_rfl) rfl (by simp [Value.oneCell']) ?_
  intro V hV
  have hx := (hbk.row [.int .i64 2, .int .i64 1, .int .i64 0, .int .i64 0, .int .i64 0, .int .i64 0, .int .i64 0, .int .i64 0, .int .i64 0, .int .i64 0, .int .i64 0, .int .i64 0, .int .i64 0, .int .i64 0, .int .i64 u, .int .i64 v, .slice none 0 0, .int .i64 0, .int .i64 0, .int .i64 0] #[.int .i64 2, .int .i64 1, .int .i64 0, .int .i64 0, .int .i64 0, .int .i64 0, .int .i64 0, .int .i64 0, .int .i64 0, .int .i64 0, .int .i64 0, .int .i64 0, .int .i64 0, .int .i64 0, .int .i64 u, .int .i64 v, .slice none 0 0, .int .i64 0, .int .i64 0, .int .i64 0] rfl)
  rw [← hV] at hx
  have hg : Box V w.heap.size [.slice none 0 0, .int .i64 0, .int .i64 0] := by
    have := (HG.out.alloc (.cells #[.int .i64 0, .int .i64 0, .int .i64 0, .int .i64 0, .int .i64 0, .int .i64 0, .int .i64 0, .int .i64 0, .int .i64 0, .int .i64 0, .int .i64 0, .int .i64 0, .int .i64 0, .int .i64 0, .int .i64 0, .int .i64 0, .slice none 0 0, .int .i64 0, .int .i64 0, .int .i64 0] 45)).drew
    rw [hV]
    exact this.grown (row := some W.heap.size) ⟨rfl, rfl, rfl, by rw [setRow_size]; exact Nat.le_refl _, fun k _ hk => setRow_other (fun e => hk (by rw [e]))⟩ (fun k e => by cases e; omega)
  have HBV := Lib.hid (show Below w.heap.size w V by rw [hV]; exact below_setRow ((HB.out.alloc (by have := HB.out.size; omega) _).drew) (by have := HB.out.size; omega) _)
  have HRV := Lib.hid (HR.out.below HBV.out)
  have hVs : V.heap.size = W.heap.size + 1 := by rw [hV, setRow_size]; simp
  have hWs : w.heap.size < W.heap.size := g3
  clear hV hbk h0 h1 HR2 HG g0 g1 g2 g3 f0 f1 f2 HB k1 k2 t1 t2 ht1 ht2
  obtain ⟨X, hX⟩ : ∃ X, W.heap.size = X := ⟨_, rfl⟩
  rw [hX] at hx hVs hWs ⊢
  clear hX
  have HX := Lib.hid hx
  have HG := Lib.hid hg
  have HW0 := Lib.hid (show ∀ r b, Words toks (i + 3) [] r b → Words toks (i + 3) [] r b from fun _ _ h => h)
  have hlen := HR.out.1
  clear hx hg
  go_wp2_with fail
  go_loopw [6] (fun kk wr => ∃ (k m c1 : Nat) (A1 : Option Addr) (ws : List Int), kk = .int .i64 k ∧ i + 3 ≤ k ∧ k ≤ n ∧ m ≤ k ∧ (∀ r b, Words toks k ws r b → Words toks (i + 3) [] r b) ∧ Blk wr X 45 [.int .i64 2, .int .i64 1, .int .i64 0, .int .i64 0, .int .i64 0, .int .i64 0, .int .i64 0, .int .i64 0, .int .i64 0, .int .i64 0, .int .i64 0, .int .i64 0, .int .i64 0, .int .i64 0, .int .i64 u, .int .i64 v, .slice A1 m c1, .int .i64 0, .int .i64 0, .int .i64 0] ∧ wr.ownsRow (X + 1) 3 1 (.slice A1 m c1) m (ws.map (Value.int .i64)) ∧ Box wr w.heap.size [.slice none 0 0, .int .i64 0, .int .i64 0] ∧ Below w.heap.size w wr ∧ X < wr.heap.size) (fun kk _ => n + 5 - (intOf kk).toNat)
  case atStart => exact ⟨i + 3, 0, 0, none, [], by go_num, by omega, by omega, by omega, HW0.out, HX.out, owns_nil _ _ _ _, HG.out, HBV.out, by omega⟩
  case round =>
    clear HX HG HBV HRV hVs
    obtain ⟨k, m, c1, A1, ws, rfl, hk1, hk2, hm, hws, hx, ho, hg, hb, hxl⟩ := hrel
    have HRr := Lib.hid (HR.out.below hb)
    have HWs := Lib.hid hws
    have HX := Lib.hid hx
    have HO1 := Lib.hid ho
    have HG := Lib.hid hg
    have HB := Lib.hid hb
    have hml : ws.length = m := by have := ho.1; simpa using this
    clear hws hx ho hg hb
    rcases hs : nmB toks k 1 maxN with _ | _
    · have HWE := Lib.hid (HWs.out ws k (.stop hs))
      have kk1 := rnum_to (c' := c') (x := (k : Int)) (i := k) (lo := 1) (hi := 1099511627776) rfl hs wr HRr.out (by omega)
      clear hs
      have x16 : wr.cell? ⟨X, 16, none⟩ = some (.slice A1 m c1) := HX.out.box.2.2 16 _ rfl
      obtain ⟨⟨g0, g1, g2⟩, ⟨f0, f1, f2⟩, g3⟩ := box3_of HG.out
      by_cases hm0 : m = 0
      · have HW0 := Lib.hid (show ws = [] by rw [← hml] at hm0; exact List.length_eq_zero_iff.1 hm0)
        subst hm0
        go_wp2_with (first | (go_at_call 82; refine (rmost_any _).mono ?_; rintro e w' ⟨rfl, rfl⟩) | (go_at_call 80; with_reducible refine kk1.mono ?_; rintro e w' ⟨rfl, rfl⟩))
        refine bodyPost_ret (v := gotV none 0 0 (k : Int) 1) (by simp [results, Try.results68, go_sem, g0, g1, g2, gotV]) rfl ?_
        exact ⟨_, .textW HO.out HN1.out HN2.out HWE.out (.inl HW0.out), rfl, Below.setCell (Below.setCell (Below.setCell HB.out (by go_size) _) (by go_size) _) (by go_size) _⟩
      have hm2 : ((m : Int) == 0) = false := by simp; omega
      have hwne : ws ≠ [] := fun e => hm0 (by rw [← hml, e]; rfl)
      rcases hs2 : sgB toks k 41 with _ | _
      · have kk2 := rsign_at (c' := c') (x := (k : Int)) (i := k) (c := 41) rfl hs2 wr HRr.out (by omega)
        have HS2 := Lib.hid hs2
        clear hs2
        go_wp2_with (first | (go_at_call 82; refine (rmost_any _).mono ?_; rintro e w' ⟨rfl, rfl⟩) | (go_at_call 80; with_reducible refine kk1.mono ?_; rintro e w' ⟨rfl, rfl⟩) | (go_at_call 57; with_reducible refine kk2.mono ?_; rintro e w' ⟨rfl, rfl⟩))
        refine bodyPost_ret (v := gotV none 0 0 (k : Int) 1) (by simp [results, Try.results68, go_sem, g0, g1, g2, gotV]) rfl ?_
        exact ⟨_, .textW HO.out HN1.out HN2.out HWE.out (.inr HS2.out), rfl, Below.setCell (Below.setCell (Below.setCell HB.out (by go_size) _) (by go_size) _) (by go_size) _⟩
      · have kk2 := rsign_at (c' := c') (x := (k : Int)) (i := k) (c := 41) rfl hs2 wr HRr.out (by omega)
        have HS2 := Lib.hid hs2
        clear hs2
        go_wp2_with (first | (go_at_call 82; refine (rmost_any _).mono ?_; rintro e w' ⟨rfl, rfl⟩) | (go_at_call 80; with_reducible refine kk1.mono ?_; rintro e w' ⟨rfl, rfl⟩) | (go_at_call 57; with_reducible refine kk2.mono ?_; rintro e w' ⟨rfl, rfl⟩) | (refine wpList_load_row rfl 45 (.tmp 5) rfl X rfl 45 #[.int .i64 2, .int .i64 1, .int .i64 0, .int .i64 0, .int .i64 0, .int .i64 0, .int .i64 0, .int .i64 0, .int .i64 0, .int .i64 0, .int .i64 0, .int .i64 0, .int .i64 0, .int .i64 0, .int .i64 u, .int .i64 v, .slice A1 m c1, .int .i64 0, .int .i64 0, .int .i64 0] _ HX.out Try.underlying45 rfl (by kernel_rfl) ?_))
        have hS1 := (((HG.out.set 0 (.slice (some ⟨wr.heap.size, 0, none⟩) 1 1) (by simp)).set 1 (.int .i64 ((k : Int) + 1)) (by simp)).set 2 (.int .i64 0) (by simp))
        have hO1 := owns_set (owns_set (owns_set HO1.out (m := w.heap.size) (by omega) 0 (.slice (some ⟨wr.heap.size, 0, none⟩) 1 1)) (m := w.heap.size) (by omega) 1 (.int .i64 ((k : Int) + 1))) (m := w.heap.size) (by omega) 2 (.int .i64 0)
        obtain ⟨S, hS⟩ : ∃ S, ((wr.setCell ⟨w.heap.size, 0, none⟩ (.slice (some ⟨wr.heap.size, 0, none⟩) 1 1)).setCell ⟨w.heap.size, 1, none⟩ (.int .i64 ((k : Int) + 1))).setCell ⟨w.heap.size, 2, none⟩ (.int .i64 0) = S := ⟨_, rfl⟩
        have hSs : S.heap.size = wr.heap.size := by rw [← hS]; simp
        have hSB : Below w.heap.size w S := by
          rw [← hS]
          exact Below.setCell (Below.setCell (Below.setCell HB.out (by go_size) _) (by go_size) _) (by go_size) _
        rw [hS] at hS1 hO1 ⊢
        clear hS
        have hbx : Box (S.alloc (.cells #[.int .i64 2, .int .i64 1, .int .i64 0, .int .i64 0, .int .i64 0, .int .i64 0, .int .i64 0, .int .i64 0, .int .i64 0, .int .i64 0, .int .i64 0, .int .i64 0, .int .i64 0, .int .i64 0, .int .i64 u, .int .i64 v, .slice A1 m c1, .int .i64 0, .int .i64 0, .int .i64 0] 45)) wr.heap.size (([⟨2, 1, .none, u, v, A1, m, c1, 0, 0, 0⟩] : List NdM).flatMap encM) := box_new S _ _ _ hSs.symm _ rfl
        have hS2 := hS1.alloc (.cells #[.int .i64 2, .int .i64 1, .int .i64 0, .int .i64 0, .int .i64 0, .int .i64 0, .int .i64 0, .int .i64 0, .int .i64 0, .int .i64 0, .int .i64 0, .int .i64 0, .int .i64 0, .int .i64 0, .int .i64 u, .int .i64 v, .slice A1 m c1, .int .i64 0, .int .i64 0, .int .i64 0] 45)
        have hO2 := owns_below hO1 ((Below.refl _ S).alloc (Nat.le_refl _) (.cells #[.int .i64 2, .int .i64 1, .int .i64 0, .int .i64 0, .int .i64 0, .int .i64 0, .int .i64 0, .int .i64 0, .int .i64 0, .int .i64 0, .int .i64 0, .int .i64 0, .int .i64 0, .int .i64 0, .int .i64 u, .int .i64 v, .slice A1 m c1, .int .i64 0, .int .i64 0, .int .i64 0] 45))
        obtain ⟨⟨g0, g1, g2⟩, _, _⟩ := box3_of hS2
        refine bodyPost_ret (v := gotV (some ⟨wr.heap.size, 0, none⟩) 1 1 ((k : Int) + 1) 0) (by simp [results, Try.results68, go_sem, g0, g1, g2, gotV]) rfl ?_
        exact ⟨_, .text HO.out HN1.out HN2.out HWE.out hwne HS2.out, some ⟨wr.heap.size, 0, none⟩, 1, 1, rfl, ⟨_, rows_box encM_len hbx (by simp), Holds2.one ⟨⟨rfl, rfl, rfl, HU.out, HV.out, rfl, rfl, rfl⟩, owns_up hO2 (by omega)⟩, Far.at_ (by have := HB.out.size; omega)⟩, hSB.alloc (by have := HB.out.size; omega) _⟩
    · have HN := Lib.hid hs
      have kk1 := rnum_to (c' := c') (x := (k : Int)) (i := k) (lo := 1) (hi := 1099511627776) rfl hs wr HRr.out (by omega)
      have hkl := nmB_lt hs
      obtain ⟨_, _, hA, _, hik, t1⟩ := tok_n HRr.out hs
      cases hA
      obtain ⟨q, hq⟩ : ∃ q, nAt toks k = q := ⟨_, rfl⟩
      rw [hq] at t1
      have HQ := Lib.hid hq
      have i3 : (k : Int) < (n : Int) := by omega
      clear hs hq
      have x16 : wr.cell? ⟨X, 16, none⟩ = some (.slice A1 m c1) := HX.out.box.2.2 16 _ rfl
      have y16 : wr.frozen? ⟨X, 16, none⟩ = false := HX.out.box.2.1 16
      go_wp2_with (first | (go_at_call 82; refine (rmost_any _).mono ?_; rintro e w' ⟨rfl, rfl⟩) | (go_at_call 80; with_reducible refine kk1.mono ?_; rintro e w' ⟨rfl, rfl⟩))
      have ht1 : ∀ W', Below (X + 1) wr W' → W'.cell? ⟨bl, off + k * 4 + 2, none⟩ = some (.int .i64 q) := fun W' h => (h.cell (p := ⟨bl, _, none⟩) (by simp only; omega)).trans t1
      have ht2 : ∀ W', Below (X + 1) wr W' → W'.cell? ⟨X, 16, none⟩ = some (.slice A1 m c1) := fun W' h => (h.cell (p := ⟨X, _, none⟩) (by simp only; omega)).trans x16
      refine wp_region_held_tail 10 (S := fun W' => Below (X + 1) wr W') (by kernel_rfl) (by kernel_rfl) rfl (Below.refl _ _).drew (fun h0 => ?_)
      simp only [headOf, List.take_succ_cons, List.take_zero, List.getElem_toArray, List.getElem_cons_succ, List.getElem_cons_zero]
      refine wpAnyH_take (i := 0) (v := ?_) rfl (by kernel_rfl) (by kernel_rfl) (by kernel_rfl) (fun _ _ _ h => h) (Or.inl ⟨by rfl, ?_⟩) h0 ?_
      rotate_left
      · intro w hSw; (try dsimp only at hSw); go_simp; with_reducible rfl
      try simp only [Act.put, List.setIfInBounds_toArray, List.set_cons_zero, List.set_cons_succ]
      refine wpAnyH_take (i := 1) (v := ?_) rfl (by kernel_rfl) (by kernel_rfl) (by kernel_rfl) (fun _ _ _ h => h) (Or.inl ⟨by rfl, ?_⟩) h0 ?_
      rotate_left
      · intro w hSw; (try dsimp only at hSw); go_simp; with_reducible rfl
      try simp only [Act.put, List.setIfInBounds_toArray, List.set_cons_zero, List.set_cons_succ]
      refine wpAnyH_take (i := 2) (v := ?_) rfl (by kernel_rfl) (by kernel_rfl) (by kernel_rfl) (fun _ _ _ h => h) (Or.inl ⟨by rfl, ?_⟩) h0 ?_
      rotate_left
      · intro w hSw; (try dsimp only at hSw); go_simp; with_reducible rfl
      try simp only [Act.put, List.setIfInBounds_toArray, List.set_cons_zero, List.set_cons_succ]
      refine wpAnyH_take (i := 3) (v := ?_) rfl (by kernel_rfl) (by kernel_rfl) (by kernel_rfl) (fun _ _ _ h => h) (Or.inl ⟨by rfl, ?_⟩) h0 ?_
      rotate_left
      · intro w hSw; (try dsimp only at hSw); go_simp; with_reducible rfl
      try simp only [Act.put, List.setIfInBounds_toArray, List.set_cons_zero, List.set_cons_succ]
      refine wpAnyH_take (i := 4) (v := ?_) rfl (by kernel_rfl) (by kernel_rfl) (by kernel_rfl) (fun _ _ _ h => h) (Or.inl ⟨by rfl, ?_⟩) h0 ?_
      rotate_left
      · intro w hSw; (try dsimp only at hSw); go_simp; with_reducible rfl
      try simp only [Act.put, List.setIfInBounds_toArray, List.set_cons_zero, List.set_cons_succ]
      refine wpAnyH_take (i := 5) (v := ?_) rfl (by kernel_rfl) (by kernel_rfl) (by kernel_rfl) (fun _ _ _ h => h) (Or.inl ⟨by rfl, ?_⟩) h0 ?_
      rotate_left
      · intro w hSw; (try dsimp only at hSw); go_simp; with_reducible rfl
      try simp only [Act.put, List.setIfInBounds_toArray, List.set_cons_zero, List.set_cons_succ]
      refine wpAnyH_take (i := 6) (v := ?_) rfl (by kernel_rfl) (by kernel_rfl) (by kernel_rfl) (fun _ _ _ h => h) (Or.inl ⟨by rfl, ?_⟩) h0 ?_
      rotate_left
      · intro w hSw; (try dsimp only at hSw); go_simp; with_reducible rfl
      try simp only [Act.put, List.setIfInBounds_toArray, List.set_cons_zero, List.set_cons_succ]
      refine wpAnyH_ready (rs := [7]) (by kernel_rfl) (by simp) ?_
      refine AllReadyH.cons rfl (fun K hK => ?_) AllReadyH.nil
      go_simp
      refine hK.out _ _ (h0.alloc (by simp; omega) _) (fun h1 => ?_)
      clear hK K
      try simp only [Act.put, List.setIfInBounds_toArray, List.set_cons_zero, List.set_cons_succ]
      have hO4 := owns_below HO1.out (w' := wr.drew.alloc (.cells #[.int .i64 q] 3)) (by go_grown)
      have hX4 : Blk (wr.drew.alloc (.cells #[.int .i64 q] 3)) X 45 [.int .i64 2, .int .i64 1, .int .i64 0, .int .i64 0, .int .i64 0, .int .i64 0, .int .i64 0, .int .i64 0, .int .i64 0, .int .i64 0, .int .i64 0, .int .i64 0, .int .i64 0, .int .i64 0, .int .i64 u, .int .i64 v, .slice A1 m c1, .int .i64 0, .int .i64 0, .int .i64 0] := HX.out.drew.alloc _
      have hG4 : Box (wr.drew.alloc (.cells #[.int .i64 q] 3)) w.heap.size [.slice none 0 0, .int .i64 0, .int .i64 0] := HG.out.drew.alloc _
      have hB4 : Below w.heap.size w (wr.drew.alloc (.cells #[.int .i64 q] 3)) := HB.out.drew.alloc (by simp; omega) _
      have hC4 := (Ints.new1 wr.drew 3 q).cells
      refine wpAnyH_ready (rs := [8]) (by kernel_rfl) (by simp) ?_
      refine AllReadyH.cons rfl (fun K hK => ?_) AllReadyH.nil
      refine step_append_cells _ rfl (.tmp 45) (.tmp 51) _ rfl (X + 1) 3 j0 (.int .i64 0) 1 8 Try.underlying23 hj0 hy0 hy1 hy2 rfl (by decide) _ m _ rfl hO4 _ 1 1 _ rfl hC4 (by intro u hu; simp at hu; subst hu; rfl) (by unfold maxLen; omega) (by omega) (by simp; omega) ?_
      intro A4 c4 w4 hown4 hg4
      have hb4 : Below (X + 1) (wr.drew.alloc (.cells #[.int .i64 q] 3)) w4 := (Below.refl _ _).grown hg4 (by simp; omega) (owns_block hO4)
      have hX5 := hX4.grown hg4 (fun r e => by have := owns_block hO4 r e; omega)
      have hG5 := hG4.grown hg4 (fun r e => by have := owns_block hO4 r e; omega)
      have hB5 : Below w.heap.size w w4 := hB4.trans (hb4.mono (by omega))
      refine hK.out _ _ (h1.trans hb4) (fun h2 => ?_)
      clear hK K
      try simp only [Act.put, List.setIfInBounds_toArray, List.set_cons_zero, List.set_cons_succ]
      refine wpAnyH_take (i := 9) (v := ?_) rfl (by kernel_rfl) (by kernel_rfl) (by kernel_rfl) (fun _ _ _ h => h) (Or.inl ⟨by rfl, ?_⟩) h2 ?_
      rotate_left
      · intro w hSw; (try dsimp only at hSw); go_simp; with_reducible rfl
      try simp only [Act.put, List.setIfInBounds_toArray, List.set_cons_zero, List.set_cons_succ]
      refine wpAnyH_done (by kernel_rfl) ?_ _
      show wpList _ _ _ _ _ _
      have x164 : w4.cell? ⟨X, 16, none⟩ = some (.slice A1 m c1) := hX5.box.2.2 16 _ rfl
      have y164 : w4.frozen? ⟨X, 16, none⟩ = false := hX5.box.2.1 16
      have hX6 : Blk (w4.setCell ⟨X, 16, none⟩ (.slice A4 (m + 1) c4)) X 45 [.int .i64 2, .int .i64 1, .int .i64 0, .int .i64 0, .int .i64 0, .int .i64 0, .int .i64 0, .int .i64 0, .int .i64 0, .int .i64 0, .int .i64 0, .int .i64 0, .int .i64 0, .int .i64 0, .int .i64 u, .int .i64 v, .slice A4 (m + 1) c4, .int .i64 0, .int .i64 0, .int .i64 0] := hX5.set 16 _
      have hX6H := Lib.hid hX6
      have hG6 := Lib.hid (hG5.set_other (m := X) (by omega) 16 (.slice A4 (m + 1) c4))
      have hB6 := Lib.hid (Below.setCell hB5 (p := ⟨X, 16, none⟩) (by simp only; omega) (.slice A4 (m + 1) c4))
      have hO6 := Lib.hid (owns_set hown4 (m := X) (by omega) 16 (.slice A4 (m + 1) c4))
      have hsz4 : X < w4.heap.size := by have := hb4.size; simp at this; omega
      have hWs6 := Lib.hid (show ∀ r b, Words toks (k + 1) (ws ++ [q]) r b → Words toks (i + 3) [] r b from fun r b h => HWs.out r b (.step HN.out (by rw [HQ.out]; exact h)))
      clear hX6 hX5 hG5 hB5 hown4 hg4 hb4 h2 h1 h0 hO4 hX4 hG4 hB4 hC4 ht1 ht2 x16 y16
      go_wp2_with fail
      go_roundw
      case rel => exact ⟨k + 1, m + 1, c4, A4, ws ++ [q], by go_num, by omega, by omega, by omega, hWs6.out, hX6H.out, by rw [List.map_append]; exact hO6.out, hG6.out, hB6.out, by simp; omega⟩
      case measure => simp [intOf]; omega
end Go.Proofs.Ytamakeogaipdiaa
