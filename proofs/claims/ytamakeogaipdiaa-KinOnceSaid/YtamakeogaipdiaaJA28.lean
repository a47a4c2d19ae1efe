import Derived.Test.YtamakeogaipdiaaJA26
import Derived.Test.YtamakeogaipdiaaJA12
import Derived.Test.YtamakeogaipdiaaJA01
import Derived.BigQuiet
import Derived.Laws.BytesArg
/- The document's answers for package read: a block, given what nodes are read as. (Written by program: tools/drafts/genblock.py.) -/
namespace Go.Proofs.Ytamakeogaipdiaa
open Go.RowKit
set_option linter.unusedVariables false
set_option linter.unusedSimpArgs false
theorem letterB_mem {l : List Tok} {i : Nat} {told : List Int} {c : Int} (h : letterB l i told = c) (hc : c ≠ 0) : c ∈ lettersB ∧ sgB l i c = true ∧ c ∉ told := by
  unfold letterB at h
  rcases hf : lettersB.find? (sgB l i) with _ | d
  · rw [hf] at h; exact absurd h.symm hc
  · rw [hf] at h
    simp only at h
    split at h
    · exact absurd h.symm hc
    · subst h; rename_i hn; exact ⟨List.mem_of_find?_eq_some hf, List.find?_some hf, hn⟩
theorem rletter_to {toks : List Tok} {A : Option Addr} {n c' : Nat} {i : Nat} {told : ByteArray} {v : Int} (hv : letterB toks i (bytesI told) = v) (w : World) (hR : Rows 4 encT w A n toks) (hi : i ≤ 1000000) (ht : told.size ≤ 2000000) :
    Calls Try.prog 78 #[.slice A n c', .int .i64 i, .string told] w fun e w' => e = .returned (.int .u8 v) ∧ Below w.heap.size w w' := by
  subst hv; exact rletter_any toks A n c' i told w hR hi ht
theorem rlimits_to {c lo hi : Int} (h : limitB c = (lo, hi)) (hc : c ∈ lettersB) (w : World) : Calls Try.prog 79 #[.int .u8 c] w fun e w' => e = .returned (.tuple #[.int .i64 lo, .int .i64 hi]) ∧ w = w' := by
  have := rlimits_any c hc w
  rw [h] at this
  exact this
theorem rwith_to {s s' : Sty} {c n : Int} (h : withB s c n = s') (hc : c ∈ lettersB) (w : World) : Calls Try.prog 81 #[.agg (encS12 s).toArray, .int .u8 c, .int .i64 n] w fun e w' => e = .returned (.agg (encS12 s').toArray) ∧ Below w.heap.size w w' := by
  subst h; exact rwith_any s c hc n w
theorem letters_bd : ∀ c ∈ lettersB, 0 < c ∧ c < 128 := by decide
theorem bytesI_snoc (t u : ByteArray) (c : Int) (hu : u.size = 1) (hb : bAt u 0 = c) : bytesI (t ++ u) = bytesI t ++ [c] := by
  have h1 : (t ++ u).size = t.size + 1 := by rw [ByteArray.size_append, hu]
  unfold bytesI
  rw [h1, List.range_succ, List.map_append]
  congr 1
  · refine List.map_congr_left fun k hk => ?_
    exact bAt_left t u k (List.mem_range.1 hk)
  · have := bAt_right t u 0
    simp only [List.map_cons, List.map_nil]
    rw [Nat.add_zero] at this
    rw [this, hb]
set_option maxRecDepth 100000 in
set_option maxHeartbeats 4000000 in
theorem rblock_any (toks : List Tok) (A : Option Addr) (n c' : Nat) (i : Nat) (w : World) (hR : Rows 4 encT w A n toks) (hi : i ≤ 900000) (hn : n ≤ 900000) (ho : sgB toks i 91 = true)
    (hN : ∀ a w', i < a → a ≤ n → Rows 4 encT w' A n toks → Calls Try.prog 40 #[.slice A n c', .int .i64 a] w' (GotP toks true a w')) :
    Calls Try.prog 67 #[.slice A n c', .int .i64 i] w (GotP toks false i w) := by
  have HR := Lib.hid hR
  have HO := Lib.hid ho
  have HN := Lib.hid hN
  have hil := sgB_lt ho
  have hlen := hR.1
  clear hR ho hN
  obtain ⟨j0, hj0, hy0, hy1, hy2⟩ := info_parts node_info5
  obtain ⟨D, hD⟩ : ∃ D, w.heap.size = D := ⟨_, rfl⟩
  go_enter Try.func67, Try.ntmps67
  go_wp2_with fail
  generalize hW : (w.alloc (.cells #[.slice none 0 0, .int .i64 0, .int .i64 0] 72)).alloc (.cells #[.int .i64 0, .int .i64 0, .int .i64 0, .int .i64 0, .int .i64 0, .int .i64 2, .int .i64 2, .int .i64 0, .int .i64 0, .int .i64 0, .int .i64 0, .int .i64 0] 43) = W
  have hS : Blk W (D + 1) 43 (encS12 .plain) := by rw [← hW]; exact Blk.new _ _ _ _ (by simp; omega) _ rfl
  have hG : Box W D [.slice none 0 0, .int .i64 0, .int .i64 0] := by rw [← hW]; exact (box_new w _ _ _ hD.symm _ rfl).alloc _
  have hB : Below D w W := by rw [← hW, ← hD]; go_grown
  have hsW : D + 1 < W.heap.size := by rw [← hW]; simp; omega
  clear hW
  have HS := Lib.hid hS
  have HG := Lib.hid hG
  have HB := Lib.hid hB
  have HA0 := Lib.hid (show ∀ r, Attrs toks (i + 1) .plain (bytesI ⟨#[]⟩) r → Attrs toks (i + 1) .plain [] r from fun r h => h)
  clear hS hG hB
  go_loopw [1, 6] (fun aa tt wr => ∃ (a : Nat) (told : ByteArray) (sty : Sty), aa = .int .i64 a ∧ tt = .string told ∧ i + 1 ≤ a ∧ a ≤ n ∧ told.size ≤ a ∧ (∀ r, Attrs toks a sty (bytesI told) r → Attrs toks (i + 1) .plain [] r) ∧ Blk wr (D + 1) 43 (encS12 sty) ∧ Box wr D [.slice none 0 0, .int .i64 0, .int .i64 0] ∧ Below D w wr ∧ D + 1 < wr.heap.size) (fun aa _ _ => n + 5 - (intOf aa).toNat)
  case atStart => exact ⟨i + 1, ⟨#[]⟩, .plain, by go_num, rfl, by omega, by omega, Nat.zero_le _, HA0.out, HS.out, HG.out, HB.out, hsW⟩
  case round =>
    clear HS HG HB hsW HA0
    obtain ⟨a, told, sty, rfl, rfl, ha1, ha2, htd, hat, hs, hg, hb, hsz⟩ := hrel
    have HA := Lib.hid hat
    have HS := Lib.hid hs
    have HG := Lib.hid hg
    have HB := Lib.hid hb
    have HRr := Lib.hid (HR.out.below (hD ▸ hb))
    have HBx := Lib.hid (Below.refl wr.heap.size wr)
    clear hat hs hg hb
    obtain ⟨c, hc⟩ : ∃ c, letterB toks a (bytesI told) = c := ⟨_, rfl⟩
    have HC := Lib.hid hc
    by_cases hc0 : c = 0
    · subst hc0
      have HAE := Lib.hid (HA.out _ (.stop hc))
      clear hc
      go_wp2_with (go_at_call 78; refine (rletter_to HC.out _ HRr.out (by omega) (by omega)).mono ?_; rintro e w1 ⟨rfl, hb1⟩)
      refine (HN.out a _ (by omega) (by omega) (HRr.out.below hb1)).mono ?_
      rintro e w2 ⟨r, hp, hgr⟩
      have hb12 : Below D w w1 := HB.out.trans (hb1.mono (by omega))
      have HG1 := Lib.hid (HG.out.below hb1)
      have HS1 := Lib.hid (HS.out.on hb1)
      have hsz1 := hb1.size
      cases r with
      | bad q =>
        obtain ⟨rfl, hb2⟩ := hgr.bad
        have HP := Lib.hid hp
        have HB2 := Lib.hid (hb12.trans (hb2.mono (by omega)))
        have hG2 := HG1.out.below hb2
        have HG2 := Lib.hid hG2
        obtain ⟨⟨g0, g1, g2⟩, ⟨f0, f1, f2⟩, g3⟩ := box3_of hG2
        have hne : D ≠ w2.heap.size := by omega
        have hsz2 := hb2.size
        clear hb1 hb2 hp hb12 hgr HG1 HS1 hG2
        go_wp2_with fail
        have hv := (((HG2.out.set 0 (.slice none 0 0) (by simp)).set 1 (.int .i64 (q : Int)) (by simp)).set 2 (.int .i64 1) (by simp)).alloc (.cells #[.slice none 0 0, .int .i64 (q : Int), .int .i64 1] 72)
        obtain ⟨⟨v0, v1, v2⟩, _, _⟩ := box3_of hv
        refine bodyPost_ret (v := gotV none 0 0 (q : Int) 1) (by simp [results, Try.results67, go_sem, v0, v1, v2, gotV]) rfl ?_
        refine ⟨_, .blockN HO.out HAE.out HP.out, rfl, ?_⟩
        rw [hD]
        exact Below.alloc (Below.setCell (Below.setCell (Below.setCell HB2.out (Nat.le_refl _) _) (Nat.le_refl _) _) (Nat.le_refl _) _) (by simp; omega) _
      | ok x b =>
        obtain ⟨A1, m, c1, rfl, hnd, hb2⟩ := hgr.ok
        have HP := Lib.hid hp
        have HND := Lib.hid hnd
        have hble := hp.le
        have hlx := hp.len _ _ rfl
        simp only [Res.at_, List.length_nil, Nat.zero_add] at hble hlx
        have hbn : b ≤ n := by have := hble.2.1 (by omega); omega
        have hmx := hnd.len
        have HB2 := Lib.hid (hb12.trans (hb2.mono (by omega)))
        have HS2 := Lib.hid (HS1.out.on hb2)
        have HG2 := Lib.hid (HG1.out.below hb2)
        have hsz2 := hb2.size
        have HR2 := Lib.hid ((HRr.out.below hb1).below hb2)
        have hne : D ≠ w2.heap.size := by omega
        have hne2 : D + 1 ≠ w2.heap.size := by omega
        have hG3 := HG2.out.alloc (.cells #[.slice A1 m c1, .int .i64 (b : Int), .int .i64 0] 72)
        have hT3 : Box (w2.alloc (.cells #[.slice A1 m c1, .int .i64 (b : Int), .int .i64 0] 72)) w2.heap.size [.slice A1 m c1, .int .i64 (b : Int), .int .i64 0] := box_new _ _ _ _ rfl _ rfl
        have HG3 := Lib.hid hG3
        obtain ⟨⟨g0, g1, g2⟩, ⟨f0, f1, f2⟩, g3⟩ := box3_of hG3
        have HSa := Lib.hid (HS2.out.alloc (.cells #[.slice A1 m c1, .int .i64 (b : Int), .int .i64 0] 72))
        have hR3 : Rows 4 encT (w2.alloc (.cells #[.slice A1 m c1, .int .i64 (b : Int), .int .i64 0] 72)) A n toks := HR2.out.below ((Below.refl _ _).alloc (Nat.le_refl _) _)
        have hml : m ≤ 900000 := by omega
        clear hb1 hb2 hp hb12 hnd hgr HG1 HS1 hble hlx
        rcases hs3 : sgB toks b 93 with _ | _
        · have kk := rsign_at (c' := c') (x := (b : Int)) (i := b) (c := 93) rfl hs3 _ hR3 (by omega)
          have HS3 := Lib.hid hs3
          obtain ⟨⟨t0, t1, t2⟩, _, t3⟩ := box3_of hT3
          clear hs3 hR3
          go_wp2_with (go_at_call 57; with_reducible refine kk.mono ?_; rintro e w' ⟨rfl, rfl⟩)
          have hv := (((HG3.out.set 0 (.slice none 0 0) (by simp)).set 1 (.int .i64 (b : Int)) (by simp)).set 2 (.int .i64 1) (by simp))
          obtain ⟨⟨v0, v1, v2⟩, _, _⟩ := box3_of hv
          refine bodyPost_ret (v := gotV none 0 0 (b : Int) 1) (by simp [results, Try.results67, go_sem, v0, v1, v2, gotV]) rfl ?_
          refine ⟨_, .blockE HO.out HAE.out HP.out HS3.out, rfl, ?_⟩
          rw [hD]
          exact Below.setCell (Below.setCell (Below.setCell (Below.alloc HB2.out (by omega) _) (Nat.le_refl _) _) (Nat.le_refl _) _) (Nat.le_refl _) _
        · have kk := rsign_at (c' := c') (x := (b : Int)) (i := b) (c := 93) rfl hs3 _ hR3 (by omega)
          have HS3 := Lib.hid hs3
          clear hs3 hR3
          have hsa : (w2.alloc (.cells #[.slice A1 m c1, .int .i64 (b : Int), .int .i64 0] 72)).heap[D + 1]? = some (.cells #[.int .i64 sty.top, .int .i64 sty.bottom, .int .i64 sty.padTop, .int .i64 sty.padBottom, .int .i64 sty.inset, .int .i64 sty.orphans, .int .i64 sty.widows, .int .i64 sty.head, .int .i64 sty.before, .int .i64 sty.after, .int .i64 sty.inside, .int .i64 sty.clear] 43 (0, 0)) := HSa.out
          go_wp2_with (first | (go_at_call 57; with_reducible refine kk.mono ?_; rintro e w' ⟨rfl, rfl⟩) | ((with_reducible refine stop_load 43 (.tmp 5) ?_ ?_); exact rfl))
          refine Stop.intro ?_
          refine wpList_load_row rfl 43 (.tmp 5) rfl (D + 1) rfl 43 #[.int .i64 sty.top, .int .i64 sty.bottom, .int .i64 sty.padTop, .int .i64 sty.padBottom, .int .i64 sty.inset, .int .i64 sty.orphans, .int .i64 sty.widows, .int .i64 sty.head, .int .i64 sty.before, .int .i64 sty.after, .int .i64 sty.inside, .int .i64 sty.clear] _ hsa Try.underlying43 rfl (by kernel_rfl) ?_
          go_wp2_with ((with_reducible refine stop_store 45 (.tmp 11) (.tmp 75) ?_ ?_); exact rfl)
          refine Stop.intro ?_
          have hk : Blk ((w2.alloc (.cells #[.slice A1 m c1, .int .i64 (b : Int), .int .i64 0] 72)).alloc (.cells #[.int .i64 0, .int .i64 0, .int .i64 0, .int .i64 0, .int .i64 0, .int .i64 0, .int .i64 0, .int .i64 0, .int .i64 0, .int .i64 0, .int .i64 0, .int .i64 0, .int .i64 0, .int .i64 0, .int .i64 0, .int .i64 0, .slice none 0 0, .int .i64 0, .int .i64 0, .int .i64 0] 45)) (w2.heap.size + 1) 45 [.int .i64 0, .int .i64 0, .int .i64 0, .int .i64 0, .int .i64 0, .int .i64 0, .int .i64 0, .int .i64 0, .int .i64 0, .int .i64 0, .int .i64 0, .int .i64 0, .int .i64 0, .int .i64 0, .int .i64 0, .int .i64 0, .slice none 0 0, .int .i64 0, .int .i64 0, .int .i64 0] := Blk.new _ _ _ _ (by simp) _ rfl
          refine wpList_store_row rfl 45 (.tmp 11) (.tmp 75) rfl (w2.heap.size + 1) rfl 45 #[.int .i64 0, .int .i64 0, .int .i64 0, .int .i64 0, .int .i64 0, .int .i64 0, .int .i64 0, .int .i64 0, .int .i64 0, .int .i64 0, .int .i64 0, .int .i64 0, .int .i64 0, .int .i64 0, .int .i64 0, .int .i64 0, .slice none 0 0, .int .i64 0, .int .i64 0, .int .i64 0] #[.int .i64 1, .int .i64 (1 + (m : Int)), .int .i64 sty.top, .int .i64 sty.bottom, .int .i64 sty.padTop, .int .i64 sty.padBottom, .int .i64 sty.inset, .int .i64 sty.orphans, .int .i64 sty.widows, .int .i64 sty.head, .int .i64 sty.before, .int .i64 sty.after, .int .i64 sty.inside, .int .i64 sty.clear, .int .i64 0, .int .i64 0, .slice none 0 0, .int .i64 0, .int .i64 0, .int .i64 0] rfl hk (by kernel_rfl) rfl (by simp [Value.oneCell']) ?_
          intro V hV
          have hVs : V.heap.size = w2.heap.size + 2 := by rw [hV, setRow_size]; simp
          have hbV : Below w2.heap.size w2 V := by rw [hV]; exact below_setRow (((Below.refl _ _).alloc (Nat.le_refl _) _).alloc (by simp) _) (by omega) _
          have HK := Lib.hid (show Blk V (w2.heap.size + 1) 45 [.int .i64 1, .int .i64 (1 + (m : Int)), .int .i64 sty.top, .int .i64 sty.bottom, .int .i64 sty.padTop, .int .i64 sty.padBottom, .int .i64 sty.inset, .int .i64 sty.orphans, .int .i64 sty.widows, .int .i64 sty.head, .int .i64 sty.before, .int .i64 sty.after, .int .i64 sty.inside, .int .i64 sty.clear, .int .i64 0, .int .i64 0, .slice none 0 0, .int .i64 0, .int .i64 0, .int .i64 0] by rw [hV]; exact hk.row _ _ rfl)
          have HT := Lib.hid (show Box V w2.heap.size [.slice A1 m c1, .int .i64 (b : Int), .int .i64 0] by
            have := hT3.alloc (.cells #[.int .i64 0, .int .i64 0, .int .i64 0, .int .i64 0, .int .i64 0, .int .i64 0, .int .i64 0, .int .i64 0, .int .i64 0, .int .i64 0, .int .i64 0, .int .i64 0, .int .i64 0, .int .i64 0, .int .i64 0, .int .i64 0, .slice none 0 0, .int .i64 0, .int .i64 0, .int .i64 0] 45)
            rw [hV]
            exact this.grown (row := some (w2.heap.size + 1)) ⟨rfl, rfl, rfl, by rw [setRow_size]; exact Nat.le_refl _, fun k _ hk => setRow_other (fun e => hk (by rw [e]))⟩ (fun k e => by cases e; omega))
          have HG4 := Lib.hid (HG2.out.below hbV)
          have HB4 := Lib.hid (HB2.out.trans (hbV.mono (by omega)))
          have HN4 := Lib.hid (HND.out.below hbV)
          clear hV hk hbV hT3 hG3 HG3 g0 g1 g2 g3 f0 f1 f2 kk hsa HSa HS2 HG2 HND HR2
          obtain ⟨⟨t0, t1, t2⟩, _, t3⟩ := box3_of HT.out
          have e0 := On.cell t0
          have e1 := On.cell t1
          have k0 : ∀ W', On V W' → W'.heap[w2.heap.size + 1]? = some (.cells #[.int .i64 1, .int .i64 (1 + (m : Int)), .int .i64 sty.top, .int .i64 sty.bottom, .int .i64 sty.padTop, .int .i64 sty.padBottom, .int .i64 sty.inset, .int .i64 sty.orphans, .int .i64 sty.widows, .int .i64 sty.head, .int .i64 sty.before, .int .i64 sty.after, .int .i64 sty.inside, .int .i64 sty.clear, .int .i64 0, .int .i64 0, .slice none 0 0, .int .i64 0, .int .i64 0, .int .i64 0] 45 (0, 0)) := fun W' h => (h.block _ (by omega)).trans HK.out
          have o1 : IntKind.i64.wrap ((b : Int) + 1) = (b : Int) + 1 := IntWalk.i64_in _ (by omega)
          have hm1 : (1 + m) * 176 ≤ 140737488355328 := by omega
          have hml2 : 1 + m ≤ maxLen := by unfold maxLen; omega
          go_wp2_with fail
          refine wp_region_held_tail 9 (S := fun W' => On V W') (by kernel_rfl) (by kernel_rfl) rfl (On.refl _).drew (fun h0 => ?_)
          simp only [headOf, List.take_succ_cons, List.take_zero, List.getElem_toArray, List.getElem_cons_succ, List.getElem_cons_zero]
          refine wpAnyH_take (i := 0) (v := ?_) rfl (by kernel_rfl) (by kernel_rfl) (by kernel_rfl) (fun _ _ _ h => h) (Or.inl ⟨by rfl, ?_⟩) h0 ?_
          rotate_left
          · refine yields_row 45 (.tmp 11) ?_ (w2.heap.size + 1) ?_ 45 #[.int .i64 1, .int .i64 (1 + (m : Int)), .int .i64 sty.top, .int .i64 sty.bottom, .int .i64 sty.padTop, .int .i64 sty.padBottom, .int .i64 sty.inset, .int .i64 sty.orphans, .int .i64 sty.widows, .int .i64 sty.head, .int .i64 sty.before, .int .i64 sty.after, .int .i64 sty.inside, .int .i64 sty.clear, .int .i64 0, .int .i64 0, .slice none 0 0, .int .i64 0, .int .i64 0, .int .i64 0] _ k0 Try.underlying45 rfl (by kernel_rfl) <;> rfl
          try simp only [Act.put, List.setIfInBounds_toArray, List.set_cons_zero, List.set_cons_succ]
          refine wpAnyH_take (i := 2) (v := ?_) rfl (by kernel_rfl) (by kernel_rfl) (by kernel_rfl) (fun _ _ _ h => h) (Or.inl ⟨by rfl, ?_⟩) h0 ?_
          rotate_left
          · intro w hSw; (try dsimp only at hSw); go_simp; with_reducible rfl
          try simp only [Act.put, List.setIfInBounds_toArray, List.set_cons_zero, List.set_cons_succ]
          refine wpAnyH_take (i := 3) (v := ?_) rfl (by kernel_rfl) (by kernel_rfl) (by kernel_rfl) (fun _ _ _ h => h) (Or.inl ⟨by rfl, ?_⟩) h0 ?_
          rotate_left
          · intro w hSw; (try dsimp only at hSw); go_simp; with_reducible rfl
          try simp only [Act.put, List.setIfInBounds_toArray, List.set_cons_zero, List.set_cons_succ]
          refine wpAnyH_take (i := 5) (v := ?_) rfl (by kernel_rfl) (by kernel_rfl) (by kernel_rfl) (fun _ _ _ h => h) (Or.inl ⟨by rfl, ?_⟩) h0 ?_
          rotate_left
          · intro w hSw; (try dsimp only at hSw); go_simp; with_reducible rfl
          try simp only [Act.put, List.setIfInBounds_toArray, List.set_cons_zero, List.set_cons_succ]
          refine wpAnyH_take (i := 6) (v := ?_) rfl (by kernel_rfl) (by kernel_rfl) (by kernel_rfl) (fun _ _ _ h => h) (Or.inl ⟨by rfl, ?_⟩) h0 ?_
          rotate_left
          · intro w hSw; (try dsimp only at hSw); go_simp; with_reducible rfl
          try simp only [Act.put, List.setIfInBounds_toArray, List.set_cons_zero, List.set_cons_succ]
          refine wpAnyH_take (i := 7) (v := ?_) rfl (by kernel_rfl) (by kernel_rfl) (by kernel_rfl) (fun _ _ _ h => h) (Or.inl ⟨by rfl, ?_⟩) h0 ?_
          rotate_left
          · intro w hSw; (try dsimp only at hSw); go_simp; with_reducible rfl
          try simp only [Act.put, List.setIfInBounds_toArray, List.set_cons_zero, List.set_cons_succ]
          refine wpAnyH_ready (rs := [1]) (by kernel_rfl) (by simp) ?_
          refine AllReadyH.cons rfl (fun K hK => ?_) AllReadyH.nil
          go_simp
          refine hK.out _ _ (On.alloc h0 _) (fun h1 => ?_)
          clear hK K
          try simp only [Act.put, List.setIfInBounds_toArray, List.set_cons_zero, List.set_cons_succ]
          have hU0 : Below V.heap.size V ((V.alloc (.cells #[.int .i64 1, .int .i64 (1 + (m : Int)), .int .i64 sty.top, .int .i64 sty.bottom, .int .i64 sty.padTop, .int .i64 sty.padBottom, .int .i64 sty.inset, .int .i64 sty.orphans, .int .i64 sty.widows, .int .i64 sty.head, .int .i64 sty.before, .int .i64 sty.after, .int .i64 sty.inside, .int .i64 sty.clear, .int .i64 0, .int .i64 0, .slice none 0 0, .int .i64 0, .int .i64 0, .int .i64 0] 45)).drew) := h1
          have hO4 : ((V.alloc (.cells #[.int .i64 1, .int .i64 (1 + (m : Int)), .int .i64 sty.top, .int .i64 sty.bottom, .int .i64 sty.padTop, .int .i64 sty.padBottom, .int .i64 sty.inset, .int .i64 sty.orphans, .int .i64 sty.widows, .int .i64 sty.head, .int .i64 sty.before, .int .i64 sty.after, .int .i64 sty.inside, .int .i64 sty.clear, .int .i64 0, .int .i64 0, .slice none 0 0, .int .i64 0, .int .i64 0, .int .i64 0] 45)).drew).ownsRow (D + 2) 45 20 (.slice (some ⟨w2.heap.size + 2, 0, none⟩) 1 1) 1 [.int .i64 1, .int .i64 (1 + (m : Int)), .int .i64 sty.top, .int .i64 sty.bottom, .int .i64 sty.padTop, .int .i64 sty.padBottom, .int .i64 sty.inset, .int .i64 sty.orphans, .int .i64 sty.widows, .int .i64 sty.head, .int .i64 sty.before, .int .i64 sty.after, .int .i64 sty.inside, .int .i64 sty.clear, .int .i64 0, .int .i64 0, .slice none 0 0, .int .i64 0, .int .i64 0, .int .i64 0] := owns_one (w := V) (size := 20) [.int .i64 1, .int .i64 (1 + (m : Int)), .int .i64 sty.top, .int .i64 sty.bottom, .int .i64 sty.padTop, .int .i64 sty.padBottom, .int .i64 sty.inset, .int .i64 sty.orphans, .int .i64 sty.widows, .int .i64 sty.head, .int .i64 sty.before, .int .i64 sty.after, .int .i64 sty.inside, .int .i64 sty.clear, .int .i64 0, .int .i64 0, .slice none 0 0, .int .i64 0, .int .i64 0, .int .i64 0] rfl (by decide) (by omega) (by simp [Value.oneCell']) _ hVs.symm _ rfl
          have hHN := (HN4.out.below hU0)
          have hGU := HG4.out.below hU0
          have hTU := HT.out.below hU0
          have hBU := HB4.out.trans (hU0.mono (by omega))
          have hUs : ((V.alloc (.cells #[.int .i64 1, .int .i64 (1 + (m : Int)), .int .i64 sty.top, .int .i64 sty.bottom, .int .i64 sty.padTop, .int .i64 sty.padBottom, .int .i64 sty.inset, .int .i64 sty.orphans, .int .i64 sty.widows, .int .i64 sty.head, .int .i64 sty.before, .int .i64 sty.after, .int .i64 sty.inside, .int .i64 sty.clear, .int .i64 0, .int .i64 0, .slice none 0 0, .int .i64 0, .int .i64 0, .int .i64 0] 45)).drew).heap.size = V.heap.size + 1 := by simp
          obtain ⟨zs, hrz, hhz, hfz⟩ := hHN
          have hC4 := hrz.cells encM_len (by decide)
          refine wpAnyH_ready (rs := [4]) (by kernel_rfl) (by simp) ?_
          refine AllReadyH.cons rfl (fun K hK => ?_) AllReadyH.nil
          refine step_append_cells _ rfl (.tmp 77) (.tmp 79) _ rfl (D + 2) 45 j0 (.agg #[.int .i64 0, .int .i64 0, .int .i64 0, .int .i64 0, .int .i64 0, .int .i64 0, .int .i64 0, .int .i64 0, .int .i64 0, .int .i64 0, .int .i64 0, .int .i64 0, .int .i64 0, .int .i64 0, .int .i64 0, .int .i64 0, .slice none 0 0, .int .i64 0, .int .i64 0, .int .i64 0]) 20 176 Try.underlying22 hj0 hy0 hy1 hy2 rfl (by decide) (.slice (some ⟨w2.heap.size + 2, 0, none⟩) 1 1) 1 _ rfl hO4 _ m _ _ rfl hC4 (encMs_one zs) hml2 hm1 (by rw [hUs]; omega) ?_
          intro A4 c4 w4 hown4 hg4
          have hb4 : Below V.heap.size ((V.alloc (.cells #[.int .i64 1, .int .i64 (1 + (m : Int)), .int .i64 sty.top, .int .i64 sty.bottom, .int .i64 sty.padTop, .int .i64 sty.padBottom, .int .i64 sty.inset, .int .i64 sty.orphans, .int .i64 sty.widows, .int .i64 sty.head, .int .i64 sty.before, .int .i64 sty.after, .int .i64 sty.inside, .int .i64 sty.clear, .int .i64 0, .int .i64 0, .slice none 0 0, .int .i64 0, .int .i64 0, .int .i64 0] 45)).drew) w4 := (Below.refl _ _).grown hg4 (by rw [hUs]; omega) (fun k e => by cases e; simp only; omega)
          have hG5 := Lib.hid (hGU.grown hg4 (fun k e => by cases e; simp only; omega))
          have hT5 := hTU.grown hg4 (fun k e => by cases e; simp only; omega)
          have hB5 := Lib.hid (hBU.trans (hb4.mono (by omega)))
          have hH5 := Lib.hid (hhz.grown hO4 (by decide) hg4)
          have hs4 : V.heap.size + 1 ≤ w4.heap.size := by rw [← hUs]; exact hg4.size
          have HO5 := Lib.hid hown4
          refine hK.out _ _ (h1.trans hb4) (fun h2 => ?_)
          clear hK K
          try simp only [Act.put, List.setIfInBounds_toArray, List.set_cons_zero, List.set_cons_succ]
          refine wpAnyH_take (i := 8) (v := ?_) rfl (by kernel_rfl) (by kernel_rfl) (by kernel_rfl) (fun _ _ _ h => h) (Or.inl ⟨by rfl, ?_⟩) h2 ?_
          rotate_left
          · intro w hSw; (try dsimp only at hSw); go_simp; with_reducible rfl
          try simp only [Act.put, List.setIfInBounds_toArray, List.set_cons_zero, List.set_cons_succ]
          refine wpAnyH_done (by kernel_rfl) ?_ _
          show wpList _ _ _ _ _ _
          clear hown4 hg4 hb4 h2 h1 h0 hO4 hC4 hrz hhz hGU hTU hBU hU0 k0 e0 e1 t0 t1 t2 t3 hm1 hml2
          obtain ⟨⟨g0, g1, g2⟩, ⟨f0, f1, f2⟩, g3⟩ := box3_of hG5.out
          go_wp2_with fail
          have hv := (((hG5.out.set 0 (.slice A4 (1 + m) c4) (by simp)).set 1 (.int .i64 ((b : Int) + 1)) (by simp)).set 2 (.int .i64 0) (by simp))
          obtain ⟨⟨v0, v1, v2⟩, _, _⟩ := box3_of hv
          refine bodyPost_ret (v := gotV A4 (1 + m) c4 ((b : Int) + 1) 0) (by simp [results, Try.results67, go_sem, v0, v1, v2, gotV]) rfl ?_
          let m0 : NdM := ⟨1, 1 + (m : Int), sty, 0, 0, none, 0, 0, 0, 0, 0⟩
          refine ⟨_, .block HO.out HAE.out HP.out HS3.out, A4, 1 + m, c4, rfl, ⟨m0 :: zs, ?_, ?_, ?_⟩, ?_⟩
          · exact (ownsRow_rows (zs := m0 :: zs) encM_len (by decide) (by rw [show (m0 :: zs).flatMap encM = [.int .i64 1, .int .i64 (1 + (m : Int)), .int .i64 sty.top, .int .i64 sty.bottom, .int .i64 sty.padTop, .int .i64 sty.padBottom, .int .i64 sty.inset, .int .i64 sty.orphans, .int .i64 sty.widows, .int .i64 sty.head, .int .i64 sty.before, .int .i64 sty.after, .int .i64 sty.inside, .int .i64 sty.clear, .int .i64 0, .int .i64 0, .slice none 0 0, .int .i64 0, .int .i64 0, .int .i64 0] ++ zs.flatMap encM from rfl]; exact owns_set (owns_set (owns_set HO5.out (m := D) (by omega) 0 _) (m := D) (by omega) 1 _) (m := D) (by omega) 2 _))
          · have hl := (hH5.out.up (base' := D + 2) (by omega)).1
            have hone : Holds2 (D + 2) w4 [m0] [blk sty x] := Holds2.one ⟨⟨rfl, by simp [blk, m0, hmx], rfl, rfl, rfl, rfl, rfl, rfl⟩, owns_nil _ _ _ _⟩
            have hall := hone.append (hH5.out.up (base' := D + 2) (by omega))
            have := hall.same (same3 w4 (m := D) (by omega) (.slice A4 (1 + m) c4) (.int .i64 ((b : Int) + 1)) (.int .i64 0))
            rw [hD]
            exact this.up (by omega)
          · rw [hD]; exact (Far.owns HO5.out).up (by omega)
          · rw [hD]; exact Below.setCell (Below.setCell (Below.setCell hB5.out (Nat.le_refl _) _) (Nat.le_refl _) _) (Nat.le_refl _) _
    · obtain ⟨hcm, hcs, hcn⟩ := letterB_mem hc hc0
      have hc1 : (c != 0) = true := by simp [hc0]
      have hcb := letters_bd c hcm
      have HCm := Lib.hid hcm
      obtain ⟨lo, hi', hl⟩ : ∃ lo hi', limitB c = (lo, hi') := ⟨_, _, rfl⟩
      have HL := Lib.hid hl
      have HC0 := Lib.hid hc0
      have han := sgB_lt hcs
      rcases hnm : nmB toks (a + 1) lo hi' with _ | _
      · have HNM := Lib.hid hnm
        have HAE := Lib.hid (HA.out _ (.bad (by rw [HC.out]; exact hc0) (by rw [HC.out, hl]; exact hnm)))
        clear hc hcm hcs hcn hl hnm hc0
        go_wp2_with (first
          | (go_at_call 78; (with_reducible refine (rletter_to HC.out _ (HRr.out.below HBx.out) (by omega) (by omega)).mono ?_); rintro e w1 ⟨rfl, hb1⟩; have HBx := Lib.hid (below_then HBx.out hb1); clear hb1)
          | (go_at_call 79; (with_reducible refine (rlimits_to HL.out HCm.out _).mono ?_); rintro e w1 ⟨rfl, rfl⟩)
          | (go_at_call 80; (with_reducible refine (rnum_to (x := (a : Int) + 1) (i := a + 1) (by omega) HNM.out _ (HRr.out.below HBx.out) (by omega)).mono ?_); rintro e w1 ⟨rfl, rfl⟩; have HGx := Lib.hid (HG.out.below HBx.out); obtain ⟨⟨g0, g1, g2⟩, ⟨f0, f1, f2⟩, g3⟩ := box3_of HGx.out))
        refine bodyPost_ret (v := gotV none 0 0 ((a + 1 : Nat) : Int) 1) (by simp [results, Try.results67, go_sem, g0, g1, g2, gotV]) rfl ?_
        refine ⟨_, .blockA HO.out HAE.out, rfl, ?_⟩
        rw [hD]
        exact Below.setCell (Below.setCell (Below.setCell (HB.out.trans (HBx.out.mono (by omega))) (Nat.le_refl _) _) (Nat.le_refl _) _) (Nat.le_refl _) _
      · have HNM := Lib.hid hnm
        have hbd2 := nmB_lt hnm
        obtain ⟨bl, off, rfl, hbl, hin, _⟩ := tok_n HRr.out hnm
        obtain ⟨v, hv⟩ : ∃ v, nAt toks (a + 1) = v := ⟨_, rfl⟩
        obtain ⟨sty', hst⟩ : ∃ sty', withB sty c v = sty' := ⟨_, rfl⟩
        have HST := Lib.hid hst
        have HAS := Lib.hid (show ∀ r, Attrs toks (a + 2) sty' (bytesI told ++ [c]) r → Attrs toks (i + 1) .plain [] r from fun r h => HA.out r (.step (by rw [HC.out]; exact hc0) (by rw [HC.out, hl]; exact hnm) (by rw [HC.out, hv, hst]; exact h)))
        have HV := Lib.hid hv
        clear hc hcm hcs hcn hl hnm hc0 hv hst
        go_wp2_with (first
          | (go_at_call 78; (with_reducible refine (rletter_to HC.out _ (HRr.out.below HBx.out) (by omega) (by omega)).mono ?_); rintro e w1 ⟨rfl, hb1⟩; have HBx := Lib.hid (below_then HBx.out hb1); clear hb1)
          | (go_at_call 79; (with_reducible refine (rlimits_to HL.out HCm.out _).mono ?_); rintro e w1 ⟨rfl, rfl⟩)
          | (go_at_call 80; (with_reducible refine (rnum_to (x := (a : Int) + 1) (i := a + 1) (by omega) HNM.out _ (HRr.out.below HBx.out) (by omega)).mono ?_); rintro e w1 ⟨rfl, rfl⟩; have HGx := Lib.hid (HG.out.below HBx.out); obtain ⟨⟨g0, g1, g2⟩, ⟨f0, f1, f2⟩, g3⟩ := box3_of HGx.out))
        clear g0 g1 g2 f0 f1 f2 g3
        have ht1 := (tok_n (HRr.out.below HBx.out) HNM.out)
        obtain ⟨_, _, hA, _, _, t1⟩ := ht1
        cases hA
        rw [HV.out] at t1
        have HSx := Lib.hid (HS.out.on HBx.out)
        have hB9 := HB.out.trans (HBx.out.mono (by omega))
        have HB9 := Lib.hid hB9
        have hs9 := HBx.out.size
        clear hB9 HBx
        have ht1 := On.cell t1
        have k0 : ∀ W', On w1 W' → W'.heap[D + 1]? = some (.cells #[.int .i64 sty.top, .int .i64 sty.bottom, .int .i64 sty.padTop, .int .i64 sty.padBottom, .int .i64 sty.inset, .int .i64 sty.orphans, .int .i64 sty.widows, .int .i64 sty.head, .int .i64 sty.before, .int .i64 sty.after, .int .i64 sty.inside, .int .i64 sty.clear] 43 (0, 0)) := fun W' h => (h.block _ (by omega)).trans HSx.out
        have o1 : IntKind.i64.wrap ((a : Int) + 1) = (a : Int) + 1 := IntWalk.i64_in _ (by omega)
        have o2 : (0 : Int) ≤ (a : Int) + 1 := by omega
        have o3 : ((a : Int) + 1).toNat = a + 1 := by omega
        have o4 : (a : Int) + 1 < (n : Int) := by omega
        refine wp_region_held_tail 9 (S := fun W' => On w1 W') (by kernel_rfl) (by kernel_rfl) rfl (On.refl _).drew (fun h0 => ?_)
        simp only [headOf, List.take_succ_cons, List.take_zero, List.getElem_toArray, List.getElem_cons_succ, List.getElem_cons_zero]
        refine wpAnyH_take (i := 0) (v := ?_) rfl (by kernel_rfl) (by kernel_rfl) (by kernel_rfl) (fun _ _ _ h => h) (Or.inl ⟨by rfl, ?_⟩) h0 ?_
        rotate_left
        · refine yields_row 43 (.tmp 5) ?_ (D + 1) ?_ 43 #[.int .i64 sty.top, .int .i64 sty.bottom, .int .i64 sty.padTop, .int .i64 sty.padBottom, .int .i64 sty.inset, .int .i64 sty.orphans, .int .i64 sty.widows, .int .i64 sty.head, .int .i64 sty.before, .int .i64 sty.after, .int .i64 sty.inside, .int .i64 sty.clear] _ k0 Try.underlying43 rfl (by kernel_rfl) <;> rfl
        try simp only [Act.put, List.setIfInBounds_toArray, List.set_cons_zero, List.set_cons_succ]
        refine wpAnyH_take (i := 1) (v := ?_) rfl (by kernel_rfl) (by kernel_rfl) (by kernel_rfl) (fun _ _ _ h => h) (Or.inl ⟨by rfl, ?_⟩) h0 ?_
        rotate_left
        · intro w hSw; (try dsimp only at hSw); go_simp; with_reducible rfl
        try simp only [Act.put, List.setIfInBounds_toArray, List.set_cons_zero, List.set_cons_succ]
        refine wpAnyH_take (i := 2) (v := ?_) rfl (by kernel_rfl) (by kernel_rfl) (by kernel_rfl) (fun _ _ _ h => h) (Or.inl ⟨by rfl, ?_⟩) h0 ?_
        rotate_left
        · intro w hSw; (try dsimp only at hSw); go_simp; with_reducible rfl
        try simp only [Act.put, List.setIfInBounds_toArray, List.set_cons_zero, List.set_cons_succ]
        refine wpAnyH_take (i := 3) (v := ?_) rfl (by kernel_rfl) (by kernel_rfl) (by kernel_rfl) (fun _ _ _ h => h) (Or.inl ⟨by rfl, ?_⟩) h0 ?_
        rotate_left
        · intro w hSw; (try dsimp only at hSw); go_simp; with_reducible rfl
        try simp only [Act.put, List.setIfInBounds_toArray, List.set_cons_zero, List.set_cons_succ]
        refine wpAnyH_take (i := 4) (v := ?_) rfl (by kernel_rfl) (by kernel_rfl) (by kernel_rfl) (fun _ _ _ h => h) (Or.inl ⟨by rfl, ?_⟩) h0 ?_
        rotate_left
        · intro w hSw; (try dsimp only at hSw); go_simp; with_reducible rfl
        try simp only [Act.put, List.setIfInBounds_toArray, List.set_cons_zero, List.set_cons_succ]
        refine wpAnyH_take (i := 5) (v := ?_) rfl (by kernel_rfl) (by kernel_rfl) (by kernel_rfl) (fun _ _ _ h => h) (Or.inl ⟨by rfl, ?_⟩) h0 ?_
        rotate_left
        · intro w hSw; (try dsimp only at hSw); go_simp; with_reducible rfl
        try simp only [Act.put, List.setIfInBounds_toArray, List.set_cons_zero, List.set_cons_succ]
        refine wpAnyH_take (i := 6) (v := ?_) rfl (by kernel_rfl) (by kernel_rfl) (by kernel_rfl) (fun _ _ _ h => h) (Or.inl ⟨by rfl, ?_⟩) h0 ?_
        rotate_left
        · intro w hSw; (try dsimp only at hSw); go_simp; with_reducible rfl
        try simp only [Act.put, List.setIfInBounds_toArray, List.set_cons_zero, List.set_cons_succ]
        refine wpAnyH_take (i := 7) (v := ?_) rfl (by kernel_rfl) (by kernel_rfl) (by kernel_rfl) (fun _ _ _ h => h) (Or.inl ⟨by rfl, ?_⟩) h0 ?_
        rotate_left
        · intro w hSw; (try dsimp only at hSw); go_simp; with_reducible rfl
        try simp only [Act.put, List.setIfInBounds_toArray, List.set_cons_zero, List.set_cons_succ]
        refine wpAnyH_ready (rs := [8]) (by kernel_rfl) (by simp) ?_
        refine AllReadyH.cons rfl (fun K hK => ?_) AllReadyH.nil
        go_simp
        refine (rwith_to HST.out HCm.out _).mono ?_
        rintro e w5 ⟨rfl, hb5⟩
        refine hK.out _ _ (On.step h0 hb5) (fun h1 => ?_)
        clear hK K
        try simp only [Act.put, List.setIfInBounds_toArray, List.set_cons_zero, List.set_cons_succ]
        have hs5 := hb5.size
        have HSy := Lib.hid (HSx.out.on h1)
        have HGy := Lib.hid (HGx.out.below h1)
        have HBy := Lib.hid (HB9.out.trans (h1.mono (by omega)))
        have hs6 := h1.size
        refine wpAnyH_done (by kernel_rfl) ?_ _
        show wpList _ _ _ _ _ _
        clear h0 h1 hb5 ht1 k0 t1
        refine wpList_store_row rfl 43 (.tmp 5) (.tmp 47) rfl (D + 1) rfl 43 #[.int .i64 sty.top, .int .i64 sty.bottom, .int .i64 sty.padTop, .int .i64 sty.padBottom, .int .i64 sty.inset, .int .i64 sty.orphans, .int .i64 sty.widows, .int .i64 sty.head, .int .i64 sty.before, .int .i64 sty.after, .int .i64 sty.inside, .int .i64 sty.clear] #[.int .i64 sty'.top, .int .i64 sty'.bottom, .int .i64 sty'.padTop, .int .i64 sty'.padBottom, .int .i64 sty'.inset, .int .i64 sty'.orphans, .int .i64 sty'.widows, .int .i64 sty'.head, .int .i64 sty'.before, .int .i64 sty'.after, .int .i64 sty'.inside, .int .i64 sty'.clear] rfl HSy.out (by kernel_rfl) rfl (by simp [Value.oneCell']) ?_
        intro V hV
        have hsV : V.heap.size = w5.heap.size := by rw [hV, setRow_size]
        have HSV := Lib.hid (show Blk V (D + 1) 43 (encS12 sty') by rw [hV]; exact HSy.out.row _ _ rfl)
        have HGV := Lib.hid (show Box V D [.slice none 0 0, .int .i64 0, .int .i64 0] by
          rw [hV]
          exact HGy.out.grown (row := some (D + 1)) ⟨rfl, rfl, rfl, by rw [setRow_size]; exact Nat.le_refl _, fun k _ hk => setRow_other (fun e => hk (by rw [e]))⟩ (fun k e => by cases e; omega))
        have HBV := Lib.hid (show Below D w V by rw [hV]; exact below_setRow HBy.out (by omega) _)
        clear hV
        have HK1 := Lib.hid hsV
        clear hsV
        go_wp2_with fail
        rw [run_convert_bytes_arg _ 109 5 Try.underlying109 Try.underlying5 V.heap.size 0 1 1 [c] rfl (fun j hj => by
          obtain rfl : j = 0 := by omega
          simp) 9 Try.underlying9]
        obtain ⟨u, hu⟩ : ∃ u, strOfNums [c] = u := ⟨_, rfl⟩
        have hus : u.size = 1 := by rw [← hu, strOfNums_size]; rfl
        have hub : bAt u 0 = c := by
          rw [← hu]
          show (((strOfNums [c]).get! 0).toNat : Int) = c
          have : (strOfNums [c]).get! 0 = UInt8.ofNat c.toNat := rfl
          rw [this, UInt8.toNat_ofNat']
          omega
        have HBU := Lib.hid (bytesI_snoc told u c hus hub)
        have hts : (told ++ u).size = told.size + 1 := by rw [ByteArray.size_append, hus]
        rw [hu]
        clear hu hub
        have HSW := Lib.hid (HSV.out.alloc (.cells #[.int .u8 c] 5))
        have HGW := Lib.hid (HGV.out.alloc (.cells #[.int .u8 c] 5))
        have HBW := Lib.hid (HBV.out.alloc (by rw [HK1.out]; omega) (.cells #[.int .u8 c] 5))
        go_wp2_with fail
        go_roundw
        case rel => exact ⟨a + 2, told ++ u, sty', by go_num, rfl, by omega, by omega, by omega, by rw [HBU.out]; exact HAS.out, HSW.out, HGW.out, HBW.out, by simp; rw [HK1.out]; omega⟩
        case measure => simp [intOf]; omega
end Go.Proofs.Ytamakeogaipdiaa
