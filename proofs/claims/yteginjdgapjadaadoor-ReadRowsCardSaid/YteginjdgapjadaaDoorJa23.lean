import Derived.Test.YteginjdgapjadaaDoorJa21
import Derived.Test.YteginjdgapjadaaDoorJa15
import Derived.Test.YteginjdgapjadaaDoorJa18
import Derived.Test.YteginjdgapjadaaDoorJa11
import Derived.Test.YteginjdgapjadaaDoorJa01
/- The document's answers for package read: nodes, whatever stands there. -/
namespace Go.Proofs.YteginjdgapjadaaDoor
open Go.RowKit
set_option linter.unusedVariables false
set_option linter.unusedSimpArgs false
theorem rknot (toks : List Tok) (A : Option Addr) (n c' : Nat) (hn : n ≤ 800000) (hlen : toks.length = n) : ∀ m : Nat,
    (∀ (i : Nat) (w : World), i ≤ n → 2 * (n - i) + 1 ≤ m → Rows 4 encT w A n toks → Calls Tryd.prog 25 #[.slice A n c', .int .i64 i] w (GotP toks true i w)) ∧
    (∀ (b : Nat) (w : World), opens toks b = true → 2 * (n - b) ≤ m → Rows 4 encT w A n toks → Calls Tryd.prog 45 #[.slice A n c', .int .i64 b] w (GotP toks false b w))
  | 0 => ⟨fun i w _ h _ => absurd h (by omega), fun b w ho h _ => absurd (opens_lt ho) (by omega)⟩
  | m + 1 => by
    obtain ⟨ih1, ih2⟩ := rknot toks A n c' hn hlen m
    refine ⟨fun i w hi hm hR => ?_, fun b w ho hm hR => ?_⟩
    · exact rnodes_any toks A n c' i w hR hi (by omega) (fun b w' h1 h2 hR' ho => ih2 b w' ho (by omega) hR')
    · have hb := opens_lt ho
      exact rone_any toks A n c' b w hR (by omega) ho
        (fun w' hR' hs => rblock_any toks A n c' b w' hR' (by omega) (by omega) hs (fun a w'' h1 h2 hR'' => ih1 a w'' h2 (by omega) hR''))
        (fun w' hR' hs => rtext5_any toks A n c' b w' hR' (by omega) (by omega) hs)
theorem rnodes_all {toks : List Tok} {A : Option Addr} {n c' : Nat} {w : World} (hn : n ≤ 800000) (hR : Rows 4 encT w A n toks) : Calls Tryd.prog 25 #[.slice A n c', .int .i64 (0 : Nat)] w (GotP toks true 0 w) :=
  (rknot toks A n c' hn hR.1 _).1 0 w (by omega) (Nat.le_refl _) hR
end Go.Proofs.YteginjdgapjadaaDoor
/- The document's Own: nodes in memory of their own. (Written by program: tools/drafts/genown.py.) -/
namespace Go.Proofs.YteginjdgapjadaaDoor
open Go.RowKit
set_option linter.unusedVariables false
set_option linter.unusedSimpArgs false
theorem int_infoOwn : (Tryd.prog.info? 3).map (fun i => (i.zero, i.size, i.bytes)) = some (some (.int .i64 0), 1, 8) := by kernel_rfl
set_option maxHeartbeats 4000000 in
set_option maxRecDepth 100000 in
theorem rown_any (l : List Nd) (A : Option Addr) (n ca : Nat) (w : World) (hl : Sees w A n l) (hn : n ≤ 100000) (hW : ∀ x ∈ l, x.words.length ≤ 100000) : Calls Tryd.prog 13 #[.slice A n ca] w fun e w' => ∃ A' c', e = .returned (.slice A' n c') ∧ Nds w.heap.size w' A' n l ∧ Below w.heap.size w w' := by
  obtain ⟨j0, hj0, hy0, hy1, hy2⟩ := info_parts node_info5
  obtain ⟨i0, hi0, hz0, hz1, hz2⟩ := info_parts int_infoOwn
  have hla := hl.len
  have HA := Lib.hid hl
  have HWd := Lib.hid hW
  clear hl hW
  obtain ⟨D, hD⟩ : ∃ D, w.heap.size = D := ⟨_, rfl⟩
  rw [hD]
  go_enter Tryd.func13, Tryd.ntmps13
  go_wp2_with fail
  go_loopw [3, 4] (fun o i wr => ∃ (k c1 : Nat) (A1 : Option Addr) (zs : List NdM), k ≤ n ∧ i = .int .i64 k ∧ o = .slice A1 k c1 ∧ wr.ownsRow D 39 20 (.slice A1 k c1) k (zs.flatMap encM) ∧ Holds2 D wr zs (l.take k) ∧ On w wr) (fun _ i _ => n - (intOf i).toNat)
  case atStart => exact ⟨0, 0, none, [], by omega, rfl, rfl, owns_nil _ _ _ _, by simpa using Holds2.nil D w, On.refl w⟩
  case round =>
    obtain ⟨k, c1, A1, zs, hk, rfl, rfl, hown, hh, hon⟩ := hrel
    have HOw := Lib.hid hown
    have HH := Lib.hid hh
    have HO := Lib.hid hon
    have hsz := hon.size
    clear hown hh hon
    by_cases hlt : k < n
    · obtain ⟨b1, o1, m1, x1, rfl, hb1, e1, r1, s1⟩ := (HA.out.on HO.out).at_ hlt
      have hk2 : (k : Int) < (n : Int) := by omega
      have R1 := Lib.hid (range_on r1)
      have S1 := Lib.hid s1
      have E1 := Lib.hid e1
      have hwl : m1.n ≤ 100000 := by rw [← s1.2.1]; exact HWd.out _ (List.mem_of_getElem? e1)
      clear r1 s1 e1
      go_wp2_with (first | ((with_reducible refine stop_load 39 (.tmp 14) ?_ ?_); exact rfl; refine Stop.intro ?_; refine wpList_load_mid rfl 39 (.tmp 14) rfl b1 (o1 + k * 20) rfl (encM m1) _ (R1.out wr (On.refl wr)) Tryd.underlying39 rfl (by kernel_rfl) ?_) | ((with_reducible refine stop_store 39 (.tmp 5) (.tmp 15) ?_ ?_); exact rfl))
      refine Stop.intro ?_
      refine wpList_store_row rfl 39 (.tmp 5) (.tmp 15) rfl wr.heap.size rfl 39 #[.int .i64 0, .int .i64 0, .int .i64 0, .int .i64 0, .int .i64 0, .int .i64 0, .int .i64 0, .int .i64 0, .int .i64 0, .int .i64 0, .int .i64 0, .int .i64 0, .int .i64 0, .int .i64 0, .int .i64 0, .int .i64 0, .slice none 0 0, .int .i64 0, .int .i64 0, .int .i64 0] (encM m1).toArray rfl (Blk.new wr 39 [.int .i64 0, .int .i64 0, .int .i64 0, .int .i64 0, .int .i64 0, .int .i64 0, .int .i64 0, .int .i64 0, .int .i64 0, .int .i64 0, .int .i64 0, .int .i64 0, .int .i64 0, .int .i64 0, .int .i64 0, .int .i64 0, .slice none 0 0, .int .i64 0, .int .i64 0, .int .i64 0] _ rfl _ rfl) (by kernel_rfl) rfl (by rw [List.all_toArray]; exact List.all_eq_true.2 (encM_one m1)) ?_
      intro V hV
      have hVs : V.heap.size = wr.heap.size + 1 := by rw [hV, setRow_size]; simp
      have hbV : On wr V := by rw [hV]; exact below_setRow ((Below.refl _ _).alloc (Nat.le_refl _) _) (Nat.le_refl _) _
      have HK1 := Lib.hid (show Blk V wr.heap.size 39 (encM m1) by rw [hV]; exact Blk.row (Blk.new wr 39 [.int .i64 0, .int .i64 0, .int .i64 0, .int .i64 0, .int .i64 0, .int .i64 0, .int .i64 0, .int .i64 0, .int .i64 0, .int .i64 0, .int .i64 0, .int .i64 0, .int .i64 0, .int .i64 0, .int .i64 0, .int .i64 0, .slice none 0 0, .int .i64 0, .int .i64 0, .int .i64 0] _ rfl _ rfl) _ _ rfl)
      have x16 : V.cell? ⟨b1, o1 + k * 20 + 16, none⟩ = some (.slice m1.A m1.n m1.c) := R1.out V hbV 16 _ rfl
      clear hV
      go_wp2_with ((with_reducible refine stop_dst 22 ?_ ?_); exact rfl)
      refine Stop.intro ?_
      have hbU : On wr (V.alloc (.cells #[] 3)) := On.alloc hbV _
      have hO0 : (V.alloc (.cells #[] 3)).ownsRow (wr.heap.size + 1) 3 1 (.slice (some ⟨wr.heap.size + 1, 0, none⟩) 0 0) 0 [] := ⟨rfl, .inr ⟨wr.heap.size + 1, 0, #[], rfl, Nat.le_refl _, by rw [← hVs]; exact World.alloc_heap_new V _, Nat.le_refl _, Nat.zero_le _, rfl, rfl⟩⟩
      have hI := (S1.out.below hbU).2
      have hIc := hI.cells
      have hIl := hI.1
      have hUs : (V.alloc (.cells #[] 3)).heap.size = wr.heap.size + 2 := by simp; omega
      refine wpList_append_cells _ rfl (.tmp 16) (.tmp 21) _ rfl (wr.heap.size + 1) 3 i0 (.int .i64 0) 1 8 Tryd.underlying37 hi0 hz0 hz1 hz2 rfl (by decide) (.slice (some ⟨wr.heap.size + 1, 0, none⟩) 0 0) 0 _ rfl hO0 m1.A m1.n m1.c _ rfl hIc (by intro u hu; obtain ⟨z, _, rfl⟩ := List.mem_map.1 hu; rfl) (by unfold maxLen; omega) (by omega) (by rw [hUs]; omega) ?_
      intro A2 c2 V2 hown2 hg2
      rw [Nat.zero_add] at hown2
      have hV2s : wr.heap.size + 2 ≤ V2.heap.size := by rw [← hUs]; exact hg2.size
      have hbV2 : On wr V2 := hbU.grown hg2 (by rw [hUs]; omega) (fun r e => by cases e; simp only; omega)
      have hK2 : Blk V2 wr.heap.size 39 (encM m1) := (HK1.out.alloc _).grown hg2 (fun r e => by cases e; simp only; omega)
      let m2 : NdM := { m1 with A := A2, c := c2 }
      have hK3 : Blk (V2.setCell ⟨wr.heap.size, 16, none⟩ (.slice A2 m1.n c2)) wr.heap.size 39 (encM m2) := hK2.set 16 _
      have hb3 : On wr (V2.setCell ⟨wr.heap.size, 16, none⟩ (.slice A2 m1.n c2)) := Below.setCell hbV2 (p := ⟨wr.heap.size, 16, none⟩) (Nat.le_refl _) _
      have hw3 := owns_set hown2 (m := wr.heap.size) (by omega) 16 (.slice A2 m1.n c2)
      have f16 := hK2.box.2.1 16
      have g16 := hK2.box.2.2 16 _ rfl
      have HK3 := Lib.hid hK3
      have HB3 := Lib.hid hb3
      have HW3 := Lib.hid hw3
      clear hK2 hK3 hb3 hw3 hown2 hg2 hO0 hI hIc hbU hbV hbV2 HK1 x16
      simp only [Nat.zero_add]
      go_wp2_with (first | ((with_reducible refine stop_load 39 (.tmp 5) ?_ ?_); exact rfl; refine Stop.intro ?_; refine Go.Proofs.YteginjdgapjadaaDoor.wpList_load_row rfl 39 (.tmp 5) rfl (wr.heap.size) rfl 39 #[.int .i64 m1.kind, .int .i64 m1.size, .int .i64 m1.sty.top, .int .i64 m1.sty.bottom, .int .i64 m1.sty.padTop, .int .i64 m1.sty.padBottom, .int .i64 m1.sty.inset, .int .i64 m1.sty.orphans, .int .i64 m1.sty.widows, .int .i64 m1.sty.head, .int .i64 m1.sty.before, .int .i64 m1.sty.after, .int .i64 m1.sty.inside, .int .i64 m1.sty.clear, .int .i64 m1.line, .int .i64 m1.space, .slice A2 m1.n c2, .int .i64 m1.side, .int .i64 m1.w, .int .i64 m1.h] _ (HK3.out) Tryd.underlying39 rfl (by kernel_rfl) ?_) | ((with_reducible refine stop_dst 27 ?_ ?_); exact rfl))
      refine Stop.intro ?_
      have hV3s : (V2.setCell ⟨wr.heap.size, 16, none⟩ (.slice A2 m1.n c2)).heap.size = V2.heap.size := by simp
      have hO4 : ((V2.setCell ⟨wr.heap.size, 16, none⟩ (.slice A2 m1.n c2)).alloc (.cells #[.int .i64 m1.kind, .int .i64 m1.size, .int .i64 m1.sty.top, .int .i64 m1.sty.bottom, .int .i64 m1.sty.padTop, .int .i64 m1.sty.padBottom, .int .i64 m1.sty.inset, .int .i64 m1.sty.orphans, .int .i64 m1.sty.widows, .int .i64 m1.sty.head, .int .i64 m1.sty.before, .int .i64 m1.sty.after, .int .i64 m1.sty.inside, .int .i64 m1.sty.clear, .int .i64 m1.line, .int .i64 m1.space, .slice A2 m1.n c2, .int .i64 m1.side, .int .i64 m1.w, .int .i64 m1.h] 39)).ownsRow D 39 20 (.slice A1 k c1) k (zs.flatMap encM) := owns_below (owns_below HOw.out HB3.out) ((Below.refl _ _).alloc (Nat.le_refl _) _)
      have hb4 : On wr ((V2.setCell ⟨wr.heap.size, 16, none⟩ (.slice A2 m1.n c2)).alloc (.cells #[.int .i64 m1.kind, .int .i64 m1.size, .int .i64 m1.sty.top, .int .i64 m1.sty.bottom, .int .i64 m1.sty.padTop, .int .i64 m1.sty.padBottom, .int .i64 m1.sty.inset, .int .i64 m1.sty.orphans, .int .i64 m1.sty.widows, .int .i64 m1.sty.head, .int .i64 m1.sty.before, .int .i64 m1.sty.after, .int .i64 m1.sty.inside, .int .i64 m1.sty.clear, .int .i64 m1.line, .int .i64 m1.space, .slice A2 m1.n c2, .int .i64 m1.side, .int .i64 m1.w, .int .i64 m1.h] 39)) := On.alloc HB3.out _
      have hc4 : Cells ((V2.setCell ⟨wr.heap.size, 16, none⟩ (.slice A2 m1.n c2)).alloc (.cells #[.int .i64 m1.kind, .int .i64 m1.size, .int .i64 m1.sty.top, .int .i64 m1.sty.bottom, .int .i64 m1.sty.padTop, .int .i64 m1.sty.padBottom, .int .i64 m1.sty.inset, .int .i64 m1.sty.orphans, .int .i64 m1.sty.widows, .int .i64 m1.sty.head, .int .i64 m1.sty.before, .int .i64 m1.sty.after, .int .i64 m1.sty.inside, .int .i64 m1.sty.clear, .int .i64 m1.line, .int .i64 m1.space, .slice A2 m1.n c2, .int .i64 m1.side, .int .i64 m1.w, .int .i64 m1.h] 39)) (some ⟨V2.heap.size, 0, none⟩) 1 20 (encM m2) := by
        have h := ownsRow_cells (owns_one (w := V2.setCell ⟨wr.heap.size, 16, none⟩ (.slice A2 m1.n c2)) (e := 39) (size := 20) (base := 0) (encM m2) rfl (by decide) (Nat.zero_le _) (encM_one m2) _ rfl _ rfl)
        rw [hV3s] at h
        exact h
      have hw4 := owns_below HW3.out ((Below.refl _ _).alloc (Nat.le_refl _) (.cells #[.int .i64 m1.kind, .int .i64 m1.size, .int .i64 m1.sty.top, .int .i64 m1.sty.bottom, .int .i64 m1.sty.padTop, .int .i64 m1.sty.padBottom, .int .i64 m1.sty.inset, .int .i64 m1.sty.orphans, .int .i64 m1.sty.widows, .int .i64 m1.sty.head, .int .i64 m1.sty.before, .int .i64 m1.sty.after, .int .i64 m1.sty.inside, .int .i64 m1.sty.clear, .int .i64 m1.line, .int .i64 m1.space, .slice A2 m1.n c2, .int .i64 m1.side, .int .i64 m1.w, .int .i64 m1.h] 39))
      have hh4 := (HH.out.below HB3.out).below ((Below.refl _ _).alloc (Nat.le_refl _) (.cells #[.int .i64 m1.kind, .int .i64 m1.size, .int .i64 m1.sty.top, .int .i64 m1.sty.bottom, .int .i64 m1.sty.padTop, .int .i64 m1.sty.padBottom, .int .i64 m1.sty.inset, .int .i64 m1.sty.orphans, .int .i64 m1.sty.widows, .int .i64 m1.sty.head, .int .i64 m1.sty.before, .int .i64 m1.sty.after, .int .i64 m1.sty.inside, .int .i64 m1.sty.clear, .int .i64 m1.line, .int .i64 m1.space, .slice A2 m1.n c2, .int .i64 m1.side, .int .i64 m1.w, .int .i64 m1.h] 39))
      have hz4 := hO4.1
      rw [flat_len encM_len] at hz4
      refine wpList_append_cells _ rfl (.tmp 24) (.tmp 26) _ rfl D 39 j0 (.agg #[.int .i64 0, .int .i64 0, .int .i64 0, .int .i64 0, .int .i64 0, .int .i64 0, .int .i64 0, .int .i64 0, .int .i64 0, .int .i64 0, .int .i64 0, .int .i64 0, .int .i64 0, .int .i64 0, .int .i64 0, .int .i64 0, .slice none 0 0, .int .i64 0, .int .i64 0, .int .i64 0]) 20 176 Tryd.underlying23 hj0 hy0 hy1 hy2 rfl (by decide) (.slice A1 k c1) k _ rfl hO4 (some ⟨V2.heap.size, 0, none⟩) 1 1 _ rfl hc4 (encM_one m2) (by unfold maxLen; omega) (by omega) (by have := hb4.size; omega) ?_
      intro A5 c5 V5 hown5 hg5
      have hblk := owns_block hO4
      have hb5 : Below D w V5 := (HO.out.mono (by omega)).trans ((hb4.mono (by omega)).grown hg5 (by have := hb4.size; omega) (fun r e => hblk r e))
      have hh5 := hh4.grown hO4 (by decide) hg5
      have hw5 := owns_grown hw4 hO4 (by decide) hg5
      have hfl : (zs ++ [m2]).flatMap encM = zs.flatMap encM ++ encM m2 := by simp
      have HO5 := Lib.hid (show V5.ownsRow D 39 20 (.slice A5 (k + 1) c5) (k + 1) ((zs ++ [m2]).flatMap encM) by rw [hfl]; exact hown5)
      have hx2 : Holds D V5 m2 x1 := ⟨S1.out.1, by
        have := owns_up hw5 (base' := D) (by omega)
        exact this⟩
      have HH5 := Lib.hid (show Holds2 D V5 (zs ++ [m2]) (l.take (k + 1)) by
        have := hh5.append (Holds2.one hx2)
        rw [List.take_add_one, E1.out]
        exact this)
      have HB5 := Lib.hid (show On w V5 by rw [On, hD]; exact hb5)
      clear hO4 hb4 hc4 hw4 hh4 hz4 hown5 hg5 hblk hb5 hh5 hw5 hfl hx2
      go_wp2_with fail
      go_roundw
      case rel => exact ⟨k + 1, c5, A5, zs ++ [m2], by omega, by go_num, rfl, HO5.out, HH5.out, HB5.out⟩
      case measure => simp [intOf]; omega
    · have hk2 : (n : Int) ≤ (k : Int) := by omega
      obtain rfl : k = n := by omega
      go_wp2_with fail
      go_returns
      exact ⟨A1, c1, rfl, ⟨zs, ownsRow_rows encM_len (by decide) HOw.out, by have := HH.out; rw [List.take_of_length_le (by omega)] at this; exact this, Far.owns HOw.out⟩, by rw [← hD]; exact HO.out⟩
end Go.Proofs.YteginjdgapjadaaDoor
