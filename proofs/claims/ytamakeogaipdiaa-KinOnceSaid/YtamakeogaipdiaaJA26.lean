import Derived.Test.YtamakeogaipdiaaJA20
import Derived.Test.YtamakeogaipdiaaJA01
/- The document's answers for package read: nodes, as many as stand there, given what one is read as. -/
namespace Go.Proofs.Ytamakeogaipdiaa
open Go.RowKit
set_option linter.unusedVariables false
set_option linter.unusedSimpArgs false
set_option maxRecDepth 100000 in
set_option maxHeartbeats 4000000 in
theorem rnodes_any (toks : List Tok) (A : Option Addr) (n c' : Nat) (i : Nat) (w : World) (hR : Rows 4 encT w A n toks) (hi : i ≤ n) (hn : n ≤ 900000)
    (hK : ∀ b w', i ≤ b → b ≤ n → Rows 4 encT w' A n toks → opens toks b = true → Calls Try.prog 58 #[.slice A n c', .int .i64 b] w' (GotP toks false b w')) :
    Calls Try.prog 40 #[.slice A n c', .int .i64 i] w (GotP toks true i w) := by
  obtain ⟨j0, hj0, hy0, hy1, hy2⟩ := info_parts node_info5
  have HR := Lib.hid hR
  have HK := Lib.hid hK
  have hlen := hR.1
  clear hR hK
  obtain ⟨D, hD⟩ : ∃ D, w.heap.size = D := ⟨_, rfl⟩
  go_enter Try.func40, Try.ntmps40
  go_wp2_with fail
  generalize hW : (w.alloc (.cells #[.slice none 0 0, .int .i64 0, .int .i64 0] 72)).alloc (.cells #[.slice none 0 0, .int .i64 (i : Int), .int .i64 0] 72) = W
  have hG : Box W D [.slice none 0 0, .int .i64 0, .int .i64 0] := by rw [← hW]; exact (box_new w _ _ _ hD.symm _ rfl).alloc _
  have hO : Box W (D + 1) [.slice none 0 0, .int .i64 (i : Int), .int .i64 0] := by rw [← hW]; exact box_new _ _ _ _ (by simp; omega) _ rfl
  have hB : Below D w W := by rw [← hW, ← hD]; go_grown
  have hWs : D + 1 < W.heap.size := by rw [← hW]; simp; omega
  clear hW
  have HG := Lib.hid hG
  have HO := Lib.hid hO
  have HB := Lib.hid hB
  have HP0 := Lib.hid (show ∀ r, Parse toks true i [] r → Parse toks true i [] r from fun _ h => h)
  clear hG hO hB
  go_loopw [6] (fun _ wr => ∃ (b m c1 : Nat) (A1 : Option Addr) (x : List Nd) (zs : List NdM), i ≤ b ∧ b ≤ n ∧ x.length + i ≤ b ∧ Box wr (D + 1) [.slice A1 m c1, .int .i64 (b : Int), .int .i64 0] ∧ wr.ownsRow (D + 2) 45 20 (.slice A1 m c1) m (zs.flatMap encM) ∧ Holds2 (D + 2) wr zs x ∧ (∀ r, Parse toks true b x r → Parse toks true i [] r) ∧ Box wr D [.slice none 0 0, .int .i64 0, .int .i64 0] ∧ Below D w wr ∧ D + 1 < wr.heap.size) (fun _ wr => n + 5 - cellNat wr ⟨D + 1, 1, none⟩)
  case atStart => exact ⟨i, 0, 0, none, [], [], by omega, by omega, by simp, HO.out, owns_nil _ _ _ _, Holds2.nil _ _, HP0.out, HG.out, HB.out, hWs⟩
  case round =>
    clear HG HO HB HP0 hWs
    obtain ⟨b, m, c1, A1, x, zs, hb1, hb2, hxl, hO, ho, hh, hpar, hG, hB, hsz⟩ := hrel
    have HOb := Lib.hid hO
    have HOw := Lib.hid ho
    have HH := Lib.hid hh
    have HPar := Lib.hid hpar
    have HG := Lib.hid hG
    have HB := Lib.hid hB
    have HRr := Lib.hid (HR.out.below (hD ▸ hB))
    have hzm : zs.length = m ∧ m ≤ 900000 := by
      have h5 := ho.1
      rw [flat_len encM_len] at h5
      have h6 := hh.1
      omega
    clear hO ho hh hpar hG hB
    obtain ⟨⟨o0, o1, o2⟩, ⟨p0, p1, p2⟩, p3⟩ := box3_of HOb.out
    have k1 := fun v (h : sgB toks b 91 = v) => rsign_at (c' := c') (x := (b : Int)) (i := b) (c := 91) rfl h wr HRr.out (by omega)
    have k2 := fun v (h : sgB toks b 40 = v) => rsign_at (c' := c') (x := (b : Int)) (i := b) (c := 40) rfl h wr HRr.out (by omega)
    have k3 := fun v (h : sgB toks b 123 = v) => rsign_at (c' := c') (x := (b : Int)) (i := b) (c := 123) rfl h wr HRr.out (by omega)
    have k4 := fun v (h : sgB toks b 60 = v) => rsign_at (c' := c') (x := (b : Int)) (i := b) (c := 60) rfl h wr HRr.out (by omega)
    rcases hop : opens toks b with _ | _
    · have HE := Lib.hid (HPar.out _ (.stop hop))
      unfold opens at hop
      simp only [Bool.or_eq_false_iff] at hop
      obtain ⟨⟨⟨h1, h2⟩, h3⟩, h4⟩ := hop
      have c1' := k1 _ h1
      have c2' := k2 _ h2
      have c3' := k3 _ h3
      have c4' := k4 _ h4
      obtain ⟨⟨g0, g1, g2⟩, ⟨f0, f1, f2⟩, g3⟩ := box3_of HG.out
      clear k1 k2 k3 k4 h1 h2 h3 h4
      go_wp2_with (first | (go_at_call 57; with_reducible refine c1'.mono ?_; rintro e w' ⟨rfl, rfl⟩) | (go_at_call 57; with_reducible refine c2'.mono ?_; rintro e w' ⟨rfl, rfl⟩) | (go_at_call 57; with_reducible refine c3'.mono ?_; rintro e w' ⟨rfl, rfl⟩) | (go_at_call 57; with_reducible refine c4'.mono ?_; rintro e w' ⟨rfl, rfl⟩))
      refine bodyPost_ret (v := gotV A1 m c1 (b : Int) 0) (by simp [results, Try.results40, go_sem, g0, g1, g2, gotV]) rfl ?_
      have hsm := same3 (base := D + 2) wr (m := D) (by omega) (.slice A1 m c1) (.int .i64 (b : Int)) (.int .i64 0)
      have ho2 := owns_same HOw.out hsm
      refine ⟨_, HE.out, A1, m, c1, rfl, ⟨zs, ownsRow_rows encM_len (by decide) ho2, (HH.out.same hsm).up (by omega), (Far.owns ho2).up (by omega)⟩, ?_⟩
      rw [hD]
      exact Below.setCell (Below.setCell (Below.setCell HB.out (Nat.le_refl _) _) (Nat.le_refl _) _) (Nat.le_refl _) _
    · have HOp := Lib.hid hop
      have hbn := opens_lt hop
      have hor : sgB toks b 91 = true ∨ (sgB toks b 91 = false ∧ sgB toks b 40 = true) ∨ (sgB toks b 91 = false ∧ sgB toks b 40 = false ∧ sgB toks b 123 = true) ∨ (sgB toks b 91 = false ∧ sgB toks b 40 = false ∧ sgB toks b 123 = false ∧ sgB toks b 60 = true) := by
        unfold opens at hop
        rcases h1 : sgB toks b 91 with _ | _
        · rcases h2 : sgB toks b 40 with _ | _
          · rcases h3 : sgB toks b 123 with _ | _
            · rw [h1, h2, h3] at hop
              exact .inr (.inr (.inr ⟨rfl, rfl, rfl, by simpa using hop⟩))
            · exact .inr (.inr (.inl ⟨rfl, rfl, rfl⟩))
          · exact .inr (.inl ⟨rfl, rfl⟩)
        · exact .inl rfl
      clear hop
      rcases hor with h1 | ⟨h1, h2⟩ | ⟨h1, h2, h3⟩ | ⟨h1, h2, h3, h4⟩
      · have c1' := k1 _ h1
        clear k1 k2 k3 k4 h1
        go_wp2_with (first | (go_at_call 57; with_reducible refine c1'.mono ?_; rintro e w' ⟨rfl, rfl⟩))
        refine (HK.out b _ hb1 hb2 HRr.out HOp.out).mono ?_
        rintro e w1 ⟨r, hp, hr⟩
        cases r with
        | bad q =>
          obtain ⟨rfl, hbw⟩ := hr.bad
          have HE := Lib.hid (HPar.out _ (.fail HOp.out hp))
          have HB1 := Lib.hid (HB.out.trans (hbw.mono (by omega)))
          have HG1 := Lib.hid (HG.out.below hbw)
          have hwl := hbw.size
          obtain ⟨⟨g0, g1, g2⟩, ⟨f0, f1, f2⟩, g3⟩ := box3_of HG1.out
          have hne : D ≠ w1.heap.size := by omega
          clear hr hp hbw
          go_wp2_with fail
          have hv := (((HG1.out.set 0 (.slice none 0 0) (by simp)).set 1 (.int .i64 (q : Int)) (by simp)).set 2 (.int .i64 1) (by simp)).alloc (.cells #[.slice none 0 0, .int .i64 (q : Int), .int .i64 1] 72)
          obtain ⟨⟨v0, v1, v2⟩, _, _⟩ := box3_of hv
          refine bodyPost_ret (v := gotV none 0 0 (q : Int) 1) (by simp [results, Try.results40, go_sem, v0, v1, v2, gotV]) rfl ?_
          refine ⟨_, HE.out, rfl, ?_⟩
          rw [hD]
          exact Below.alloc (Below.setCell (Below.setCell (Below.setCell HB1.out (Nat.le_refl _) _) (Nat.le_refl _) _) (Nat.le_refl _) _) (by simp; omega) _
        | ok x' b' =>
          obtain ⟨A', m', q', rfl, ⟨zs', hrows, hh', hfar⟩, hbw⟩ := hr.ok
          have hple := hp.le
          have hplen := hp.len _ _ rfl
          simp only [Res.at_, List.length_nil, Nat.zero_add] at hple hplen
          have hb2' : b' ≤ n := by have := hple.2.1 (by omega); omega
          have hlt' : b < b' := hple.2.2 trivial
          have hzx := HH.out.1
          have hmx : x'.length = m' := by rw [← hh'.1]; exact hrows.1
          have HE := Lib.hid (show ∀ r, Parse toks true b' (x ++ x') r → Parse toks true i [] r from fun r h => HPar.out r (.more HOp.out hp h))
          have hsz1 := hbw.size
          have hB1 := HB.out.trans (hbw.mono (show D ≤ wr.heap.size by omega))
          have hal : Below w1.heap.size w1 (w1.alloc (.cells #[.slice A' m' q', .int .i64 (b' : Int), .int .i64 0] 72)) := (Below.refl _ w1).alloc (Nat.le_refl _) _
          have HBT := Lib.hid (hB1.trans (hal.mono (show D ≤ w1.heap.size by omega)))
          have hOT : Box (w1.alloc (.cells #[.slice A' m' q', .int .i64 (b' : Int), .int .i64 0] 72)) (D + 1) [.slice A1 m c1, .int .i64 (b : Int), .int .i64 0] := (HOb.out.below hbw).alloc _
          have hGT : Box (w1.alloc (.cells #[.slice A' m' q', .int .i64 (b' : Int), .int .i64 0] 72)) D [.slice none 0 0, .int .i64 0, .int .i64 0] := (HG.out.below hbw).alloc _
          have HoT := Lib.hid (owns_below (owns_below HOw.out hbw) hal)
          have HhT := Lib.hid ((HH.out.below hbw).below hal)
          have HhT' := Lib.hid (hh'.below hal)
          have HcT := Lib.hid ((hrows.below hal).cells encM_len (by decide))
          have HTT := Lib.hid (show Blk (w1.alloc (.cells #[.slice A' m' q', .int .i64 (b' : Int), .int .i64 0] 72)) w1.heap.size 72 [.slice A' m' q', .int .i64 (b' : Int), .int .i64 0] from Blk.new _ _ _ _ rfl _ rfl)
          have HOT := Lib.hid hOT
          have HGT := Lib.hid hGT
          obtain ⟨⟨o0', o1', o2'⟩, ⟨p0', p1', p2'⟩, p3'⟩ := box3_of hOT
          have hne : D + 1 ≠ w1.heap.size := by omega
          have hm2 : m + m' ≤ 900000 := by omega
          have hxl2 : (x ++ x').length + i ≤ b' := by rw [List.length_append]; omega
          clear hr hp hbw hh' hrows hal hOT hGT hB1 o0 o1 o2 p0 p1 p2 hple hplen
          go_wp2_with (at_builtin; refine wpList_append_cells _ rfl (.tmp 40) (.tmp 42) _ rfl (D + 2) 45 j0 (.agg #[.int .i64 0, .int .i64 0, .int .i64 0, .int .i64 0, .int .i64 0, .int .i64 0, .int .i64 0, .int .i64 0, .int .i64 0, .int .i64 0, .int .i64 0, .int .i64 0, .int .i64 0, .int .i64 0, .int .i64 0, .int .i64 0, .slice none 0 0, .int .i64 0, .int .i64 0, .int .i64 0]) 20 176 Try.underlying22 hj0 hy0 hy1 hy2 rfl (by decide) _ m _ rfl HoT.out A' m' q' _ rfl HcT.out (encMs_one zs') (by unfold maxLen; omega) (by omega) (by simp; omega) ?_; intro A4 c4 w4 hown4 hg4; have hO4 := HOT.out.grown hg4 (fun k e => by have := owns_block HoT.out k e; omega); have hT4 := HTT.out.grown hg4 (blk_not_row HTT.out (by decide) HoT.out); have HO4 := Lib.hid hO4; have HT4 := Lib.hid hT4; have HW4 := Lib.hid hown4; have HG4 := Lib.hid hg4; obtain ⟨⟨o04, o14, o24⟩, ⟨p04, p14, p24⟩, p34⟩ := box3_of hO4; obtain ⟨⟨t04, t14, t24⟩, ⟨u04, u14, u24⟩, u34⟩ := box3_of hT4.box; clear hO4 hT4 hown4 hg4 o0' o1' o2' p0' p1' p2')
          have hOf := (HO4.out.set 0 (.slice A4 (m + m') c4) (by simp)).set 1 (.int .i64 (b' : Int)) (by simp)
          have hof := owns_set (owns_set HW4.out (m := D + 1) (by omega) 0 (.slice A4 (m + m') c4)) (m := D + 1) (by omega) 1 (.int .i64 (b' : Int))
          rw [← List.flatMap_append] at hof
          have hsm := (Same.set (base := D + 2) w4 (m := D + 1) (by omega) 0 (.slice A4 (m + m') c4)).trans (Same.set _ (m := D + 1) (by omega) 1 (.int .i64 (b' : Int)))
          have hhf := ((HhT.out.append (HhT'.out.up (base' := D + 2) (by omega))).grown HoT.out (by decide) HG4.out).same hsm
          have hGf := ((HGT.out.grown HG4.out (fun k e => by have := owns_block HoT.out k e; omega)).set_other (m := D + 1) (by omega) 0 (.slice A4 (m + m') c4)).set_other (m := D + 1) (by omega) 1 (.int .i64 (b' : Int))
          have hBf := Below.setCell (Below.setCell (HBT.out.grown HG4.out (by simp; omega) (fun k e => by have := owns_block HoT.out k e; omega)) (p := ⟨D + 1, 0, none⟩) (by simp) (.slice A4 (m + m') c4)) (p := ⟨D + 1, 1, none⟩) (by simp) (.int .i64 (b' : Int))
          refine ⟨⟨b', m + m', c4, A4, x ++ x', zs ++ zs', by omega, hb2', hxl2, hOf, hof, hhf, HE.out, hGf, hBf, by simp; omega⟩, ?_⟩
          have q1 := hOf.2.2 1 _ rfl
          have q2 := HOb.out.2.2 1 _ rfl
          unfold cellNat
          rw [q1, q2]
          simp only [Int.toNat_natCast]
          omega
          skip
      · have c1' := k1 _ h1
        have c2' := k2 _ h2
        clear k1 k2 k3 k4 h1 h2
        go_wp2_with (first | (go_at_call 57; with_reducible refine c1'.mono ?_; rintro e w' ⟨rfl, rfl⟩) | (go_at_call 57; with_reducible refine c2'.mono ?_; rintro e w' ⟨rfl, rfl⟩))
        refine (HK.out b _ hb1 hb2 HRr.out HOp.out).mono ?_
        rintro e w1 ⟨r, hp, hr⟩
        cases r with
        | bad q =>
          obtain ⟨rfl, hbw⟩ := hr.bad
          have HE := Lib.hid (HPar.out _ (.fail HOp.out hp))
          have HB1 := Lib.hid (HB.out.trans (hbw.mono (by omega)))
          have HG1 := Lib.hid (HG.out.below hbw)
          have hwl := hbw.size
          obtain ⟨⟨g0, g1, g2⟩, ⟨f0, f1, f2⟩, g3⟩ := box3_of HG1.out
          have hne : D ≠ w1.heap.size := by omega
          clear hr hp hbw
          go_wp2_with fail
          have hv := (((HG1.out.set 0 (.slice none 0 0) (by simp)).set 1 (.int .i64 (q : Int)) (by simp)).set 2 (.int .i64 1) (by simp)).alloc (.cells #[.slice none 0 0, .int .i64 (q : Int), .int .i64 1] 72)
          obtain ⟨⟨v0, v1, v2⟩, _, _⟩ := box3_of hv
          refine bodyPost_ret (v := gotV none 0 0 (q : Int) 1) (by simp [results, Try.results40, go_sem, v0, v1, v2, gotV]) rfl ?_
          refine ⟨_, HE.out, rfl, ?_⟩
          rw [hD]
          exact Below.alloc (Below.setCell (Below.setCell (Below.setCell HB1.out (Nat.le_refl _) _) (Nat.le_refl _) _) (Nat.le_refl _) _) (by simp; omega) _
        | ok x' b' =>
          obtain ⟨A', m', q', rfl, ⟨zs', hrows, hh', hfar⟩, hbw⟩ := hr.ok
          have hple := hp.le
          have hplen := hp.len _ _ rfl
          simp only [Res.at_, List.length_nil, Nat.zero_add] at hple hplen
          have hb2' : b' ≤ n := by have := hple.2.1 (by omega); omega
          have hlt' : b < b' := hple.2.2 trivial
          have hzx := HH.out.1
          have hmx : x'.length = m' := by rw [← hh'.1]; exact hrows.1
          have HE := Lib.hid (show ∀ r, Parse toks true b' (x ++ x') r → Parse toks true i [] r from fun r h => HPar.out r (.more HOp.out hp h))
          have hsz1 := hbw.size
          have hB1 := HB.out.trans (hbw.mono (show D ≤ wr.heap.size by omega))
          have hal : Below w1.heap.size w1 (w1.alloc (.cells #[.slice A' m' q', .int .i64 (b' : Int), .int .i64 0] 72)) := (Below.refl _ w1).alloc (Nat.le_refl _) _
          have HBT := Lib.hid (hB1.trans (hal.mono (show D ≤ w1.heap.size by omega)))
          have hOT : Box (w1.alloc (.cells #[.slice A' m' q', .int .i64 (b' : Int), .int .i64 0] 72)) (D + 1) [.slice A1 m c1, .int .i64 (b : Int), .int .i64 0] := (HOb.out.below hbw).alloc _
          have hGT : Box (w1.alloc (.cells #[.slice A' m' q', .int .i64 (b' : Int), .int .i64 0] 72)) D [.slice none 0 0, .int .i64 0, .int .i64 0] := (HG.out.below hbw).alloc _
          have HoT := Lib.hid (owns_below (owns_below HOw.out hbw) hal)
          have HhT := Lib.hid ((HH.out.below hbw).below hal)
          have HhT' := Lib.hid (hh'.below hal)
          have HcT := Lib.hid ((hrows.below hal).cells encM_len (by decide))
          have HTT := Lib.hid (show Blk (w1.alloc (.cells #[.slice A' m' q', .int .i64 (b' : Int), .int .i64 0] 72)) w1.heap.size 72 [.slice A' m' q', .int .i64 (b' : Int), .int .i64 0] from Blk.new _ _ _ _ rfl _ rfl)
          have HOT := Lib.hid hOT
          have HGT := Lib.hid hGT
          obtain ⟨⟨o0', o1', o2'⟩, ⟨p0', p1', p2'⟩, p3'⟩ := box3_of hOT
          have hne : D + 1 ≠ w1.heap.size := by omega
          have hm2 : m + m' ≤ 900000 := by omega
          have hxl2 : (x ++ x').length + i ≤ b' := by rw [List.length_append]; omega
          clear hr hp hbw hh' hrows hal hOT hGT hB1 o0 o1 o2 p0 p1 p2 hple hplen
          go_wp2_with (at_builtin; refine wpList_append_cells _ rfl (.tmp 40) (.tmp 42) _ rfl (D + 2) 45 j0 (.agg #[.int .i64 0, .int .i64 0, .int .i64 0, .int .i64 0, .int .i64 0, .int .i64 0, .int .i64 0, .int .i64 0, .int .i64 0, .int .i64 0, .int .i64 0, .int .i64 0, .int .i64 0, .int .i64 0, .int .i64 0, .int .i64 0, .slice none 0 0, .int .i64 0, .int .i64 0, .int .i64 0]) 20 176 Try.underlying22 hj0 hy0 hy1 hy2 rfl (by decide) _ m _ rfl HoT.out A' m' q' _ rfl HcT.out (encMs_one zs') (by unfold maxLen; omega) (by omega) (by simp; omega) ?_; intro A4 c4 w4 hown4 hg4; have hO4 := HOT.out.grown hg4 (fun k e => by have := owns_block HoT.out k e; omega); have hT4 := HTT.out.grown hg4 (blk_not_row HTT.out (by decide) HoT.out); have HO4 := Lib.hid hO4; have HT4 := Lib.hid hT4; have HW4 := Lib.hid hown4; have HG4 := Lib.hid hg4; obtain ⟨⟨o04, o14, o24⟩, ⟨p04, p14, p24⟩, p34⟩ := box3_of hO4; obtain ⟨⟨t04, t14, t24⟩, ⟨u04, u14, u24⟩, u34⟩ := box3_of hT4.box; clear hO4 hT4 hown4 hg4 o0' o1' o2' p0' p1' p2')
          have hOf := (HO4.out.set 0 (.slice A4 (m + m') c4) (by simp)).set 1 (.int .i64 (b' : Int)) (by simp)
          have hof := owns_set (owns_set HW4.out (m := D + 1) (by omega) 0 (.slice A4 (m + m') c4)) (m := D + 1) (by omega) 1 (.int .i64 (b' : Int))
          rw [← List.flatMap_append] at hof
          have hsm := (Same.set (base := D + 2) w4 (m := D + 1) (by omega) 0 (.slice A4 (m + m') c4)).trans (Same.set _ (m := D + 1) (by omega) 1 (.int .i64 (b' : Int)))
          have hhf := ((HhT.out.append (HhT'.out.up (base' := D + 2) (by omega))).grown HoT.out (by decide) HG4.out).same hsm
          have hGf := ((HGT.out.grown HG4.out (fun k e => by have := owns_block HoT.out k e; omega)).set_other (m := D + 1) (by omega) 0 (.slice A4 (m + m') c4)).set_other (m := D + 1) (by omega) 1 (.int .i64 (b' : Int))
          have hBf := Below.setCell (Below.setCell (HBT.out.grown HG4.out (by simp; omega) (fun k e => by have := owns_block HoT.out k e; omega)) (p := ⟨D + 1, 0, none⟩) (by simp) (.slice A4 (m + m') c4)) (p := ⟨D + 1, 1, none⟩) (by simp) (.int .i64 (b' : Int))
          refine ⟨⟨b', m + m', c4, A4, x ++ x', zs ++ zs', by omega, hb2', hxl2, hOf, hof, hhf, HE.out, hGf, hBf, by simp; omega⟩, ?_⟩
          have q1 := hOf.2.2 1 _ rfl
          have q2 := HOb.out.2.2 1 _ rfl
          unfold cellNat
          rw [q1, q2]
          simp only [Int.toNat_natCast]
          omega
          skip
      · have c1' := k1 _ h1
        have c2' := k2 _ h2
        have c3' := k3 _ h3
        clear k1 k2 k3 k4 h1 h2 h3
        go_wp2_with (first | (go_at_call 57; with_reducible refine c1'.mono ?_; rintro e w' ⟨rfl, rfl⟩) | (go_at_call 57; with_reducible refine c2'.mono ?_; rintro e w' ⟨rfl, rfl⟩) | (go_at_call 57; with_reducible refine c3'.mono ?_; rintro e w' ⟨rfl, rfl⟩))
        refine (HK.out b _ hb1 hb2 HRr.out HOp.out).mono ?_
        rintro e w1 ⟨r, hp, hr⟩
        cases r with
        | bad q =>
          obtain ⟨rfl, hbw⟩ := hr.bad
          have HE := Lib.hid (HPar.out _ (.fail HOp.out hp))
          have HB1 := Lib.hid (HB.out.trans (hbw.mono (by omega)))
          have HG1 := Lib.hid (HG.out.below hbw)
          have hwl := hbw.size
          obtain ⟨⟨g0, g1, g2⟩, ⟨f0, f1, f2⟩, g3⟩ := box3_of HG1.out
          have hne : D ≠ w1.heap.size := by omega
          clear hr hp hbw
          go_wp2_with fail
          have hv := (((HG1.out.set 0 (.slice none 0 0) (by simp)).set 1 (.int .i64 (q : Int)) (by simp)).set 2 (.int .i64 1) (by simp)).alloc (.cells #[.slice none 0 0, .int .i64 (q : Int), .int .i64 1] 72)
          obtain ⟨⟨v0, v1, v2⟩, _, _⟩ := box3_of hv
          refine bodyPost_ret (v := gotV none 0 0 (q : Int) 1) (by simp [results, Try.results40, go_sem, v0, v1, v2, gotV]) rfl ?_
          refine ⟨_, HE.out, rfl, ?_⟩
          rw [hD]
          exact Below.alloc (Below.setCell (Below.setCell (Below.setCell HB1.out (Nat.le_refl _) _) (Nat.le_refl _) _) (Nat.le_refl _) _) (by simp; omega) _
        | ok x' b' =>
          obtain ⟨A', m', q', rfl, ⟨zs', hrows, hh', hfar⟩, hbw⟩ := hr.ok
          have hple := hp.le
          have hplen := hp.len _ _ rfl
          simp only [Res.at_, List.length_nil, Nat.zero_add] at hple hplen
          have hb2' : b' ≤ n := by have := hple.2.1 (by omega); omega
          have hlt' : b < b' := hple.2.2 trivial
          have hzx := HH.out.1
          have hmx : x'.length = m' := by rw [← hh'.1]; exact hrows.1
          have HE := Lib.hid (show ∀ r, Parse toks true b' (x ++ x') r → Parse toks true i [] r from fun r h => HPar.out r (.more HOp.out hp h))
          have hsz1 := hbw.size
          have hB1 := HB.out.trans (hbw.mono (show D ≤ wr.heap.size by omega))
          have hal : Below w1.heap.size w1 (w1.alloc (.cells #[.slice A' m' q', .int .i64 (b' : Int), .int .i64 0] 72)) := (Below.refl _ w1).alloc (Nat.le_refl _) _
          have HBT := Lib.hid (hB1.trans (hal.mono (show D ≤ w1.heap.size by omega)))
          have hOT : Box (w1.alloc (.cells #[.slice A' m' q', .int .i64 (b' : Int), .int .i64 0] 72)) (D + 1) [.slice A1 m c1, .int .i64 (b : Int), .int .i64 0] := (HOb.out.below hbw).alloc _
          have hGT : Box (w1.alloc (.cells #[.slice A' m' q', .int .i64 (b' : Int), .int .i64 0] 72)) D [.slice none 0 0, .int .i64 0, .int .i64 0] := (HG.out.below hbw).alloc _
          have HoT := Lib.hid (owns_below (owns_below HOw.out hbw) hal)
          have HhT := Lib.hid ((HH.out.below hbw).below hal)
          have HhT' := Lib.hid (hh'.below hal)
          have HcT := Lib.hid ((hrows.below hal).cells encM_len (by decide))
          have HTT := Lib.hid (show Blk (w1.alloc (.cells #[.slice A' m' q', .int .i64 (b' : Int), .int .i64 0] 72)) w1.heap.size 72 [.slice A' m' q', .int .i64 (b' : Int), .int .i64 0] from Blk.new _ _ _ _ rfl _ rfl)
          have HOT := Lib.hid hOT
          have HGT := Lib.hid hGT
          obtain ⟨⟨o0', o1', o2'⟩, ⟨p0', p1', p2'⟩, p3'⟩ := box3_of hOT
          have hne : D + 1 ≠ w1.heap.size := by omega
          have hm2 : m + m' ≤ 900000 := by omega
          have hxl2 : (x ++ x').length + i ≤ b' := by rw [List.length_append]; omega
          clear hr hp hbw hh' hrows hal hOT hGT hB1 o0 o1 o2 p0 p1 p2 hple hplen
          go_wp2_with (at_builtin; refine wpList_append_cells _ rfl (.tmp 40) (.tmp 42) _ rfl (D + 2) 45 j0 (.agg #[.int .i64 0, .int .i64 0, .int .i64 0, .int .i64 0, .int .i64 0, .int .i64 0, .int .i64 0, .int .i64 0, .int .i64 0, .int .i64 0, .int .i64 0, .int .i64 0, .int .i64 0, .int .i64 0, .int .i64 0, .int .i64 0, .slice none 0 0, .int .i64 0, .int .i64 0, .int .i64 0]) 20 176 Try.underlying22 hj0 hy0 hy1 hy2 rfl (by decide) _ m _ rfl HoT.out A' m' q' _ rfl HcT.out (encMs_one zs') (by unfold maxLen; omega) (by omega) (by simp; omega) ?_; intro A4 c4 w4 hown4 hg4; have hO4 := HOT.out.grown hg4 (fun k e => by have := owns_block HoT.out k e; omega); have hT4 := HTT.out.grown hg4 (blk_not_row HTT.out (by decide) HoT.out); have HO4 := Lib.hid hO4; have HT4 := Lib.hid hT4; have HW4 := Lib.hid hown4; have HG4 := Lib.hid hg4; obtain ⟨⟨o04, o14, o24⟩, ⟨p04, p14, p24⟩, p34⟩ := box3_of hO4; obtain ⟨⟨t04, t14, t24⟩, ⟨u04, u14, u24⟩, u34⟩ := box3_of hT4.box; clear hO4 hT4 hown4 hg4 o0' o1' o2' p0' p1' p2')
          have hOf := (HO4.out.set 0 (.slice A4 (m + m') c4) (by simp)).set 1 (.int .i64 (b' : Int)) (by simp)
          have hof := owns_set (owns_set HW4.out (m := D + 1) (by omega) 0 (.slice A4 (m + m') c4)) (m := D + 1) (by omega) 1 (.int .i64 (b' : Int))
          rw [← List.flatMap_append] at hof
          have hsm := (Same.set (base := D + 2) w4 (m := D + 1) (by omega) 0 (.slice A4 (m + m') c4)).trans (Same.set _ (m := D + 1) (by omega) 1 (.int .i64 (b' : Int)))
          have hhf := ((HhT.out.append (HhT'.out.up (base' := D + 2) (by omega))).grown HoT.out (by decide) HG4.out).same hsm
          have hGf := ((HGT.out.grown HG4.out (fun k e => by have := owns_block HoT.out k e; omega)).set_other (m := D + 1) (by omega) 0 (.slice A4 (m + m') c4)).set_other (m := D + 1) (by omega) 1 (.int .i64 (b' : Int))
          have hBf := Below.setCell (Below.setCell (HBT.out.grown HG4.out (by simp; omega) (fun k e => by have := owns_block HoT.out k e; omega)) (p := ⟨D + 1, 0, none⟩) (by simp) (.slice A4 (m + m') c4)) (p := ⟨D + 1, 1, none⟩) (by simp) (.int .i64 (b' : Int))
          refine ⟨⟨b', m + m', c4, A4, x ++ x', zs ++ zs', by omega, hb2', hxl2, hOf, hof, hhf, HE.out, hGf, hBf, by simp; omega⟩, ?_⟩
          have q1 := hOf.2.2 1 _ rfl
          have q2 := HOb.out.2.2 1 _ rfl
          unfold cellNat
          rw [q1, q2]
          simp only [Int.toNat_natCast]
          omega
          skip
      · have c1' := k1 _ h1
        have c2' := k2 _ h2
        have c3' := k3 _ h3
        have c4' := k4 _ h4
        clear k1 k2 k3 k4 h1 h2 h3 h4
        go_wp2_with (first | (go_at_call 57; with_reducible refine c1'.mono ?_; rintro e w' ⟨rfl, rfl⟩) | (go_at_call 57; with_reducible refine c2'.mono ?_; rintro e w' ⟨rfl, rfl⟩) | (go_at_call 57; with_reducible refine c3'.mono ?_; rintro e w' ⟨rfl, rfl⟩) | (go_at_call 57; with_reducible refine c4'.mono ?_; rintro e w' ⟨rfl, rfl⟩))
        refine (HK.out b _ hb1 hb2 HRr.out HOp.out).mono ?_
        rintro e w1 ⟨r, hp, hr⟩
        cases r with
        | bad q =>
          obtain ⟨rfl, hbw⟩ := hr.bad
          have HE := Lib.hid (HPar.out _ (.fail HOp.out hp))
          have HB1 := Lib.hid (HB.out.trans (hbw.mono (by omega)))
          have HG1 := Lib.hid (HG.out.below hbw)
          have hwl := hbw.size
          obtain ⟨⟨g0, g1, g2⟩, ⟨f0, f1, f2⟩, g3⟩ := box3_of HG1.out
          have hne : D ≠ w1.heap.size := by omega
          clear hr hp hbw
          go_wp2_with fail
          have hv := (((HG1.out.set 0 (.slice none 0 0) (by simp)).set 1 (.int .i64 (q : Int)) (by simp)).set 2 (.int .i64 1) (by simp)).alloc (.cells #[.slice none 0 0, .int .i64 (q : Int), .int .i64 1] 72)
          obtain ⟨⟨v0, v1, v2⟩, _, _⟩ := box3_of hv
          refine bodyPost_ret (v := gotV none 0 0 (q : Int) 1) (by simp [results, Try.results40, go_sem, v0, v1, v2, gotV]) rfl ?_
          refine ⟨_, HE.out, rfl, ?_⟩
          rw [hD]
          exact Below.alloc (Below.setCell (Below.setCell (Below.setCell HB1.out (Nat.le_refl _) _) (Nat.le_refl _) _) (Nat.le_refl _) _) (by simp; omega) _
        | ok x' b' =>
          obtain ⟨A', m', q', rfl, ⟨zs', hrows, hh', hfar⟩, hbw⟩ := hr.ok
          have hple := hp.le
          have hplen := hp.len _ _ rfl
          simp only [Res.at_, List.length_nil, Nat.zero_add] at hple hplen
          have hb2' : b' ≤ n := by have := hple.2.1 (by omega); omega
          have hlt' : b < b' := hple.2.2 trivial
          have hzx := HH.out.1
          have hmx : x'.length = m' := by rw [← hh'.1]; exact hrows.1
          have HE := Lib.hid (show ∀ r, Parse toks true b' (x ++ x') r → Parse toks true i [] r from fun r h => HPar.out r (.more HOp.out hp h))
          have hsz1 := hbw.size
          have hB1 := HB.out.trans (hbw.mono (show D ≤ wr.heap.size by omega))
          have hal : Below w1.heap.size w1 (w1.alloc (.cells #[.slice A' m' q', .int .i64 (b' : Int), .int .i64 0] 72)) := (Below.refl _ w1).alloc (Nat.le_refl _) _
          have HBT := Lib.hid (hB1.trans (hal.mono (show D ≤ w1.heap.size by omega)))
          have hOT : Box (w1.alloc (.cells #[.slice A' m' q', .int .i64 (b' : Int), .int .i64 0] 72)) (D + 1) [.slice A1 m c1, .int .i64 (b : Int), .int .i64 0] := (HOb.out.below hbw).alloc _
          have hGT : Box (w1.alloc (.cells #[.slice A' m' q', .int .i64 (b' : Int), .int .i64 0] 72)) D [.slice none 0 0, .int .i64 0, .int .i64 0] := (HG.out.below hbw).alloc _
          have HoT := Lib.hid (owns_below (owns_below HOw.out hbw) hal)
          have HhT := Lib.hid ((HH.out.below hbw).below hal)
          have HhT' := Lib.hid (hh'.below hal)
          have HcT := Lib.hid ((hrows.below hal).cells encM_len (by decide))
          have HTT := Lib.hid (show Blk (w1.alloc (.cells #[.slice A' m' q', .int .i64 (b' : Int), .int .i64 0] 72)) w1.heap.size 72 [.slice A' m' q', .int .i64 (b' : Int), .int .i64 0] from Blk.new _ _ _ _ rfl _ rfl)
          have HOT := Lib.hid hOT
          have HGT := Lib.hid hGT
          obtain ⟨⟨o0', o1', o2'⟩, ⟨p0', p1', p2'⟩, p3'⟩ := box3_of hOT
          have hne : D + 1 ≠ w1.heap.size := by omega
          have hm2 : m + m' ≤ 900000 := by omega
          have hxl2 : (x ++ x').length + i ≤ b' := by rw [List.length_append]; omega
          clear hr hp hbw hh' hrows hal hOT hGT hB1 o0 o1 o2 p0 p1 p2 hple hplen
          go_wp2_with (at_builtin; refine wpList_append_cells _ rfl (.tmp 40) (.tmp 42) _ rfl (D + 2) 45 j0 (.agg #[.int .i64 0, .int .i64 0, .int .i64 0, .int .i64 0, .int .i64 0, .int .i64 0, .int .i64 0, .int .i64 0, .int .i64 0, .int .i64 0, .int .i64 0, .int .i64 0, .int .i64 0, .int .i64 0, .int .i64 0, .int .i64 0, .slice none 0 0, .int .i64 0, .int .i64 0, .int .i64 0]) 20 176 Try.underlying22 hj0 hy0 hy1 hy2 rfl (by decide) _ m _ rfl HoT.out A' m' q' _ rfl HcT.out (encMs_one zs') (by unfold maxLen; omega) (by omega) (by simp; omega) ?_; intro A4 c4 w4 hown4 hg4; have hO4 := HOT.out.grown hg4 (fun k e => by have := owns_block HoT.out k e; omega); have hT4 := HTT.out.grown hg4 (blk_not_row HTT.out (by decide) HoT.out); have HO4 := Lib.hid hO4; have HT4 := Lib.hid hT4; have HW4 := Lib.hid hown4; have HG4 := Lib.hid hg4; obtain ⟨⟨o04, o14, o24⟩, ⟨p04, p14, p24⟩, p34⟩ := box3_of hO4; obtain ⟨⟨t04, t14, t24⟩, ⟨u04, u14, u24⟩, u34⟩ := box3_of hT4.box; clear hO4 hT4 hown4 hg4 o0' o1' o2' p0' p1' p2')
          have hOf := (HO4.out.set 0 (.slice A4 (m + m') c4) (by simp)).set 1 (.int .i64 (b' : Int)) (by simp)
          have hof := owns_set (owns_set HW4.out (m := D + 1) (by omega) 0 (.slice A4 (m + m') c4)) (m := D + 1) (by omega) 1 (.int .i64 (b' : Int))
          rw [← List.flatMap_append] at hof
          have hsm := (Same.set (base := D + 2) w4 (m := D + 1) (by omega) 0 (.slice A4 (m + m') c4)).trans (Same.set _ (m := D + 1) (by omega) 1 (.int .i64 (b' : Int)))
          have hhf := ((HhT.out.append (HhT'.out.up (base' := D + 2) (by omega))).grown HoT.out (by decide) HG4.out).same hsm
          have hGf := ((HGT.out.grown HG4.out (fun k e => by have := owns_block HoT.out k e; omega)).set_other (m := D + 1) (by omega) 0 (.slice A4 (m + m') c4)).set_other (m := D + 1) (by omega) 1 (.int .i64 (b' : Int))
          have hBf := Below.setCell (Below.setCell (HBT.out.grown HG4.out (by simp; omega) (fun k e => by have := owns_block HoT.out k e; omega)) (p := ⟨D + 1, 0, none⟩) (by simp) (.slice A4 (m + m') c4)) (p := ⟨D + 1, 1, none⟩) (by simp) (.int .i64 (b' : Int))
          refine ⟨⟨b', m + m', c4, A4, x ++ x', zs ++ zs', by omega, hb2', hxl2, hOf, hof, hhf, HE.out, hGf, hBf, by simp; omega⟩, ?_⟩
          have q1 := hOf.2.2 1 _ rfl
          have q2 := HOb.out.2.2 1 _ rfl
          unfold cellNat
          rw [q1, q2]
          simp only [Int.toNat_natCast]
          omega
          skip
end Go.Proofs.Ytamakeogaipdiaa
