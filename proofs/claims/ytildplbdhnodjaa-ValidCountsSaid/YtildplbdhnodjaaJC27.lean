import Derived.Test.YtildplbdhnodjaaJC23
import Derived.Test.YtildplbdhnodjaaJC26
import Derived.Test.YtildplbdhnodjaaJC20
/- The walk of the law ValidCounts. (Written by program: tools/drafts/gencountsw.py.) -/
namespace Go.Proofs.Ytildplbdhnodjaa
open Go.RowKit
set_option linter.unusedVariables false
set_option linter.unusedSimpArgs false
theorem vast6 (l : List Nd) (A : Option Addr) (n c : Nat) (w : World) (hn : (200 < n ∧ n ≤ 2000) ∨ 2100 < n) : Calls Try.prog 3 #[.slice A n c] w fun e w' => e = .returned (.bool true) ∧ Below w.heap.size w w' := by
  rcases hn with ⟨h1, h2⟩ | h1
  · have k1 : (200 : Int) < (n : Int) := by omega
    have k2 : (n : Int) ≤ 2000 := by omega
    go_enter Try.func3, Try.ntmps3
    go_wp2_with fail
    refine (vawake_any _).mono ?_
    rintro e w1 ⟨rfl, hb⟩
    have HB := Lib.hid hb
    clear hb
    go_wp2_with fail
    go_ret
    exact ⟨rfl, HB.out⟩
  · have k1 : (200 : Int) < (n : Int) := by omega
    have k2 : (2000 : Int) < (n : Int) := by omega
    have k3 : (2100 : Int) < (n : Int) := by omega
    go_enter Try.func3, Try.ntmps3
    go_wp2_with fail
    refine (vawake_any _).mono ?_
    rintro e w1 ⟨rfl, hb⟩
    have HB := Lib.hid hb
    clear hb
    go_wp2_with fail
    go_ret
    exact ⟨rfl, HB.out⟩
set_option maxHeartbeats 8000000 in
set_option maxRecDepth 100000 in
theorem counts_tail (l : List Nd) (A : Option Addr) (n c : Nat) (w : World) (hl : Sees w A n l) (hn : n ≤ 200 ∨ (2000 < n ∧ n ≤ 2100)) : Calls Try.prog 3 #[.slice A n c] w fun e w' => e = .returned (.bool true) ∧ Below w.heap.size w w' := by
  have hla := hl.len
  have HA := Lib.hid hl
  have hn100 : n ≤ 100000 := by omega
  have hg : (decide ((200 : Int) < (n : Int)) = false ∧ (n : Int) ≤ 200 ∧ (n : Int) ≤ 2100) ∨ ((200 : Int) < (n : Int) ∧ (2000 : Int) < (n : Int) ∧ (n : Int) ≤ 2100) := by
    rcases hn with h | ⟨h1, h2⟩
    · exact .inl ⟨by simp; omega, by omega, by omega⟩
    · exact .inr ⟨by omega, by omega, by omega⟩
  clear hl hn
  obtain ⟨⟨s, f⟩, hs⟩ : ∃ a, ansV l = a := ⟨_, rfl⟩
  obtain ⟨⟨s0, s1, s2, s3⟩, rfl⟩ : ∃ s', s' = s := ⟨_, rfl⟩
  obtain ⟨v, hv⟩ : ∃ v, docB l = v := ⟨_, rfl⟩
  obtain ⟨g, hgk⟩ : ∃ g, chkV l = g := ⟨_, rfl⟩
  have HS := Lib.hid hs
  have HV := Lib.hid hv
  have HG := Lib.hid hgk
  clear hs hv hgk
  rcases hg with ⟨g0, g1, g2⟩ | ⟨g0, g1, g2⟩
  · clear g0
    go_enter Try.func3, Try.ntmps3
    go_wp2_with fail
    go_loopw [3] (fun i wr => ∃ k : Nat, k ≤ n ∧ i = .int .i64 k ∧ (∀ (j : Nat) (x : Nd), j < k → l[j]? = some x → x.words.length ≤ 3000) ∧ wr = w) (fun i _ => n - (intOf i).toNat)
    case atStart => exact ⟨0, by omega, rfl, fun j x hj => by omega, rfl⟩
    case round =>
      obtain ⟨k, hk, rfl, hall, rfl⟩ := hrel
      have HL := Lib.hid hall
      clear hall
      by_cases hlt : k < n
      · obtain ⟨b1, o1, m1, x1, rfl, hb1, e1, r1, t1⟩ := HA.out.at_ hlt
        have hk2 : (k : Int) < (n : Int) := by omega
        have c16 := r1 16 _ rfl
        have hw := t1.2.1
        have E1 := Lib.hid e1
        clear e1 r1 t1
        by_cases hv2 : 3000 < m1.n
        · have h2 : (3000 : Int) < (m1.n : Int) := by omega
          go_wp2_with fail
          refine (vawake_any _).mono ?_
          rintro e w1 ⟨rfl, hb⟩
          have HB := Lib.hid hb
          clear hb
          go_wp2_with fail
          go_ret
          exact ⟨rfl, HB.out⟩
        · have h2 : (m1.n : Int) ≤ 3000 := by omega
          go_wp2_with fail
          go_roundw
          case rel => exact ⟨k + 1, by omega, by go_num, fun j x hj hx => by
            by_cases e : j = k
            · subst e
              have := E1.out
              rw [hx] at this
              injection this with this
              subst this
              omega
            · exact HL.out j x (by omega) hx, by first | rfl | trivial⟩
          case measure => simp [intOf]; omega
      · have hk2 : (n : Int) ≤ (k : Int) := by omega
        have HWd := Lib.hid (show ∀ x ∈ l, x.words.length ≤ 100000 from fun x hx => by
          obtain ⟨j, hj⟩ := List.mem_iff_getElem?.1 hx
          have := HL.out j x (by have := (List.getElem?_eq_some_iff.1 hj).1; omega) hj
          omega)
        have HR0 := Lib.hid (show PreV l wr A n from ⟨HA.out, hn100⟩)
        go_wp2_with fail
        refine (rown_any l A n c _ HA.out hn100 HWd.out).mono ?_
        rintro e w1 ⟨A2, c2, rfl, hN, hb⟩
        have HP1 := Lib.hid (show PreV l w1 A2 n from ⟨hN.sees, hn100⟩)
        have HB1 := Lib.hid hb
        clear hN hb
        go_wp2_with fail
        refine (pCount_to HS.out HP1.out).mono ?_
        rintro e w2 ⟨rfl, hb⟩
        simp only
        have hb' := below_then (show Below w1.heap.size w1 w2 from hb) (show Below w2.heap.size w2 (w2.alloc (.cells #[.int .i64 s0, .int .i64 s1, .int .i64 s2, .int .i64 s3] 31)) from (Below.refl _ _).alloc (Nat.le_refl _) _)
        have HP2 := Lib.hid (HP1.out.below hb')
        have HB2 := Lib.hid (below_then HB1.out hb')
        have HX2 := Lib.hid (box_new w2 [.int .i64 s0, .int .i64 s1, .int .i64 s2, .int .i64 s3] 31 _ rfl _ rfl)
        clear hb hb'
        go_wp2_with fail
        refine (vCount_to HS.out (HR0.out.below HB2.out) HWd.out).mono ?_
        rintro e w3 ⟨rfl, hb⟩
        simp only
        have hX := HX2.out.below hb
        have c0 := hX.2.2 0 _ rfl
        have c1 := hX.2.2 1 _ rfl
        have c2' := hX.2.2 2 _ rfl
        have c3 := hX.2.2 3 _ rfl
        have fl := hX.1
        have he := sum_same s0 s1 s2 s3
        have hb' := below_then (show Below (w2.alloc (.cells #[.int .i64 s0, .int .i64 s1, .int .i64 s2, .int .i64 s3] 31)).heap.size (w2.alloc (.cells #[.int .i64 s0, .int .i64 s1, .int .i64 s2, .int .i64 s3] 31)) w3 from hb) (show Below w3.heap.size w3 (w3.alloc (.cells #[.int .i64 s0, .int .i64 s1, .int .i64 s2, .int .i64 s3] 31)) from (Below.refl _ _).alloc (Nat.le_refl _) _)
        have HP3 := Lib.hid (HP2.out.below hb')
        have HB3 := Lib.hid (below_then HB2.out hb')
        clear hb hb' hX
        go_wp2_with fail
        refine (pIs_to HV.out HP3.out).mono ?_
        rintro e w4 ⟨rfl, hb⟩
        have HP4 := Lib.hid (HP3.out.below hb)
        have HB4 := Lib.hid (below_then HB3.out hb)
        clear hb c0 c1 c2' c3 fl he
        go_wp2_with fail
        refine (vIs_to HV.out (HR0.out.below HB4.out).1).mono ?_
        rintro e w5 ⟨rfl, hb⟩
        have HP5 := Lib.hid (HP4.out.below hb)
        have HB5 := Lib.hid (below_then HB4.out hb)
        clear hb
        go_wp2_with fail
        refine (pCheck_to HG.out HP5.out).mono ?_
        rintro e w6 ⟨rfl, hb⟩
        have HP6 := Lib.hid (HP5.out.below hb)
        have HB6 := Lib.hid (below_then HB5.out hb)
        clear hb
        go_wp2_with fail
        refine (vCheck_to HG.out (HR0.out.below HB6.out) HWd.out).mono ?_
        rintro e w7 ⟨rfl, hb⟩
        have HP7 := Lib.hid (HP6.out.below hb)
        have HB7 := Lib.hid (below_then HB6.out hb)
        clear hb
        go_wp2_with fail
        refine (rsame_to (ndsB_self l) _ HP7.out.1 (HR0.out.below HB7.out).1).mono ?_
        rintro e w8 ⟨rfl, hb⟩
        have HB8 := Lib.hid (below_then HB7.out hb)
        clear hb
        go_wp2_with fail
        refine (vawake_any _).mono ?_
        rintro e w9 ⟨rfl, hb⟩
        have HB9 := Lib.hid (below_then HB8.out hb)
        clear hb
        go_wp2_with fail
        go_ret
        exact ⟨rfl, HB9.out⟩
  · go_enter Try.func3, Try.ntmps3
    go_wp2_with fail
    go_loopw [3] (fun i wr => ∃ k : Nat, k ≤ n ∧ i = .int .i64 k ∧ (∀ (j : Nat) (x : Nd), j < k → l[j]? = some x → x.words.length ≤ 3000) ∧ wr = w) (fun i _ => n - (intOf i).toNat)
    case atStart => exact ⟨0, by omega, rfl, fun j x hj => by omega, rfl⟩
    case round =>
      obtain ⟨k, hk, rfl, hall, rfl⟩ := hrel
      have HL := Lib.hid hall
      clear hall
      by_cases hlt : k < n
      · obtain ⟨b1, o1, m1, x1, rfl, hb1, e1, r1, t1⟩ := HA.out.at_ hlt
        have hk2 : (k : Int) < (n : Int) := by omega
        have c16 := r1 16 _ rfl
        have hw := t1.2.1
        have E1 := Lib.hid e1
        clear e1 r1 t1
        by_cases hv2 : 3000 < m1.n
        · have h2 : (3000 : Int) < (m1.n : Int) := by omega
          go_wp2_with fail
          refine (vawake_any _).mono ?_
          rintro e w1 ⟨rfl, hb⟩
          have HB := Lib.hid hb
          clear hb
          go_wp2_with fail
          go_ret
          exact ⟨rfl, HB.out⟩
        · have h2 : (m1.n : Int) ≤ 3000 := by omega
          go_wp2_with fail
          go_roundw
          case rel => exact ⟨k + 1, by omega, by go_num, fun j x hj hx => by
            by_cases e : j = k
            · subst e
              have := E1.out
              rw [hx] at this
              injection this with this
              subst this
              omega
            · exact HL.out j x (by omega) hx, by first | rfl | trivial⟩
          case measure => simp [intOf]; omega
      · have hk2 : (n : Int) ≤ (k : Int) := by omega
        have HWd := Lib.hid (show ∀ x ∈ l, x.words.length ≤ 100000 from fun x hx => by
          obtain ⟨j, hj⟩ := List.mem_iff_getElem?.1 hx
          have := HL.out j x (by have := (List.getElem?_eq_some_iff.1 hj).1; omega) hj
          omega)
        have HR0 := Lib.hid (show PreV l wr A n from ⟨HA.out, hn100⟩)
        go_wp2_with fail
        refine (rown_any l A n c _ HA.out hn100 HWd.out).mono ?_
        rintro e w1 ⟨A2, c2, rfl, hN, hb⟩
        have HP1 := Lib.hid (show PreV l w1 A2 n from ⟨hN.sees, hn100⟩)
        have HB1 := Lib.hid hb
        clear hN hb
        go_wp2_with fail
        refine (pCount_to HS.out HP1.out).mono ?_
        rintro e w2 ⟨rfl, hb⟩
        simp only
        have hb' := below_then (show Below w1.heap.size w1 w2 from hb) (show Below w2.heap.size w2 (w2.alloc (.cells #[.int .i64 s0, .int .i64 s1, .int .i64 s2, .int .i64 s3] 31)) from (Below.refl _ _).alloc (Nat.le_refl _) _)
        have HP2 := Lib.hid (HP1.out.below hb')
        have HB2 := Lib.hid (below_then HB1.out hb')
        have HX2 := Lib.hid (box_new w2 [.int .i64 s0, .int .i64 s1, .int .i64 s2, .int .i64 s3] 31 _ rfl _ rfl)
        clear hb hb'
        go_wp2_with fail
        refine (vCount_to HS.out (HR0.out.below HB2.out) HWd.out).mono ?_
        rintro e w3 ⟨rfl, hb⟩
        simp only
        have hX := HX2.out.below hb
        have c0 := hX.2.2 0 _ rfl
        have c1 := hX.2.2 1 _ rfl
        have c2' := hX.2.2 2 _ rfl
        have c3 := hX.2.2 3 _ rfl
        have fl := hX.1
        have he := sum_same s0 s1 s2 s3
        have hb' := below_then (show Below (w2.alloc (.cells #[.int .i64 s0, .int .i64 s1, .int .i64 s2, .int .i64 s3] 31)).heap.size (w2.alloc (.cells #[.int .i64 s0, .int .i64 s1, .int .i64 s2, .int .i64 s3] 31)) w3 from hb) (show Below w3.heap.size w3 (w3.alloc (.cells #[.int .i64 s0, .int .i64 s1, .int .i64 s2, .int .i64 s3] 31)) from (Below.refl _ _).alloc (Nat.le_refl _) _)
        have HP3 := Lib.hid (HP2.out.below hb')
        have HB3 := Lib.hid (below_then HB2.out hb')
        clear hb hb' hX
        go_wp2_with fail
        refine (pIs_to HV.out HP3.out).mono ?_
        rintro e w4 ⟨rfl, hb⟩
        have HP4 := Lib.hid (HP3.out.below hb)
        have HB4 := Lib.hid (below_then HB3.out hb)
        clear hb c0 c1 c2' c3 fl he
        go_wp2_with fail
        refine (vIs_to HV.out (HR0.out.below HB4.out).1).mono ?_
        rintro e w5 ⟨rfl, hb⟩
        have HP5 := Lib.hid (HP4.out.below hb)
        have HB5 := Lib.hid (below_then HB4.out hb)
        clear hb
        go_wp2_with fail
        refine (pCheck_to HG.out HP5.out).mono ?_
        rintro e w6 ⟨rfl, hb⟩
        have HP6 := Lib.hid (HP5.out.below hb)
        have HB6 := Lib.hid (below_then HB5.out hb)
        clear hb
        go_wp2_with fail
        refine (vCheck_to HG.out (HR0.out.below HB6.out) HWd.out).mono ?_
        rintro e w7 ⟨rfl, hb⟩
        have HP7 := Lib.hid (HP6.out.below hb)
        have HB7 := Lib.hid (below_then HB6.out hb)
        clear hb
        go_wp2_with fail
        refine (rsame_to (ndsB_self l) _ HP7.out.1 (HR0.out.below HB7.out).1).mono ?_
        rintro e w8 ⟨rfl, hb⟩
        have HB8 := Lib.hid (below_then HB7.out hb)
        clear hb
        go_wp2_with fail
        refine (vawake_any _).mono ?_
        rintro e w9 ⟨rfl, hb⟩
        have HB9 := Lib.hid (below_then HB8.out hb)
        clear hb
        go_wp2_with fail
        go_ret
        exact ⟨rfl, HB9.out⟩
theorem validcounts_law (A : Option Addr) (n c : Nat) (l : List Nd) (hc : n ≤ c ∧ c ≤ 9223372036854775807) (w : World) (hl : Sees w A n l) : Calls Try.prog 3 #[.slice A n c] w fun e w' => e = .returned (.bool true) ∧ Below w.heap.size w w' := by
  by_cases h : (200 < n ∧ n ≤ 2000) ∨ 2100 < n
  · exact vast6 l A n c w h
  · exact counts_tail l A n c w hl (by omega)
end Go.Proofs.Ytildplbdhnodjaa
