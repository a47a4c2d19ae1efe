import Derived.Test.YtnipifccalalhaaDoorLexLaws
import Derived.Test.YtnipifccalalhaaDoorLexJoin
/- The walk of the law LexParted. -/
namespace Go.Proofs.YtnipifccalalhaaDoor
open Go.RowKit
set_option linter.unusedVariables false
set_option linter.unusedSimpArgs false
theorem enc_oneT (zs : List Tok) : ∀ u ∈ zs.flatMap encT, u.oneCell' = true := by
  intro u hu
  obtain ⟨z, _, h⟩ := List.mem_flatMap.1 hu
  unfold encT at h
  simp at h
  rcases h with rfl | rfl | rfl | rfl <;> rfl
theorem toks_get {w : World} {A : Option Addr} {n : Nat} {zs : List Tok} (h : Rows 4 encT w A n zs) {i : Nat} (hi : i < n) :
    ∃ b off x y u v, A = some ⟨b, off, none⟩ ∧ b < w.heap.size ∧ zs[i]? = some ⟨x, y, u, v⟩ ∧ Hid (∀ w', Below w.heap.size w w' → (w'.cell? ⟨b, off + i * 4, none⟩ = some (.int .i64 x) ∧ w'.cell? ⟨b, off + i * 4 + 1, none⟩ = some (.int .i32 y) ∧ w'.cell? ⟨b, off + i * 4 + 2, none⟩ = some (.int .i64 u) ∧ w'.cell? ⟨b, off + i * 4 + 3, none⟩ = some (.int .i64 v)) ∧ b < w'.heap.size) := by
  obtain ⟨b, off, ⟨x, y, u, v⟩, h1, h2, h3, h4⟩ := h.at_ hi
  exact ⟨b, off, x, y, u, v, h1, h2, h3, fun w' hb => ⟨⟨(below_cell hb h2).trans (h4 0 _ rfl), (below_cell hb h2).trans (h4 1 _ rfl), (below_cell hb h2).trans (h4 2 _ rfl), (below_cell hb h2).trans (h4 3 _ rfl)⟩, Nat.lt_of_lt_of_le h2 hb.size⟩⟩
theorem take_snocT {α : Type} {zs : List α} {k : Nat} {x : α} (h : zs[k]? = some x) : zs.take (k + 1) = zs.take k ++ [x] := by
  rw [List.take_add_one, h]; rfl
set_option maxRecDepth 100000 in
set_option maxHeartbeats 4000000 in
theorem lexparted_law (a : ByteArray) (hmax : a.size ≤ 9223372036854775807) (b : ByteArray) (hmaxb : b.size ≤ 9223372036854775807) (w : World) (hTb : Tabs w) : Calls Tryd.prog 5 #[.string a, .string b] w fun e w' => e = .returned (.bool true) ∧ Below w.heap.size w w' := by
  by_cases hbig : 2000 < a.size
  · go_enter Tryd.func5, Tryd.ntmps5
    go_wp2_with (go_at_call 6; refine (lawake_any _ hTb).mono ?_; rintro e w' ⟨rfl, hbw⟩)
    go_ret
    exact ⟨rfl, hbw⟩
  by_cases hbig2 : 2000 < b.size
  · go_enter Tryd.func5, Tryd.ntmps5
    go_wp2_with (go_at_call 6; refine (lawake_any _ hTb).mono ?_; rintro e w' ⟨rfl, hbw⟩)
    go_ret
    exact ⟨rfl, hbw⟩
  obtain ⟨i0, hi0, hz0, hz1, hz2⟩ := info_parts tok_info
  have ha : a.size ≤ 100000 := by omega
  have hb : b.size ≤ 100000 := by omega
  have hP := parted_append a b
  have hts := hP.size
  obtain ⟨t, htt⟩ : ∃ t, a ++ (⟨#[10]⟩ : ByteArray) ++ b = t := ⟨_, rfl⟩
  rw [htt] at hP hts
  have ht : t.size ≤ 100000 := by omega
  rcases hla : lexB a with ⟨_ | l, qa⟩
  · have HT := Lib.hid (hP.lexB_bad hla)
    have HA := Lib.hid hla
    clear hla hP
    obtain ⟨vb, hvb⟩ : ∃ vb, lexB b = vb := ⟨_, rfl⟩
    have HVb := Lib.hid hvb
    clear hvb
    go_enter Tryd.func5, Tryd.ntmps5
    go_wp2_with fail
    refine (lex_bad HA.out _ hTb ha).mono ?_
    rintro e w1 ⟨rfl, hq, hb1⟩
    have HB1 := Lib.hid hb1
    clear hb1
    go_wp2_with fail
    refine (lexof_any b _ (hTb.below HB1.out) hb).mono ?_
    rintro e w2 (⟨mt, A2, n2, c2, _, rfl, hR2, _, hb2⟩ | ⟨k2, _, rfl, _, hb2⟩)
    all_goals
      have HB2 := Lib.hid (below_then HB1.out hb2)
      clear hb2
      go_wp2_with fail
      refine (lex_bad HT.out _ (hTb.below HB2.out) ht).mono ?_
      rintro e w3 ⟨rfl, _, hb3⟩
      have HB3 := Lib.hid (below_then HB2.out hb3)
      clear hb3
      go_wp2_with (go_at_call 6; refine (lawake_any _ (hTb.below HB3.out)).mono ?_; rintro e w6 ⟨rfl, hb6⟩)
      go_ret
      exact ⟨rfl, below_then HB3.out hb6⟩
  · have hbo := hP.lexB_both hla
    have HA := Lib.hid hla
    clear hla hP
    rcases hlb : lexB b with ⟨_ | m, qb⟩
    · rw [hlb] at hbo
      simp only at hbo
      have HT := Lib.hid hbo
      have HBb := Lib.hid hlb
      have hcast : ((a.size + 1 + qb : Nat) : Int) = (a.size : Int) + 1 + (qb : Int) := by omega
      clear hlb hbo
      go_enter Tryd.func5, Tryd.ntmps5
      go_wp2_with fail
      refine (lex_ok HA.out _ hTb ha).mono ?_
      rintro e w1 ⟨A1, n1, c1, rfl, hR1, _, hb1⟩
      have HB1 := Lib.hid hb1
      clear hb1 hR1
      go_wp2_with fail
      refine (lex_bad HBb.out _ (hTb.below HB1.out) hb).mono ?_
      rintro e w2 ⟨rfl, hqb, hb2⟩
      have HB2 := Lib.hid (below_then HB1.out hb2)
      clear hb2
      go_wp2_with fail
      refine (lex_bad HT.out _ (hTb.below HB2.out) ht).mono ?_
      rintro e w3 ⟨rfl, _, hb3⟩
      have HB3 := Lib.hid (below_then HB2.out hb3)
      clear hb3
      rw [hcast]
      go_wp2_with (go_at_call 6; refine (lawake_any _ (hTb.below HB3.out)).mono ?_; rintro e w6 ⟨rfl, hb6⟩)
      go_ret
      exact ⟨rfl, below_then HB3.out hb6⟩
    · rw [hlb] at hbo
      simp only at hbo
      have HT := Lib.hid hbo
      have HBb := Lib.hid hlb
      clear hlb hbo
      go_enter Tryd.func5, Tryd.ntmps5
      go_wp2_with fail
      refine (lex_ok HA.out _ hTb ha).mono ?_
      rintro e w1 ⟨A1, n1, c1, rfl, hR1, hn1, hb1⟩
      have HB1 := Lib.hid hb1
      have HR1 := Lib.hid hR1
      clear hb1 hR1
      go_wp2_with fail
      refine (lex_ok HBb.out _ (hTb.below HB1.out) hb).mono ?_
      rintro e w2 ⟨A2, n2, c2, rfl, hR2, hn2, hb2⟩
      have HB2 := Lib.hid (below_then HB1.out hb2)
      have HR12 := Lib.hid (HR1.out.below hb2)
      have HR2 := Lib.hid hR2
      clear hb2 hR2
      go_wp2_with fail
      refine (lex_ok HT.out _ (hTb.below HB2.out) ht).mono ?_
      rintro e w3 ⟨A3, n3, c3, rfl, hR3, hn3, hb3⟩
      have HB3 := Lib.hid (below_then HB2.out hb3)
      have HR13 := Lib.hid (HR12.out.below hb3)
      have HR23 := Lib.hid (HR2.out.below hb3)
      have HR3 := Lib.hid hR3
      have hlen1 := hR3.len
      clear hb3 hR3
      have HO : Hid ((w3.alloc (.cells #[] 32)).ownsRow w3.heap.size 32 4 (.slice (some ⟨w3.heap.size, 0, none⟩) 0 0) 0 []) := World.ownsRow_made w3 (base := w3.heap.size) (e := 32) (size := 4) #[] 0 (by simp) (by decide) rfl
      have HC : Hid (Cells (w3.alloc (.cells #[] 32)) A1 n1 4 (l.flatMap encT)) := (HR13.out.below (by go_grown)).cells encT_len (by decide)
      go_wp2_with (at_builtin; refine wpList_append_cells _ rfl (.tmp 87) (.tmp 88) _ rfl w3.heap.size 32 i0 (.agg #[.int .i64 0, .int .i32 0, .int .i64 0, .int .i64 0]) 4 32 Tryd.underlying23 hi0 hz0 hz1 hz2 rfl (by decide) _ 0 [] rfl HO.out A1 n1 c1 _ rfl HC.out (enc_oneT _) (by unfold maxLen; omega) (by omega) (by simp) ?_; intro A4 c4 w4 hown4 hg4)
      simp only [Nat.zero_add, List.nil_append] at hown4
      have hb4 : Below w3.heap.size _ w4 := (Below.refl _ _).grown hg4 (by simp) (owns_block HO.out)
      have hon4 : Below w3.heap.size w3 w4 := (show Below w3.heap.size w3 _ by go_grown).trans hb4
      have HO4 := Lib.hid hown4
      have HB4 := Lib.hid hon4
      clear hown4 hg4 hb4 hon4 HO HC
      go_wp2_with fail
      go_loopw [14, 15] (fun v i wr => ∃ (k c' : Nat) (A' : Option Addr), k ≤ n2 ∧ i = .int .i64 k ∧ v = .slice A' (n1 + k) c' ∧ wr.ownsRow w3.heap.size 32 4 (.slice A' (n1 + k) c') (n1 + k) ((l ++ (m.take k).map (shiftT (a.size + 1))).flatMap encT) ∧ Below w3.heap.size w3 wr) (fun _ i _ => n2 - (intOf i).toNat)
      case atStart => exact ⟨0, c4, A4, by omega, rfl, rfl, by rw [List.take_zero, List.map_nil, List.append_nil]; exact HO4.out, HB4.out⟩
      case round =>
        obtain ⟨k, c', A', hk, rfl, rfl, hO, hBr⟩ := hrel
        have HO := Lib.hid hO
        have HB5 := Lib.hid hBr
        have hsz := hBr.size
        clear hO hBr
        by_cases hlt : k < n2
        · obtain ⟨bl, off, x, y, u, v, rfl, hbl, hx, HC⟩ := toks_get HR23.out hlt
          obtain ⟨p, hp1, hp2, _⟩ := tok_stands HBb.out hx
          simp only at hp1
          have hvb : 0 ≤ v ∧ v < 100001 := by omega
          obtain ⟨hv1, hv2⟩ := hvb
          have hsn : (m.take (k + 1)).map (shiftT (a.size + 1)) = (m.take k).map (shiftT (a.size + 1)) ++ [⟨x, y, u, v + ((a.size : Int) + 1)⟩] := by
            rw [take_snocT hx, List.map_append]; rfl
          have HSn := Lib.hid hsn
          obtain ⟨⟨c0, c1', c2', c3'⟩, c4'⟩ := HC.out wr HB5.out
          clear hsn hx hp1 hp2
          have HC1 := Lib.hid (tok_cells (wr.alloc (.cells #[.int .i64 x, .int .i32 y, .int .i64 u, .int .i64 (v + ((a.size : Int) + 1))] 32)) x y u (v + ((a.size : Int) + 1)) 32 (wr.heap.size + 1) (by simp))
          have HO6 := Lib.hid (owns_below HO.out (w' := (wr.alloc (.cells #[.int .i64 x, .int .i32 y, .int .i64 u, .int .i64 (v + ((a.size : Int) + 1))] 32)).alloc (.cells #[.int .i64 x, .int .i32 y, .int .i64 u, .int .i64 (v + ((a.size : Int) + 1))] 32)) (by go_grown))
          have HB6 := Lib.hid ((HB5.out.alloc hsz (.cells #[.int .i64 x, .int .i32 y, .int .i64 u, .int .i64 (v + ((a.size : Int) + 1))] 32)).alloc (by simp; omega) (.cells #[.int .i64 x, .int .i32 y, .int .i64 u, .int .i64 (v + ((a.size : Int) + 1))] 32))
          go_wp2_with (at_builtin; refine wpList_append_cells _ rfl (.tmp 107) (.tmp 109) _ rfl w3.heap.size 32 i0 (.agg #[.int .i64 0, .int .i32 0, .int .i64 0, .int .i64 0]) 4 32 Tryd.underlying23 hi0 hz0 hz1 hz2 rfl (by decide) _ (n1 + k) _ rfl HO6.out _ 1 1 _ rfl HC1.out (tok_cell4 _ _ _ _) (by unfold maxLen; omega) (by omega) (by simp; omega) ?_; intro A6 c6 w6 hown6 hg6; have hb6 : Below w3.heap.size _ w6 := (Below.refl _ _).grown hg6 (by simp; omega) (owns_block HO6.out); have HB7 := Lib.hid (HB6.out.trans hb6); have HO7 := Lib.hid hown6; clear hg6 hown6 hb6)
          go_roundw
          case rel => exact ⟨k + 1, c6, A6, by omega, by go_num, by rw [Nat.add_assoc], by rw [HSn.out, ← List.append_assoc, toks_snoc, ← Nat.add_assoc]; exact HO7.out, HB7.out⟩
          case measure => simp [intOf]; omega
        · obtain rfl : k = n2 := by omega
          have hml := HR2.out.len
          rw [List.take_of_length_le (by omega)] at HO
          have hRw := ownsRow_rows (enc := encT) (zs := l ++ m.map (shiftT (a.size + 1))) encT_len (by decide) HO.out
          have HRw := Lib.hid hRw
          have HR3r := Lib.hid (HR3.out.below HB5.out)
          clear hRw
          go_wp2_with fail
          refine (tsame_any _ _ _ _ _ _ _ _ HR3r.out HRw.out).mono ?_
          rintro e w7 ⟨rfl, hb7⟩
          have HB7 := Lib.hid (below_then (below_then HB3.out HB5.out) hb7)
          clear hb7
          go_wp2_with (go_at_call 6; refine (lawake_any _ (hTb.below HB7.out)).mono ?_; rintro e w8 ⟨rfl, hb8⟩)
          go_ret
          exact ⟨rfl, below_then HB7.out hb8⟩
end Go.Proofs.YtnipifccalalhaaDoor
