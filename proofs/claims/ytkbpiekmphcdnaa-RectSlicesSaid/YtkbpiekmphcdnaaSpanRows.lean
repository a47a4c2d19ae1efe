import Derived.Test.YtkbpiekmphcdnaaSpan2
import Derived.Test.YtkbpiekmphcdnaaSpanSort
import Derived.BigRegion
/- Functions of package span on rows, and the document's answers for them. -/
namespace Go.Proofs.Ytkbpiekmphcdnaa
open Go.RowKit
set_option linter.unusedVariables false
set_option linter.unusedSimpArgs false

theorem rows_at {w : World} {A : Option Addr} {n : Nat} {zs : List Sp} (h : Rows 2 encS w A n zs) {i : Nat} (hi : i < n) :
    ∃ b off p q, A = some ⟨b, off, none⟩ ∧ b < w.heap.size ∧ zs[i]? = some (p, q) ∧ w.cell? ⟨b, off + i * 2, none⟩ = some (.int .i64 p) ∧ w.cell? ⟨b, off + i * 2 + 1, none⟩ = some (.int .i64 q) := by
  obtain ⟨b, off, ⟨p, q⟩, h1, h2, h3, h4⟩ := h.at_ hi
  exact ⟨b, off, p, q, h1, h2, h3, h4 0 _ rfl, h4 1 _ rfl⟩
/-- an element of a row that came in: where it lies, and what it reads as, in every later world. -/
theorem rows_get {w : World} {A : Option Addr} {n : Nat} {zs : List Sp} (h : Rows 2 encS w A n zs) {i : Nat} (hi : i < n) :
    ∃ b off p q, A = some ⟨b, off, none⟩ ∧ b < w.heap.size ∧ zs[i]? = some (p, q) ∧ Hid (∀ w', Below w.heap.size w w' → w'.cell? ⟨b, off + i * 2, none⟩ = some (.int .i64 p) ∧ w'.cell? ⟨b, off + i * 2 + 1, none⟩ = some (.int .i64 q) ∧ b < w'.heap.size) := by
  obtain ⟨b, off, p, q, h1, h2, h3, h4, h5⟩ := rows_at h hi
  exact ⟨b, off, p, q, h1, h2, h3, fun w' hb => ⟨(below_cell hb h2).trans h4, (below_cell hb h2).trans h5, Nat.lt_of_lt_of_le h2 hb.size⟩⟩
theorem same_any (A : Option Addr) (n c : Nat) (B : Option Addr) (m d : Nat) (zs : List Sp) (w : World) (h1 : Rows 2 encS w A n zs) (h2 : Rows 2 encS w B m zs) :
    Calls Try.prog 22 #[.slice A n c, .slice B m d] w fun e w' => e = .returned (.bool true) ∧ Below w.heap.size w w' := by
  have hn := h1.2.1
  obtain rfl : n = m := h1.1.symm.trans h2.1
  have H1 := Lib.hid h1
  have H2 := Lib.hid h2
  clear h1 h2
  go_enter Try.func22, Try.ntmps22
  go_wp2_with fail
  go_loopw [5] (fun i wr => ∃ k m : Nat, k ≤ n ∧ i = .int .i64 k ∧ wr = w.drewN m) (fun i _ => n - (intOf i).toNat)
  case atStart => exact ⟨0, 0, by omega, rfl, rfl⟩
  case round =>
    obtain ⟨k, m, hk, rfl, rfl⟩ := hrel
    by_cases hlt : k < n
    · obtain ⟨b, off, p, q, rfl, hbl, hx, c0, c1⟩ := rows_at H1.out hlt
      obtain ⟨b', off', p', q', rfl, hbl', hx', c0', c1'⟩ := rows_at H2.out hlt
      rw [hx] at hx'
      injection hx' with hx'
      injection hx' with e1 e2
      subst e1 e2
      have HX := Lib.hid hx
      clear hx
      go_wp2_with fail
      go_quiet (fail)
      go_wp2_with fail
      go_roundw
      case rel => exact ⟨k + 1, _, by omega, by go_num, rfl⟩
      case measure => simp [intOf]; omega
    · go_wp2_with fail
      go_ret
      exact ⟨rfl, below_drewN (Below.refl _ _) m⟩
theorem take_snoc {α : Type} {zs : List α} {k : Nat} {x : α} (h : zs[k]? = some x) : zs.take (k + 1) = zs.take k ++ [x] := by
  rw [List.take_add_one, h]; rfl
theorem hull_snoc {zs : List Sp} {k : Nat} {x h : Sp} (hx : zs[k]? = some x) (hh : (zs.take k).foldl hullStep (0, 0) = h) : (zs.take (k + 1)).foldl hullStep (0, 0) = hullStep h x := by
  rw [take_snoc hx, List.foldl_append, hh]; rfl
theorem hull_all {zs : List Sp} {k : Nat} {h : Sp} (hk : zs.length ≤ k) (hh : (zs.take k).foldl hullStep (0, 0) = h) : hullL zs = h := by
  rw [List.take_of_length_le hk] at hh; exact hh
set_option maxHeartbeats 1000000 in
theorem hull_any (A : Option Addr) (n c : Nat) (zs : List Sp) (w : World) (h1 : Rows 2 encS w A n zs) :
    Calls Try.prog 20 #[.slice A n c] w fun e w' => e = .returned (.agg #[.int .i64 (hullL zs).1, .int .i64 (hullL zs).2]) ∧ Below w.heap.size w w' := by
  have hn := h1.2.1
  have HL := Lib.hid h1.1
  have H1 := Lib.hid h1
  clear h1
  go_enter Try.func20, Try.ntmps20
  go_wp2_with fail
  go_loopw [8] (fun i wr => ∃ (k : Nat) (a b : Int), k ≤ n ∧ i = .int .i64 k ∧ (zs.take k).foldl hullStep (0, 0) = (a, b) ∧ Box wr w.heap.size [.int .i64 0, .int .i64 0] ∧ Box wr (w.heap.size + 1) [.int .i64 a, .int .i64 b] ∧ Below w.heap.size w wr) (fun i _ => n - (intOf i).toNat)
  case atStart => exact ⟨0, 0, 0, by omega, rfl, rfl, (Box.new2 _ _ _ _).alloc _, Box.new2' _ _ _ _ _ (by simp), by go_grown⟩
  case round =>
    obtain ⟨k, a, b, hk, rfl, hh, hR, hB, hb⟩ := hrel
    have HH := Lib.hid hh
    have HB := Lib.hid hb
    have HR := Lib.hid (H1.out.below hb)
    have hok := hull_ok (zs.take k) (0, 0) (.inl rfl)
    rw [hh] at hok
    clear hh hb
    by_cases hlt : k < n
    · obtain ⟨bl, off, p, q, rfl, hbl, hx, c0, c1⟩ := rows_at HR.out hlt
      have HX := Lib.hid hx
      clear hx
      obtain ⟨r0, r1, r2, r3, r4⟩ := hR.of2
      obtain ⟨b0, b1, b2, b3, b4⟩ := hB.of2
      by_cases hq : q ≤ p
      · have HS := Lib.hid (show hullStep (a, b) (p, q) = (a, b) from if_pos hq)
        go_wp2_with fail
        refine (empty_any _ _ _).mono ?_
        rintro e w2 ⟨rfl, hb2⟩
        have hR2 := (hR.alloc (.cells #[.int .i64 p, .int .i64 q] 23)).below hb2
        have hB2 := (hB.alloc (.cells #[.int .i64 p, .int .i64 q] 23)).below hb2
        have hS2 := (Box.new2 wr (.int .i64 p) (.int .i64 q) 23).below hb2
        have HB2 := Lib.hid (below_then (HB.out.alloc (by omega) _) hb2)
        have hSz : w.heap.size + 1 < wr.heap.size := b4
        clear hb2 hR hB HB r0 r1 r2 r3 r4 b0 b1 b2 b3 b4 c0 c1
        obtain ⟨r0, r1, r2, r3, r4⟩ := hR2.of2
        obtain ⟨b0, b1, b2, b3, b4⟩ := hB2.of2
        obtain ⟨s0, s1, s2, s3, s4⟩ := hS2.of2
        go_wp2_with fail
        go_roundw
        case rel => exact ⟨k + 1, a, b, by omega, by go_num, by rw [hull_snoc HX.out HH.out, HS.out], hR2, hB2, HB2.out⟩
        case measure => simp [intOf]; omega
      · rcases hok with hab | hab
        · injection hab with ea eb
          subst ea eb
          have HS := Lib.hid (show hullStep (0, 0) (p, q) = (p, q) from (if_neg hq).trans (if_pos (Int.le_refl _)))
          go_wp2_with fail
          refine (empty_any _ _ _).mono ?_
          rintro e w2 ⟨rfl, hb2⟩
          have hR2 := (hR.alloc (.cells #[.int .i64 p, .int .i64 q] 23)).below hb2
          have hB2 := (hB.alloc (.cells #[.int .i64 p, .int .i64 q] 23)).below hb2
          have hS2 := (Box.new2 wr (.int .i64 p) (.int .i64 q) 23).below hb2
          have HB2 := Lib.hid (below_then (HB.out.alloc (by omega) _) hb2)
          have hSz : w.heap.size + 1 < wr.heap.size := b4
          clear hb2 hR hB HB r0 r1 r2 r3 r4 b0 b1 b2 b3 b4 c0 c1
          obtain ⟨r0, r1, r2, r3, r4⟩ := hR2.of2
          obtain ⟨b0, b1, b2, b3, b4⟩ := hB2.of2
          obtain ⟨s0, s1, s2, s3, s4⟩ := hS2.of2
          go_wp2_with fail
          go_roundw
          case rel => exact ⟨k + 1, p, q, by omega, by go_num, by rw [hull_snoc HX.out HH.out, HS.out], (hR2.set_other (by omega) 0 _).set_other (by omega) 1 _, (hB2.set 0 _ (by simp)).set 1 _ (by simp), Below.setCell (Below.setCell HB2.out (by go_size) _) (by go_size) _⟩
          case measure => simp [intOf]; omega
        · have hab' : a < b := hab
          have HS := Lib.hid (show hullStep (a, b) (p, q) = (min a p, max b q) from (if_neg hq).trans (if_neg (by show ¬ b ≤ a; omega)))
          have hz : (a == 0) = false ∨ ((a == 0) = true ∧ (b == 0) = false) := by
            rcases (show a ≠ 0 ∨ (a = 0 ∧ b ≠ 0) by omega) with h | ⟨h, h'⟩
            · exact .inl (by simpa using h)
            · exact .inr ⟨by simpa using h, by simpa using h'⟩
          clear hab
          rcases hz with hz | ⟨hz, hz'⟩
          all_goals
            go_wp2_with fail
            refine (empty_any _ _ _).mono ?_
            rintro e w2 ⟨rfl, hb2⟩
            have hR2 := (hR.alloc (.cells #[.int .i64 p, .int .i64 q] 23)).below hb2
            have hB2 := (hB.alloc (.cells #[.int .i64 p, .int .i64 q] 23)).below hb2
            have hS2 := (Box.new2 wr (.int .i64 p) (.int .i64 q) 23).below hb2
            have HB2 := Lib.hid (below_then (HB.out.alloc (by omega) _) hb2)
            have hSz : w.heap.size + 1 < wr.heap.size := b4
            clear hb2 hR hB HB r0 r1 r2 r3 r4 b0 b1 b2 b3 b4 c0 c1
            obtain ⟨r0, r1, r2, r3, r4⟩ := hR2.of2
            obtain ⟨b0, b1, b2, b3, b4⟩ := hB2.of2
            obtain ⟨s0, s1, s2, s3, s4⟩ := hS2.of2
            go_wp2_with fail
            all_goals
              go_roundw
              case rel =>
                refine ⟨k + 1, _, _, by omega, by go_num, ?_, (hR2.set_other (by omega) 0 _).set_other (by omega) 1 _, (hB2.set 0 _ (by simp)).set 1 _ (by simp), Below.setCell (Below.setCell HB2.out (by go_size) _) (by go_size) _⟩
                exact (hull_snoc HX.out HH.out).trans (HS.out.trans (Prod.ext (by show min a p = _; omega) (by show max b q = _; omega)))
              case measure => simp [intOf]; omega
    · have HN := Lib.hid (hull_all (by rw [HL.out]; omega) HH.out)
      obtain ⟨r0, r1, r2, r3, r4⟩ := hR.of2
      obtain ⟨b0, b1, b2, b3, b4⟩ := hB.of2
      go_wp2_with fail
      refine bodyPost_ret (v := .agg #[.int .i64 a, .int .i64 b]) (by simp [results, Try.results20, go_sem, r0, r1]) rfl ⟨by rw [HN.out], ?_⟩
      exact Below.setCell (Below.setCell HB.out (by go_size) _) (by go_size) _
set_option maxHeartbeats 2000000 in
theorem rhull_any (A : Option Addr) (n c : Nat) (zs : List Sp) (w : World) (h1 : Rows 2 encS w A n zs) :
    Calls Try.prog 21 #[.slice A n c] w fun e w' => e = .returned (.agg #[.int .i64 (hullL zs).1, .int .i64 (hullL zs).2]) ∧ Below w.heap.size w w' := by
  have hn := h1.2.1
  have HL := Lib.hid h1.1
  have H1 := Lib.hid h1
  clear h1
  go_enter Try.func21, Try.ntmps21
  go_wp2_with fail
  go_loopw [4] (fun i wr => ∃ (k : Nat) (a b : Int), k ≤ n ∧ i = .int .i64 k ∧ (zs.take k).foldl hullStep (0, 0) = (a, b) ∧ Box wr w.heap.size [.int .i64 0, .int .i64 0] ∧ Box wr (w.heap.size + 1) [.int .i64 a, .int .i64 b] ∧ Below w.heap.size w wr) (fun i _ => n - (intOf i).toNat)
  case atStart => exact ⟨0, 0, 0, by omega, rfl, rfl, (Box.new2 _ _ _ _).alloc _, Box.new2' _ _ _ _ _ (by simp), by go_grown⟩
  case round =>
    obtain ⟨k, a, b, hk, rfl, hh, hR, hB, hb⟩ := hrel
    have HH := Lib.hid hh
    have HB := Lib.hid hb
    clear hh hb
    by_cases hlt : k < n
    · obtain ⟨bl, off, p, q, rfl, hbl, hx, HC⟩ := rows_get H1.out hlt
      have HX := Lib.hid hx
      clear hx
      obtain ⟨c0, c1, c2⟩ := HC.out wr HB.out
      obtain ⟨r0, r1, r2, r3, r4⟩ := hR.of2
      obtain ⟨b0, b1, b2, b3, b4⟩ := hB.of2
      by_cases hq : q ≤ p
      · have HS := Lib.hid (show hullStep (a, b) (p, q) = (a, b) from if_pos hq)
        go_wp2_with fail
        refine (none_any _ _ _).mono ?_
        rintro e w2 ⟨rfl, hb2⟩
        have hR2 := hR.below hb2
        have hB2 := hB.below hb2
        have HB2 := Lib.hid (below_then HB.out hb2)
        clear hb2
        go_wp2_with fail
        go_roundw
        case rel => exact ⟨k + 1, a, b, by omega, by go_num, by rw [hull_snoc HX.out HH.out, HS.out], hR2, hB2, HB2.out⟩
        case measure => simp [intOf]; omega
      · have HS := Lib.hid (show hullStep (a, b) (p, q) = if b ≤ a then (p, q) else (min a p, max b q) from if_neg hq)
        by_cases hab : b ≤ a
        · skip
          go_wp2_with fail
          refine (none_any _ _ _).mono ?_
          rintro e w2 ⟨rfl, hb2⟩
          have hR2 := hR.below hb2
          have hB2 := hB.below hb2
          have HB2 := Lib.hid (below_then HB.out hb2)
          clear hb2 hR hB HB r0 r1 r2 r3 r4 b0 b1 b2 b3 b4 c0 c1 c2
          obtain ⟨b0, b1, b2, b3, b4⟩ := hB2.of2
          go_wp2_with fail
          refine (none_any _ _ _).mono ?_
          rintro e w3 ⟨rfl, hb2⟩
          replace hR2 := hR2.below hb2
          replace hB2 := hB2.below hb2
          replace HB2 := Lib.hid (below_then HB2.out hb2)
          clear hb2 b0 b1 b2 b3 b4
          obtain ⟨c0, c1, c2⟩ := HC.out w3 HB2.out
          obtain ⟨b0, b1, b2, b3, b4⟩ := hB2.of2
          have hne : ¬ bl = w.heap.size + 1 := by omega
          have hne' : ¬ w.heap.size + 1 = bl := by omega
          go_wp2_with fail
          go_region
          go_wp2_with fail
          go_region
          go_wp2_with fail
          go_roundw
          case rel =>
            refine ⟨k + 1, p, q, by omega, by go_num, ?_, ((((hR2.set_other (by omega) 0 _).set_other (by omega) 1 _).set_other (by omega) 0 _).set_other (by omega) 1 _).drew.drew, ((((hB2.set 0 _ (by simp)).set 1 _ (by simp)).set 0 _ (by simp)).set 1 _ (by simp)).drew.drew, (Below.setCell (Below.setCell (Below.setCell (Below.setCell HB2.out (by go_size) _) (by go_size) _) (by go_size) _) (by go_size) _).drew.drew⟩
            exact (hull_snoc HX.out HH.out).trans (HS.out.trans (if_pos hab))
          case measure => simp [intOf]; omega
        · rcases (show (p < a ∧ q ≤ b) ∨ (p < a ∧ b < q) ∨ (a ≤ p ∧ q ≤ b) ∨ (a ≤ p ∧ b < q) by omega) with ⟨h3, h4⟩ | ⟨h3, h4⟩ | ⟨h3, h4⟩ | ⟨h3, h4⟩
          all_goals
            go_wp2_with fail
            refine (none_any _ _ _).mono ?_
            rintro e w2 ⟨rfl, hb2⟩
            have hR2 := hR.below hb2
            have hB2 := hB.below hb2
            have HB2 := Lib.hid (below_then HB.out hb2)
            clear hb2 hR hB HB r0 r1 r2 r3 r4 b0 b1 b2 b3 b4 c0 c1 c2
            obtain ⟨b0, b1, b2, b3, b4⟩ := hB2.of2
            go_wp2_with fail
            refine (none_any _ _ _).mono ?_
            rintro e w3 ⟨rfl, hb2⟩
            replace hR2 := hR2.below hb2
            replace hB2 := hB2.below hb2
            replace HB2 := Lib.hid (below_then HB2.out hb2)
            clear hb2 b0 b1 b2 b3 b4
            obtain ⟨c0, c1, c2⟩ := HC.out w3 HB2.out
            obtain ⟨b0, b1, b2, b3, b4⟩ := hB2.of2
            have hne : ¬ bl = w.heap.size + 1 := by omega
            have hne' : ¬ w.heap.size + 1 = bl := by omega
            go_wp2_with fail
            go_region
            go_wp2_with fail
            go_region
            go_wp2_with fail
            go_roundw
            case rel =>
              refine ⟨k + 1, _, _, by omega, by go_num, ?_, ((hR2.set_other (by omega) 0 _).set_other (by omega) 1 _).drew.drew, ((hB2.set 0 _ (by simp)).set 1 _ (by simp)).drew.drew, (Below.setCell (Below.setCell HB2.out (by go_size) _) (by go_size) _).drew.drew⟩
              exact (hull_snoc HX.out HH.out).trans (HS.out.trans ((if_neg (by omega)).trans (Prod.ext (by show min a p = _; omega) (by show max b q = _; omega))))
            case measure => simp [intOf]; omega
    · have HN := Lib.hid (hull_all (by rw [HL.out]; omega) HH.out)
      obtain ⟨r0, r1, r2, r3, r4⟩ := hR.of2
      obtain ⟨b0, b1, b2, b3, b4⟩ := hB.of2
      go_wp2_with fail
      refine bodyPost_ret (v := .agg #[.int .i64 a, .int .i64 b]) (by simp [results, Try.results21, go_sem, r0, r1]) rfl ⟨by rw [HN.out], ?_⟩
      exact Below.setCell (Below.setCell HB.out (by go_size) _) (by go_size) _
end Go.Proofs.Ytkbpiekmphcdnaa
