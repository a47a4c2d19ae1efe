import Derived.Test.YtikpbgkjghcidaaMarginRef2
import Derived.Test.YtikpbgkjghcidaaCells
/- The document's Run (package margin). (Written by program: tools/drafts/genmarginrun.py.) -/
namespace Go.Proofs.Ytikpbgkjghcidaa
open Go.RowKit
set_option linter.unusedVariables false
set_option linter.unusedSimpArgs false
theorem st_at {w : World} {A : Option Addr} {n : Nat} {l : List Stp} (h : Rows 3 encSt w A n l) {i : Nat} (hi : i < n) :
    ∃ b off s, A = some ⟨b, off, none⟩ ∧ b < w.heap.size ∧ l[i]? = some s ∧ w.cell? ⟨b, off + i * 3, none⟩ = some (.int .i64 s.kind) ∧ w.cell? ⟨b, off + i * 3 + 1, none⟩ = some (.int .i64 s.a) ∧ w.cell? ⟨b, off + i * 3 + 2, none⟩ = some (.int .i64 s.b) := by
  obtain ⟨b, off, f, h1, h2, h3, h4⟩ := h.at_ hi
  exact ⟨b, off, f, h1, h2, h3, h4 0 _ rfl, h4 1 _ rfl, h4 2 _ rfl⟩
theorem Box.of3 {w : World} {n : Nat} {a b c : Value} (h : Box w n [a, b, c]) : (w.cell? ⟨n, 0, none⟩ = some a ∧ w.cell? ⟨n, 1, none⟩ = some b ∧ w.cell? ⟨n, 2, none⟩ = some c) ∧ n < w.heap.size :=
  ⟨⟨h.2.2 0 _ rfl, h.2.2 1 _ rfl, h.2.2 2 _ rfl⟩, h.1⟩
theorem cells_ofone13 (w : World) (t : TypeId) (v : Value) : Cells (w.alloc (.cells #[v] t)) (some ⟨w.heap.size, 0, none⟩) 1 1 [v] :=
  ⟨rfl, by decide, fun _ => ⟨w.heap.size, 0, rfl, by simp, fun j u hu => by
    have := (Box.new w [v] t).2.2 j u hu
    rw [Nat.zero_add]; exact this⟩⟩
theorem int_info13 : (Try.prog.info? 3).map (fun i => (i.zero, i.size, i.bytes)) = some (some (.int .i64 0), 1, 8) := by kernel_rfl
theorem owns_set13 {w : World} {base : Nat} {e : TypeId} {size : Nat} {v : Value} {n : Nat} {xs : List Value} (h : w.ownsRow base e size v n xs) {m : Nat} (hm : m < base) (j : Nat) (u : Value) : (w.setCell ⟨m, j, none⟩ u).ownsRow base e size v n xs := by
  refine ⟨h.1, ?_⟩
  rcases h.2 with h2 | ⟨g, cap, cur, h1, h2, h3, h4⟩
  · exact .inl h2
  · exact .inr ⟨g, cap, cur, h1, h2, (Below.heap_setCell _ _ _ _ (fun e => by simp at e; omega)).trans h3, h4⟩
theorem owns_mono13 {w : World} {base b2 : Nat} {e : TypeId} {size : Nat} {v : Value} {n : Nat} {xs : List Value} (h : w.ownsRow base e size v n xs) (hb : b2 ≤ base) : w.ownsRow b2 e size v n xs := by
  refine ⟨h.1, ?_⟩
  rcases h.2 with h2 | ⟨g, cap, cur, h1, h2, h3⟩
  · exact .inl h2
  · exact .inr ⟨g, cap, cur, h1, by omega, h3⟩
/-- a pen and a row of places, of the call's own. -/
def PenOut (w : World) (p : Int × Int) (zs : List Int) (e : Ending) (w' : World) : Prop := ∃ A n c, e = .returned (.tuple #[.agg #[.int .i64 p.1, .int .i64 p.2], .slice A n c]) ∧ n = zs.length ∧ w'.ownsRow w.heap.size 3 1 (.slice A n c) n (zs.map (Value.int .i64)) ∧ Below w.heap.size w w'
set_option maxHeartbeats 8000000 in
set_option maxRecDepth 100000 in
theorem rrun13_to {l : List Stp} {y m : Int} (hy : NearI y) (hm : NearI m) (hn : ∀ s ∈ l, s.near) {A : Option Addr} {n c : Nat} (hn2 : n ≤ 1000) {w : World} (h : Rows 3 encSt w A n l) :
    Calls Try.prog 9 #[.agg #[.int .i64 y, .int .i64 m], .slice A n c] w (PenOut w (penL (y, m) l) (placesL (y, m) l)) := by
  obtain ⟨i0, hi0, hz0, hz1, hz2⟩ := info_parts int_info13
  have HA := Lib.hid h
  have HL := Lib.hid h.1
  have HN := Lib.hid hn
  have HPS := Lib.hid (PenB.start hy hm)
  clear h hn hy hm
  obtain ⟨V, hV⟩ : ∃ V, (w.alloc (.cells #[.int .i64 y, .int .i64 m] 23)).alloc (.cells #[.int .i64 0, .int .i64 0] 23) = V := ⟨_, rfl⟩
  have HB0 := Lib.hid (show Below w.heap.size w V by rw [← hV]; go_grown)
  have HD0 := Lib.hid (show Box V w.heap.size [.int .i64 y, .int .i64 m] by rw [← hV]; exact (Box.new2 _ _ _ _).alloc _)
  have HR0 := Lib.hid (show Box V (w.heap.size + 1) [.int .i64 0, .int .i64 0] by rw [← hV]; exact Box.new2' _ _ _ _ _ (by simp))
  have HVV := Lib.hid hV
  clear hV
  go_enter Try.func9, Try.ntmps9
  go_wp2_with fail
  rw [HVV.out]
  go_loopw [6, 7, 8] (fun o i x wr => ∃ (k m3 c1 : Nat) (A1 : Option Addr) (ps : List Int) (y1 m1 : Int), o = .slice A1 m3 c1 ∧ i = .int .i64 (k : Int) ∧ k ≤ n ∧ m3 ≤ k ∧ Hid (placesL (y, m) (l.take k) = ps) ∧ Hid (penL (y, m) (l.take k) = (y1, m1)) ∧ Hid (wr.ownsRow (w.heap.size + 2) 3 1 (.slice A1 m3 c1) m3 (ps.map (Value.int .i64))) ∧ Hid (Box wr w.heap.size [.int .i64 y1, .int .i64 m1]) ∧ Hid (Box wr (w.heap.size + 1) [.int .i64 0, .int .i64 0]) ∧ Hid (Below w.heap.size w wr)) (fun _ i _ _ => n - (intOf i).toNat)
  case atStart => exact ⟨0, 0, 0, none, [], y, m, rfl, rfl, Nat.zero_le _, Nat.le_refl _, Lib.hid rfl, Lib.hid rfl, Lib.hid (owns_nil _ _ _ _), HD0, HR0, HB0⟩
  case round =>
    obtain ⟨k, m3, c1, A1, ps, y1, m1, rfl, rfl, hkn, hmk, HPL, HPE, HOw, HD, HR, HB⟩ := hrel
    by_cases hlt : k < n
    · have hlt2 : (k : Int) < (n : Int) := by omega
      obtain ⟨b1, o1, s, rfl, hb1, hs, q0, q1, q2⟩ := st_at (HA.out.below HB.out) hlt
      have HPT := Lib.hid (placesL_take (y, m) hs)
      have HET := Lib.hid (penL_take (y, m) hs)
      have HNS := Lib.hid (HN.out s (List.mem_of_getElem? hs))
      have HPB := Lib.hid (show PenB k (y1, m1) by rw [← HPE.out]; exact penL_take_bd HPS.out HN.out (by have := HL.out; omega))
      obtain ⟨⟨y11, y12⟩, ⟨m11, m12⟩⟩ := penb_open HPB.out (by omega)
      have hna := HNS.out.1
      obtain ⟨s0, a, b⟩ := s
      obtain ⟨a1, a2⟩ := hna
      unfold farB at a1 a2
      simp only at a1 a2 q0 q1 q2
      have hw1 : IntKind.i64.wrap (y1 + m1) = y1 + m1 := wrap_far (by omega)
      have hw2 : IntKind.i64.wrap (y1 + m1 + a) = y1 + m1 + a := wrap_far (by omega)
      clear hs y11 y12 m11 m12 a1 a2
      go_wp2_with ((with_reducible refine stop_dst 19 ?_ ?_); exact rfl)
      refine Stop.intro ?_
      obtain ⟨VS, hVS⟩ : ∃ VS, wr.alloc (.cells #[.int .i64 s0, .int .i64 a, .int .i64 b] 33) = VS := ⟨_, rfl⟩
      have hws := HB.out.size
      have hws2 := HR.out.1
      have HS := Lib.hid (show Box VS wr.heap.size [.int .i64 s0, .int .i64 a, .int .i64 b] by rw [← hVS]; exact Box.new wr [.int .i64 s0, .int .i64 a, .int .i64 b] _)
      have HDG := Lib.hid (show Box VS w.heap.size [.int .i64 y1, .int .i64 m1] by rw [← hVS]; exact HD.out.alloc _)
      have HRG := Lib.hid (show Box VS (w.heap.size + 1) [.int .i64 0, .int .i64 0] by rw [← hVS]; exact HR.out.alloc _)
      have HOG := Lib.hid (show VS.ownsRow (w.heap.size + 2) 3 1 (.slice A1 m3 c1) m3 (ps.map (Value.int .i64)) by rw [← hVS]; exact owns_below HOw.out ((Below.refl wr.heap.size wr).alloc (Nat.le_refl _) _))
      have HBG := Lib.hid (show Below w.heap.size w VS by rw [← hVS]; exact HB.out.alloc hws _)
      rw [hVS]
      clear hVS q0 q1 q2
      obtain ⟨⟨k0, k1, k2⟩, _⟩ := HS.out.of3
      obtain ⟨j0, j1, j2, j3, j4⟩ := HDG.out.of2
      by_cases u1 : s0 = 1
      · subst u1
        obtain ⟨⟨y2, m2⟩, hq⟩ : ∃ q, enterP (y1, m1) a b = q := ⟨_, rfl⟩
        have HQ := Lib.hid hq
        have HP2 := Lib.hid (show placesL (y, m) (l.take (k + 1)) = ps by rw [HPT.out, HPL.out]; exact List.append_nil _)
        have HE2 := Lib.hid (show penL (y, m) (l.take (k + 1)) = (y2, m2) by rw [HET.out, HPE.out]; exact hq)
        clear hq
        go_wp2_with fail
        refine (renter_to HQ.out HPB.out (by omega) HNS.out.1 HNS.out.2 _).mono ?_
        rintro e w5 ⟨rfl, hb5⟩
        have HS5 := Lib.hid (HS.out.below hb5)
        have HD5 := Lib.hid (HDG.out.below hb5)
        have HR5 := Lib.hid (HRG.out.below hb5)
        have HO5 := Lib.hid (owns_below HOG.out hb5)
        have HB5 := Lib.hid (below_then HBG.out hb5)
        clear hb5 k0 k1 k2 j0 j1 j2 j3 j4
        obtain ⟨d0, d1, d2, d3, d4⟩ := HD5.out.of2
        go_wp2_with ((with_reducible refine stop_dst 28 ?_ ?_); exact rfl)
        refine Stop.intro ?_
        have hsz := HB.out.size
        have hR6 := (HR5.out.set_other (m := w.heap.size) (by omega) 0 (.int .i64 (y2))).set_other (m := w.heap.size) (by omega) 1 (.int .i64 (m2))
        have hD6 : Box ((w5.setCell ⟨w.heap.size, 0, none⟩ (.int .i64 (y2))).setCell ⟨w.heap.size, 1, none⟩ (.int .i64 (m2))) w.heap.size [.int .i64 (y2), .int .i64 (m2)] := (HD5.out.set 0 (.int .i64 (y2)) (by simp)).set 1 (.int .i64 (m2)) (by simp)
        have hS6 := (HS5.out.set_other (m := w.heap.size) (by omega) 0 (.int .i64 (y2))).set_other (m := w.heap.size) (by omega) 1 (.int .i64 (m2))
        have hO6 := owns_set13 (owns_set13 HO5.out (m := w.heap.size) (by omega) 0 (.int .i64 (y2))) (m := w.heap.size) (by omega) 1 (.int .i64 (m2))
        have hB6 := (HB5.out.setCell (p := ⟨w.heap.size, 0, none⟩) (Nat.le_refl _) (.int .i64 (y2))).setCell (p := ⟨w.heap.size, 1, none⟩) (Nat.le_refl _) (.int .i64 (m2))
        obtain ⟨Z, hZ⟩ : ∃ Z, (w5.setCell ⟨w.heap.size, 0, none⟩ (.int .i64 (y2))).setCell ⟨w.heap.size, 1, none⟩ (.int .i64 (m2)) = Z := ⟨_, rfl⟩
        rw [hZ] at hR6 hD6 hS6 hO6 hB6 ⊢
        have HR6 := Lib.hid hR6
        have HD6 := Lib.hid hD6
        have HS6 := Lib.hid hS6
        have HO6 := Lib.hid hO6
        have HB6 := Lib.hid hB6
        clear hR6 hD6 hS6 hO6 hB6 hZ hsz d0 d1 d2 d3 d4
        obtain ⟨⟨k0, k1, k2⟩, _⟩ := HS6.out.of3
        go_wp2_with fail
        go_roundw
        case rel => exact ⟨k + 1, m3, c1, A1, ps, y2, m2, rfl, by go_num, by omega, by omega, HP2, HE2, HO6, HD6, HR6, HB6⟩
        case measure => simp [intOf] <;> omega
      by_cases u2 : s0 = 2
      · subst u2
        clear u1
        obtain ⟨⟨y2, m2⟩, hq⟩ : ∃ q, leaveP (y1, m1) a b = q := ⟨_, rfl⟩
        have HQ := Lib.hid hq
        have HP2 := Lib.hid (show placesL (y, m) (l.take (k + 1)) = ps by rw [HPT.out, HPL.out]; exact List.append_nil _)
        have HE2 := Lib.hid (show penL (y, m) (l.take (k + 1)) = (y2, m2) by rw [HET.out, HPE.out]; exact hq)
        clear hq
        go_wp2_with fail
        refine (rleave_to HQ.out HPB.out (by omega) HNS.out.1 HNS.out.2 _).mono ?_
        rintro e w5 ⟨rfl, hb5⟩
        have HS5 := Lib.hid (HS.out.below hb5)
        have HD5 := Lib.hid (HDG.out.below hb5)
        have HR5 := Lib.hid (HRG.out.below hb5)
        have HO5 := Lib.hid (owns_below HOG.out hb5)
        have HB5 := Lib.hid (below_then HBG.out hb5)
        clear hb5 k0 k1 k2 j0 j1 j2 j3 j4
        obtain ⟨d0, d1, d2, d3, d4⟩ := HD5.out.of2
        go_wp2_with ((with_reducible refine stop_dst 37 ?_ ?_); exact rfl)
        refine Stop.intro ?_
        have hsz := HB.out.size
        have hR6 := (HR5.out.set_other (m := w.heap.size) (by omega) 0 (.int .i64 (y2))).set_other (m := w.heap.size) (by omega) 1 (.int .i64 (m2))
        have hD6 : Box ((w5.setCell ⟨w.heap.size, 0, none⟩ (.int .i64 (y2))).setCell ⟨w.heap.size, 1, none⟩ (.int .i64 (m2))) w.heap.size [.int .i64 (y2), .int .i64 (m2)] := (HD5.out.set 0 (.int .i64 (y2)) (by simp)).set 1 (.int .i64 (m2)) (by simp)
        have hS6 := (HS5.out.set_other (m := w.heap.size) (by omega) 0 (.int .i64 (y2))).set_other (m := w.heap.size) (by omega) 1 (.int .i64 (m2))
        have hO6 := owns_set13 (owns_set13 HO5.out (m := w.heap.size) (by omega) 0 (.int .i64 (y2))) (m := w.heap.size) (by omega) 1 (.int .i64 (m2))
        have hB6 := (HB5.out.setCell (p := ⟨w.heap.size, 0, none⟩) (Nat.le_refl _) (.int .i64 (y2))).setCell (p := ⟨w.heap.size, 1, none⟩) (Nat.le_refl _) (.int .i64 (m2))
        obtain ⟨Z, hZ⟩ : ∃ Z, (w5.setCell ⟨w.heap.size, 0, none⟩ (.int .i64 (y2))).setCell ⟨w.heap.size, 1, none⟩ (.int .i64 (m2)) = Z := ⟨_, rfl⟩
        rw [hZ] at hR6 hD6 hS6 hO6 hB6 ⊢
        have HR6 := Lib.hid hR6
        have HD6 := Lib.hid hD6
        have HS6 := Lib.hid hS6
        have HO6 := Lib.hid hO6
        have HB6 := Lib.hid hB6
        clear hR6 hD6 hS6 hO6 hB6 hZ hsz d0 d1 d2 d3 d4
        obtain ⟨⟨k0, k1, k2⟩, _⟩ := HS6.out.of3
        go_wp2_with fail
        go_roundw
        case rel => exact ⟨k + 1, m3, c1, A1, ps, y2, m2, rfl, by go_num, by omega, by omega, HP2, HE2, HO6, HD6, HR6, HB6⟩
        case measure => simp [intOf] <;> omega
      by_cases u3 : s0 = 3
      · subst u3
        clear u1 u2
        obtain ⟨⟨y2, m2⟩, hq⟩ : ∃ q, clearP (y1, m1) a = q := ⟨_, rfl⟩
        have HQ := Lib.hid hq
        have HP2 := Lib.hid (show placesL (y, m) (l.take (k + 1)) = ps by rw [HPT.out, HPL.out]; exact List.append_nil _)
        have HE2 := Lib.hid (show penL (y, m) (l.take (k + 1)) = (y2, m2) by rw [HET.out, HPE.out]; exact hq)
        clear hq
        go_wp2_with fail
        refine (rclear_to HQ.out HPB.out (by omega) HNS.out.1 _).mono ?_
        rintro e w5 ⟨rfl, hb5⟩
        have HS5 := Lib.hid (HS.out.below hb5)
        have HD5 := Lib.hid (HDG.out.below hb5)
        have HR5 := Lib.hid (HRG.out.below hb5)
        have HO5 := Lib.hid (owns_below HOG.out hb5)
        have HB5 := Lib.hid (below_then HBG.out hb5)
        clear hb5 k0 k1 k2 j0 j1 j2 j3 j4
        obtain ⟨d0, d1, d2, d3, d4⟩ := HD5.out.of2
        go_wp2_with ((with_reducible refine stop_dst 44 ?_ ?_); exact rfl)
        refine Stop.intro ?_
        have hsz := HB.out.size
        have hR6 := (HR5.out.set_other (m := w.heap.size) (by omega) 0 (.int .i64 (y2))).set_other (m := w.heap.size) (by omega) 1 (.int .i64 (m2))
        have hD6 : Box ((w5.setCell ⟨w.heap.size, 0, none⟩ (.int .i64 (y2))).setCell ⟨w.heap.size, 1, none⟩ (.int .i64 (m2))) w.heap.size [.int .i64 (y2), .int .i64 (m2)] := (HD5.out.set 0 (.int .i64 (y2)) (by simp)).set 1 (.int .i64 (m2)) (by simp)
        have hS6 := (HS5.out.set_other (m := w.heap.size) (by omega) 0 (.int .i64 (y2))).set_other (m := w.heap.size) (by omega) 1 (.int .i64 (m2))
        have hO6 := owns_set13 (owns_set13 HO5.out (m := w.heap.size) (by omega) 0 (.int .i64 (y2))) (m := w.heap.size) (by omega) 1 (.int .i64 (m2))
        have hB6 := (HB5.out.setCell (p := ⟨w.heap.size, 0, none⟩) (Nat.le_refl _) (.int .i64 (y2))).setCell (p := ⟨w.heap.size, 1, none⟩) (Nat.le_refl _) (.int .i64 (m2))
        obtain ⟨Z, hZ⟩ : ∃ Z, (w5.setCell ⟨w.heap.size, 0, none⟩ (.int .i64 (y2))).setCell ⟨w.heap.size, 1, none⟩ (.int .i64 (m2)) = Z := ⟨_, rfl⟩
        rw [hZ] at hR6 hD6 hS6 hO6 hB6 ⊢
        have HR6 := Lib.hid hR6
        have HD6 := Lib.hid hD6
        have HS6 := Lib.hid hS6
        have HO6 := Lib.hid hO6
        have HB6 := Lib.hid hB6
        clear hR6 hD6 hS6 hO6 hB6 hZ hsz d0 d1 d2 d3 d4
        obtain ⟨⟨k0, k1, k2⟩, _⟩ := HS6.out.of3
        go_wp2_with fail
        go_roundw
        case rel => exact ⟨k + 1, m3, c1, A1, ps, y2, m2, rfl, by go_num, by omega, by omega, HP2, HE2, HO6, HD6, HR6, HB6⟩
        case measure => simp [intOf] <;> omega
      by_cases u4 : s0 = 4
      · subst u4
        clear u1 u2 u3
        have HP2 := Lib.hid (show placesL (y, m) (l.take (k + 1)) = ps ++ [y1 + m1] by rw [HPT.out, HPL.out, HPE.out]; rfl)
        have HE2 := Lib.hid (show penL (y, m) (l.take (k + 1)) = (y1 + m1 + a, 0) by rw [HET.out, HPE.out]; rfl)
        go_wp2_with ((with_reducible refine stop_dst 54 ?_ ?_); exact rfl)
        refine Stop.intro ?_
        have hVS2 := HRG.out.1
        have hOA := owns_below HOG.out ((Below.refl VS.heap.size VS).alloc (Nat.le_refl _) (.cells #[.int .i64 (y1 + m1)] 3))
        refine wpList_append_cells _ rfl (.tmp 47) (.tmp 53) _ rfl (w.heap.size + 2) 3 i0 (.int .i64 0) 1 8 Try.underlying28 hi0 hz0 hz1 hz2 rfl (by decide) (.slice A1 m3 c1) m3 _ rfl hOA _ 1 1 _ rfl (cells_ofone13 VS 3 (.int .i64 (y1 + m1))) (by intro u hu; simp at hu; subst hu; rfl) (by unfold maxLen; omega) (by omega) (by simp; omega) ?_
        intro A2 c2 w2 hown2 hg2
        have hbl := owns_block hOA
        have hlt4 := owns_block_lt HOw.out
        have HS5 := Lib.hid ((HS.out.alloc (.cells #[.int .i64 (y1 + m1)] 3)).grown hg2 (fun r e => by have := hlt4 r e; omega))
        have HD5 := Lib.hid ((HDG.out.alloc (.cells #[.int .i64 (y1 + m1)] 3)).grown hg2 (fun r e => by have := hbl r e; omega))
        have HR5 := Lib.hid ((HRG.out.alloc (.cells #[.int .i64 (y1 + m1)] 3)).grown hg2 (fun r e => by have := hbl r e; omega))
        have HO5 := Lib.hid (show w2.ownsRow (w.heap.size + 2) 3 1 (.slice A2 (m3 + 1) c2) (m3 + 1) ((ps ++ [y1 + m1]).map (Value.int .i64)) by rw [List.map_append]; exact hown2)
        have HB5 := Lib.hid ((HBG.out.alloc (by have := HBG.out.size; omega) (.cells #[.int .i64 (y1 + m1)] 3)).grown hg2 (by simp; omega) (fun r e => by have := hbl r e; omega))
        clear hOA hown2 hg2 hbl hlt4 k0 k1 k2 j0 j1 j2 j3 j4 hVS2
        obtain ⟨⟨k0, k1, k2⟩, _⟩ := HS5.out.of3
        obtain ⟨d0, d1, d2, d3, d4⟩ := HD5.out.of2
        go_wp2_with ((with_reducible refine stop_dst 13 ?_ ?_); exact rfl)
        refine Stop.intro ?_
        have hsz := HB.out.size
        have hR6 := (HR5.out.set_other (m := w.heap.size) (by omega) 0 (.int .i64 (y1 + m1 + a))).set_other (m := w.heap.size) (by omega) 1 (.int .i64 (0))
        have hD6 : Box ((w2.setCell ⟨w.heap.size, 0, none⟩ (.int .i64 (y1 + m1 + a))).setCell ⟨w.heap.size, 1, none⟩ (.int .i64 (0))) w.heap.size [.int .i64 (y1 + m1 + a), .int .i64 (0)] := (HD5.out.set 0 (.int .i64 (y1 + m1 + a)) (by simp)).set 1 (.int .i64 (0)) (by simp)
        have hS6 := (HS5.out.set_other (m := w.heap.size) (by omega) 0 (.int .i64 (y1 + m1 + a))).set_other (m := w.heap.size) (by omega) 1 (.int .i64 (0))
        have hO6 := owns_set13 (owns_set13 HO5.out (m := w.heap.size) (by omega) 0 (.int .i64 (y1 + m1 + a))) (m := w.heap.size) (by omega) 1 (.int .i64 (0))
        have hB6 := (HB5.out.setCell (p := ⟨w.heap.size, 0, none⟩) (Nat.le_refl _) (.int .i64 (y1 + m1 + a))).setCell (p := ⟨w.heap.size, 1, none⟩) (Nat.le_refl _) (.int .i64 (0))
        obtain ⟨Z, hZ⟩ : ∃ Z, (w2.setCell ⟨w.heap.size, 0, none⟩ (.int .i64 (y1 + m1 + a))).setCell ⟨w.heap.size, 1, none⟩ (.int .i64 (0)) = Z := ⟨_, rfl⟩
        rw [hZ] at hR6 hD6 hS6 hO6 hB6 ⊢
        have HR6 := Lib.hid hR6
        have HD6 := Lib.hid hD6
        have HS6 := Lib.hid hS6
        have HO6 := Lib.hid hO6
        have HB6 := Lib.hid hB6
        clear hR6 hD6 hS6 hO6 hB6 hZ hsz d0 d1 d2 d3 d4
        obtain ⟨⟨k0, k1, k2⟩, _⟩ := HS6.out.of3
        go_wp2_with fail
        go_roundw
        case rel => exact ⟨k + 1, m3 + 1, c2, A2, ps ++ [y1 + m1], y1 + m1 + a, 0, rfl, by go_num, by omega, by omega, HP2, HE2, HO6, HD6, HR6, HB6⟩
        case measure => simp [intOf] <;> omega
      have HP2 := Lib.hid (show placesL (y, m) (l.take (k + 1)) = ps by rw [HPT.out, HPL.out]; unfold placeP; rw [if_neg u4]; exact List.append_nil _)
      have HE2 := Lib.hid (show penL (y, m) (l.take (k + 1)) = (y1, m1) by rw [HET.out, HPE.out]; unfold stepP; rw [if_neg u1, if_neg u2, if_neg u3, if_neg u4])
      have v1 : (s0 == 1) = false := by simpa using u1
      have v2 : (s0 == 2) = false := by simpa using u2
      have v3 : (s0 == 3) = false := by simpa using u3
      have v4 : (s0 == 4) = false := by simpa using u4
      clear u1 u2 u3 u4
      go_wp2_with fail
      go_roundw
      case rel => exact ⟨k + 1, m3, c1, A1, ps, y1, m1, rfl, by go_num, by omega, by omega, HP2, HE2, HOG, HDG, HRG, HBG⟩
      case measure => simp [intOf] <;> omega
    · have hge : (n : Int) ≤ (k : Int) := by omega
      have hkn2 : k = n := by omega
      have HE := Lib.hid (show (y1, m1) = penL (y, m) l by rw [← HPE.out, List.take_of_length_le (by have := HL.out; omega)])
      have HEP := Lib.hid (show ps = placesL (y, m) l by rw [← HPL.out, List.take_of_length_le (by have := HL.out; omega)])
      clear hkn2
      obtain ⟨d0, d1, d2, d3, d4⟩ := HD.out.of2
      obtain ⟨r0, r1, r2, r3, r4⟩ := HR.out.of2
      go_wp2_with fail
      have hY := (HR.out.set 0 (.int .i64 y1) (by simp)).set 1 (.int .i64 m1) (by simp)
      have s0 := hY.2.2 0 _ rfl
      have s1 := hY.2.2 1 _ rfl
      have hlen : m3 = (placesL (y, m) l).length := by rw [← HEP.out]; have := HOw.out.1; simp at this; omega
      exact bodyPost_ret (v := .tuple #[.agg #[.int .i64 y1, .int .i64 m1], .slice A1 m3 c1]) (by simp [results, Try.results9, go_sem, s0, s1]) rfl ⟨A1, m3, c1, by rw [← HE.out], hlen, by rw [← HEP.out]; exact owns_mono13 (owns_set13 (owns_set13 HOw.out (m := w.heap.size + 1) (by omega) 0 (.int .i64 y1)) (m := w.heap.size + 1) (by omega) 1 (.int .i64 m1)) (by omega), (HB.out.setCell (by simp) _).setCell (by simp) _⟩
end Go.Proofs.Ytikpbgkjghcidaa
