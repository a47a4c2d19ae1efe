import Derived.Test.YtnipifccalalhaaDoorLexPartedW
/- The walk of the law LexPlaces. -/
namespace Go.Proofs.YtnipifccalalhaaDoor
open Go.RowKit
set_option linter.unusedVariables false
set_option linter.unusedSimpArgs false
theorem nothing_to {u : ByteArray} (h : (nstF u u.size 0 false).isSome = true) (w : World) (hs : u.size ≤ 100000) : Calls Tryd.prog 12 #[.string u] w fun e w' => e = .returned (.bool true) ∧ w = w' := by
  have := nothing_any u w hs
  rw [h] at this; exact this
theorem nothing_at {s : ByteArray} {i j : Nat} (hij : i ≤ j) (hj : j ≤ s.size) (h : (nstF s (j - i) i false).isSome = true) : (nstF (s.extract i j) (s.extract i j).size 0 false).isSome = true := by
  have hz : (s.extract i j).size = j - i := by rw [ByteArray.size_extract]; omega
  rw [hz, nstF_extract s i j hj (j - i) 0 false (by omega), Nat.add_zero]; exact h
/-- what is known of the token that comes next. -/
theorem placed_next {s : ByteArray} {o : List Tok} {eF : Nat} {lF : Bool} (hF : Placed s o eF lF) {k e : Nat} {l : Bool} (hp : Placed s (o.take k) e l) {x : Tok} (hx : o[k]? = some x) :
    ∃ p, TokOk s x p ∧ e ≤ p ∧ (nstF s (p - e) e false).isSome = true ∧ (x.kind = 2 → l = true → e < p) ∧ Placed s (o.take (k + 1)) (endT s x p) (decide (x.kind = 2)) := by
  have hk : k < o.length := (List.getElem?_eq_some_iff.1 hx).1
  obtain ⟨e', l', hp'⟩ := hF.take o.length rfl (k + 1) (by omega)
  have hp2 := hp'
  rw [take_snocT hx] at hp'
  obtain ⟨e1, l1, p, h1, h2, h3, h4, h5, h6, h7⟩ := hp'.last
  obtain ⟨rfl, rfl⟩ := h1.unique hp
  subst h6 h7
  exact ⟨p, h2, h3, h4, h5, hp2⟩
theorem placed_prev {s : ByteArray} {o : List Tok} {k e : Nat} {l : Bool} (hp : Placed s (o.take (k + 1)) e l) {x : Tok} (hx : o[k]? = some x) : l = decide (x.kind = 2) := by
  rw [take_snocT hx] at hp
  obtain ⟨e1, l1, p, h1, h2, h3, h4, h5, h6, h7⟩ := hp.last
  exact h7
set_option maxRecDepth 100000 in
set_option maxHeartbeats 4000000 in
theorem lexplaces_law (s : ByteArray) (hmax : s.size ≤ 9223372036854775807) (w : World) (hTb : Tabs w) : Calls Tryd.prog 4 #[.string s] w fun e w' => e = .returned (.bool true) ∧ Below w.heap.size w w' := by
  by_cases hbig : 5000 < s.size
  · go_enter Tryd.func4, Tryd.ntmps4
    go_wp2_with (go_at_call 6; refine (lawake_any _ hTb).mono ?_; rintro e w' ⟨rfl, hbw⟩)
    go_ret
    exact ⟨rfl, hbw⟩
  have hs : s.size ≤ 100000 := by omega
  rcases hl : lexB s with ⟨_ | o, q⟩
  · have HL := Lib.hid hl
    clear hl
    go_enter Tryd.func4, Tryd.ntmps4
    go_wp2_with fail
    refine (lex_bad HL.out _ hTb hs).mono ?_
    rintro e w1 ⟨rfl, hq, hb1⟩
    have hq2 : (q : Int) < (s.size : Int) := by omega
    go_wp2_with (go_at_call 6; refine (lawake_any _ (hTb.below hb1)).mono ?_; rintro e w' ⟨rfl, hbw⟩)
    go_ret
    exact ⟨rfl, below_then hb1 hbw⟩
  · obtain ⟨eF, lF, hF, heF, hnF⟩ := lexB_placed hl
    have HL := Lib.hid hl
    have HF := Lib.hid hF
    have HNF := Lib.hid hnF
    clear hl hF hnF
    go_enter Tryd.func4, Tryd.ntmps4
    go_wp2_with fail
    refine (lex_ok HL.out _ hTb hs).mono ?_
    rintro e W ⟨A, n, c, rfl, hR, hn, hb⟩
    have HR := Lib.hid hR
    have HB := Lib.hid hb
    have HLen := Lib.hid hR.len
    clear hR hb
    go_wp2_with fail
    go_loopw [6, 7] (fun v i wr => ∃ (k e : Nat) (l : Bool), k ≤ n ∧ i = .int .i64 k ∧ v = .int .i64 e ∧ Placed s (o.take k) e l ∧ e ≤ s.size ∧ On W wr) (fun _ i _ => n - (intOf i).toNat)
    case atStart => exact ⟨0, 0, false, by omega, rfl, rfl, by rw [List.take_zero]; exact Placed.nil, by omega, On.refl _⟩
    case round =>
      obtain ⟨k, e, l, hk, rfl, rfl, hp, he, hOn⟩ := hrel
      have HP := Lib.hid hp
      have HOn := Lib.hid hOn
      clear hp hOn
      obtain ⟨wo, rfl⟩ : ∃ wo : World, wo = wr := ⟨_, rfl⟩
      by_cases hlt : k < n
      · obtain ⟨bl, off, x, y, u, v, rfl, hbl, hx, HC⟩ := toks_get HR.out hlt
        obtain ⟨p, hok, hep, hnst, hadj, hnext⟩ := placed_next HF.out HP.out hx
        have hend := endT_size hok
        obtain ⟨h1, hps, hcase⟩ := hok
        simp only at h1 hcase hadj
        subst h1
        have HNo := Lib.hid (nothing_at hep (by omega) hnst)
        have HNext := Lib.hid hnext
        have hext : (s.extract e p).size ≤ 100000 := by rw [ByteArray.size_extract]; omega
        obtain ⟨⟨c0, c1, c2, c3⟩, c4⟩ := HC.out wo HOn.out
        have i1 : (0 : Int) ≤ (k : Int) := by omega
        have i2 : (k : Int) < (n : Int) := by omega
        have i3 : (e : Int) ≤ (p : Int) := by omega
        have i4 : (p : Int) < (s.size : Int) := by omega
        have i5 : (p : Int) ≤ (s.size : Int) := by omega
        clear hnst hnext
        rcases hcase with ⟨rfl, rfl, hz, rfl⟩ | ⟨rfl, rfl, hd, rfl, hmx⟩
        · obtain ⟨rv, hrv⟩ : ∃ rv, runeB s p (sizeB s p) = rv := ⟨_, rfl⟩
          have HS := Lib.hid (fun w => tsize_sign s p hz w hs)
          rw [hrv] at HS c1
          obtain ⟨z, hzz⟩ : ∃ z, sizeB s p = z := ⟨_, rfl⟩
          have hee : endT s ⟨1, runeB s p (sizeB s p), 0, (p : Int)⟩ p = p + sizeB s p := if_pos rfl
          rw [hee] at hend HNext
          rw [hzz] at HS hz hend HNext
          have hz0 : ((z : Int) == 0) = false := by simp; omega
          clear hadj hee hrv hzz
          go_wp2_with (go_at_call 12; refine (nothing_to HNo.out _ hext).mono ?_; rintro e' w' ⟨rfl, rfl⟩)
          refine (HS.out _).mono ?_
          rintro e2 w2 ⟨rfl, hb2⟩
          have hS2 := (Box.new wo [.int .i64 1, .int .i32 rv, .int .i64 0, .int .i64 (p : Int)] 32).below hb2
          have HOn2 := Lib.hid (below_then (On.alloc HOn.out (.cells #[.int .i64 1, .int .i32 rv, .int .i64 0, .int .i64 (p : Int)] 32)) hb2)
          have s0 := hS2.2.2 0 _ rfl
          have s3 := hS2.2.2 3 _ rfl
          clear hb2 hS2 c0 c1 c2 c3 c4 HS
          have hpz : ((p + z : Nat) : Int) = (p : Int) + (z : Int) := by omega
          have HPz := Lib.hid hpz
          clear hpz
          rcases Nat.eq_zero_or_pos k with hk0 | hk0
          case' inl => have hg : decide ((0 : Int) < (k : Int)) = false := by simp; omega
          case' inr => have hg : decide ((0 : Int) < (k : Int)) = true := by simp; omega
          all_goals
            go_wp2_with fail
            go_roundw
            case rel => exact ⟨k + 1, p + z, _, by omega, by go_num, by rw [HPz.out], HNext.out, by omega, HOn2.out⟩
            case measure => simp [intOf]; omega
        · rcases hnb : numB s p with ⟨nv, ne⟩
          have hnn : 0 ≤ nv := by
            have := numF_nonneg (s := s) (s.size + 1) 0 p (Int.le_refl _)
            rw [show numF s (s.size + 1) 0 p = (nv, ne) from hnb] at this; exact this
          have HS := Lib.hid (fun w => tsize_num s p nv ne hd hnb (by rw [hnb] at hmx; exact hmx) w hs)
          have hee : endT s ⟨2, 0, (numB s p).1, (p : Int)⟩ p = (numB s p).2 := if_neg (show ¬ (2 : Int) = 1 by decide)
          rw [hee] at hend HNext
          rw [hnb] at hend HNext hmx c2
          simp only at hend HNext hmx c2
          have hz0 : ((ne : Int) - (p : Int) == 0) = false := by simp; omega
          have hlast : ∀ y', 0 < k → o[k - 1]? = some y' → l = decide (y'.kind = 2) := fun y' hk0 hy => by
            have hp2 := HP.out
            rw [show k = (k - 1) + 1 by omega] at hp2
            exact placed_prev hp2 hy
          have HLast := Lib.hid hlast
          have HAdj := Lib.hid (fun h : l = true => hadj rfl h)
          clear hee hnb hlast hadj hd
          go_wp2_with (go_at_call 12; refine (nothing_to HNo.out _ hext).mono ?_; rintro e' w' ⟨rfl, rfl⟩)
          refine (HS.out _).mono ?_
          rintro e2 w2 ⟨rfl, hb2⟩
          have hS2 := (Box.new wo [.int .i64 2, .int .i32 0, .int .i64 nv, .int .i64 (p : Int)] 32).below hb2
          have HOn2 := Lib.hid (below_then (On.alloc HOn.out (.cells #[.int .i64 2, .int .i32 0, .int .i64 nv, .int .i64 (p : Int)] 32)) hb2)
          have s0 := hS2.2.2 0 _ rfl
          have s3 := hS2.2.2 3 _ rfl
          clear hb2 hS2 c0 c1 c2 c3 c4 HS
          have hpz : (p : Int) + ((ne : Int) - (p : Int)) = (ne : Int) := by omega
          have o1 : IntKind.i64.wrap ((p : Int) + ((ne : Int) - (p : Int))) = (p : Int) + ((ne : Int) - (p : Int)) := IntWalk.i64_in _ (by omega)
          have HPz := Lib.hid hpz
          clear hpz
          rcases Nat.eq_zero_or_pos k with hk0 | hk0
          · have hg : decide ((0 : Int) < (k : Int)) = false := by simp; omega
            go_wp2_with fail
            go_roundw
            case rel => exact ⟨k + 1, ne, _, by omega, by go_num, by rw [HPz.out], HNext.out, by omega, HOn2.out⟩
            case measure => simp [intOf]; omega
          · have hg : decide ((0 : Int) < (k : Int)) = true := by simp; omega
            obtain ⟨bl2, off2, kp, y2, u2, v2, e2, hbl2, hx2, HC2⟩ := toks_get HR.out (i := k - 1) (by omega)
            simp only [Option.some.injEq, Addr.mk.injEq] at e2
            obtain ⟨eb, eo, _⟩ := e2
            subst eb eo
            obtain ⟨⟨d0, d1, d2, d3⟩, d4⟩ := HC2.out w2 HOn2.out
            have hl := HLast.out _ hk0 hx2
            simp only at hl
            have e0 : (0 : Int) ≤ (k : Int) - 1 := by omega
            have e1 : (k : Int) - 1 < (n : Int) := by omega
            have e2 : ((k : Int) - 1).toNat = k - 1 := by omega
            have e3 : IntKind.i64.wrap ((k : Int) - 1) = (k : Int) - 1 := IntWalk.i64_in _ (by omega)
            clear hx2
            by_cases hkp : kp = 2
            · subst hkp
              have hlt2 := HAdj.out (by rw [hl]; rfl)
              have hpe : ((p : Int) == (e : Int)) = false := by simp; omega
              clear hl
              go_wp2_with fail
              go_roundw
              case rel => exact ⟨k + 1, ne, _, by omega, by go_num, by rw [HPz.out], HNext.out, by omega, HOn2.out⟩
              case measure => simp [intOf]; omega
            · have hkb : (kp == 2) = false := by simp [hkp]
              clear hl
              go_wp2_with fail
              go_roundw
              case rel => exact ⟨k + 1, ne, _, by omega, by go_num, by rw [HPz.out], HNext.out, by omega, HOn2.out⟩
              case measure => simp [intOf]; omega
      · obtain rfl : k = n := by omega
        have hp := HP.out
        rw [List.take_of_length_le (by rw [HLen.out]; omega)] at hp
        obtain ⟨rfl, rfl⟩ := hp.unique HF.out
        have HNo := Lib.hid (nothing_at (j := s.size) he (Nat.le_refl _) HNF.out)
        have hext : (s.extract e s.size).size ≤ 100000 := by rw [ByteArray.size_extract]; omega
        have i3 : (e : Int) ≤ (s.size : Int) := by omega
        clear hp
        go_wp2_with (first
          | (go_at_call 12; refine (nothing_to HNo.out _ hext).mono ?_; rintro e' w' ⟨rfl, rfl⟩)
          | (go_at_call 6; refine (lawake_any _ (hTb.below (below_then HB.out HOn.out))).mono ?_; rintro e' w8 ⟨rfl, hb8⟩))
        go_ret
        exact ⟨rfl, below_then (below_then HB.out HOn.out) hb8⟩
end Go.Proofs.YtnipifccalalhaaDoor
