import Derived.Test.YtnipifccalalhaaDoorLexRef3
import Derived.Test.YtnipifccalalhaaDoorLexEncode
import Derived.Test.YtnipifccalalhaaDoorOn
/- The law's own functions: whether some bytes are white and comments alone; how many bytes a token has. -/
namespace Go.Proofs.YtnipifccalalhaaDoor
open Go.RowKit
set_option linter.unusedVariables false
set_option linter.unusedSimpArgs false
theorem nst_open {u : ByteArray} {i : Nat} {c : Bool} (h : i < u.size) : nstF u (u.size - i) i c = if bAt u i = 10 then nstF u (u.size - (i + 1)) (i + 1) false else if c then nstF u (u.size - (i + 1)) (i + 1) true else if bAt u i = 35 then nstF u (u.size - (i + 1)) (i + 1) true else if bAt u i = 32 ∨ bAt u i = 9 then nstF u (u.size - (i + 1)) (i + 1) false else none := by
  rw [show u.size - i = (u.size - (i + 1)) + 1 by omega, nstF]
set_option maxHeartbeats 1000000 in
theorem nothing_any (u : ByteArray) (w : World) (hs : u.size ≤ 100000) : Calls Tryd.prog 12 #[.string u] w fun e w' => e = .returned (.bool (nstF u u.size 0 false).isSome) ∧ w = w' := by
  obtain ⟨r, hr⟩ : ∃ r, nstF u u.size 0 false = r := ⟨_, rfl⟩
  rw [hr]
  have HR := Lib.hid (show nstF u (u.size - 0) 0 false = r from hr)
  clear hr
  go_enter Tryd.func12, Tryd.ntmps12
  go_wp2_with fail
  go_loopw [3, 4] (fun v i wr => ∃ (k : Nat) (c : Bool), k ≤ u.size ∧ v = .bool c ∧ i = .int .i64 k ∧ nstF u (u.size - k) k c = r ∧ wr = w) (fun _ i _ => u.size - (intOf i).toNat)
  case atStart => exact ⟨0, false, by omega, rfl, rfl, HR.out, rfl⟩
  case round =>
    obtain ⟨k, c, hk, rfl, rfl, hn, rfl⟩ := hrel
    by_cases hlt : k < u.size
    · rw [nst_open hlt] at hn
      have hb0 := bAt_get u k hlt
      obtain ⟨b, hb⟩ : ∃ b, bAt u k = b := ⟨_, rfl⟩
      rw [hb] at hb0 hn
      have hk2 : (k : Int) < (u.size : Int) := by omega
      clear hb
      by_cases h10 : b = 10
      · rw [if_pos h10] at hn
        subst h10
        have HN := Lib.hid hn
        clear hn
        go_wp2_with fail
        go_roundw
        case rel => exact ⟨k + 1, false, by omega, rfl, by go_num, HN.out, by first | rfl | trivial⟩
        case measure => simp [intOf]; omega
      rw [if_neg h10] at hn
      have hb10 : (b == 10) = false := by simp [h10]
      cases c with
      | true =>
        rw [if_pos rfl] at hn
        have HN := Lib.hid hn
        clear hn
        go_wp2_with fail
        go_roundw
        case rel => exact ⟨k + 1, true, by omega, rfl, by go_num, HN.out, by first | rfl | trivial⟩
        case measure => simp [intOf]; omega
      | false =>
        simp only [Bool.false_eq_true, if_false] at hn
        by_cases h35 : b = 35
        · rw [if_pos h35] at hn
          subst h35
          have HN := Lib.hid hn
          clear hn
          go_wp2_with fail
          go_roundw
          case rel => exact ⟨k + 1, true, by omega, rfl, by go_num, HN.out, by first | rfl | trivial⟩
          case measure => simp [intOf]; omega
        rw [if_neg h35] at hn
        have hb35 : (b == 35) = false := by simp [h35]
        by_cases hw : b = 32 ∨ b = 9
        · rw [if_pos hw] at hn
          have HN := Lib.hid hn
          clear hn h10 h35 hb10 hb35
          rcases hw with rfl | rfl
          all_goals
            go_wp2_with fail
            go_roundw
            case rel => exact ⟨k + 1, false, by omega, rfl, by go_num, HN.out, by first | rfl | trivial⟩
            case measure => simp [intOf]; omega
        · rw [if_neg hw] at hn
          subst hn
          have hb32 : (b == 32) = false := by simp; omega
          have hb9 : (b == 9) = false := by simp; omega
          have kb32 : (b != 32) = true := by simp; omega
          have kb9 : (b != 9) = true := by simp; omega
          clear hw h10 h35
          go_wp2_with fail
          go_ret
          exact ⟨rfl, by first | rfl | trivial⟩
    · obtain rfl : k = u.size := by omega
      rw [Nat.sub_self] at hn
      have HN := Lib.hid (show r.isSome = true by rw [← hn]; rfl)
      clear hn
      go_wp2_with fail
      go_ret
      exact ⟨ret_bool HN.out.symm, by first | rfl | trivial⟩
set_option maxRecDepth 100000 in
set_option maxHeartbeats 2000000 in
theorem tsize_sign (s : ByteArray) (p : Nat) (hz : sizeB s p ≠ 0) (w : World) (hs : s.size ≤ 100000) : Calls Tryd.prog 13 #[.string s, .agg #[.int .i64 1, .int .i32 (runeB s p (sizeB s p)), .int .i64 0, .int .i64 p]] w fun e w' => e = .returned (.int .i64 ((sizeB s p : Nat) : Int)) ∧ Below w.heap.size w w' := by
  have hin := sizeB_in (s := s) (k := p) (by omega)
  have henc := encode_rune hz
  obtain ⟨z, hzz⟩ : ∃ z, sizeB s p = z := ⟨_, rfl⟩
  rw [hzz] at hin henc ⊢
  obtain ⟨rv, hrv⟩ : ∃ rv, runeB s p z = rv := ⟨_, rfl⟩
  rw [hrv] at henc ⊢
  obtain ⟨cs, hcs⟩ : ∃ cs, s.extract p (p + z) = cs := ⟨_, rfl⟩
  have hsz : cs.size = z := by rw [← hcs, ByteArray.size_extract]; omega
  rw [hcs] at henc
  have p1 : (p : Int) + (z : Int) ≤ (s.size : Int) := by omega
  have p2 : (p : Int) ≤ (p : Int) + (z : Int) := by omega
  have p3 : ((p : Int) + (z : Int)).toNat = p + z := by omega
  clear hzz hrv
  go_enter Tryd.func13, Tryd.ntmps13
  go_wp2_with fail
  go_ret
  exact ⟨rfl, by go_grown⟩
theorem numF_size2 {s : ByteArray} : ∀ (f : Nat) (n : Int) (e : Nat), e ≤ s.size → (numF s f n e).2 ≤ s.size
  | 0, _, _, h => h
  | f + 1, n, e, h => by
    rw [numF]; split
    · rename_i hd
      have := inB_lt hd
      exact numF_size2 f _ _ (by omega)
    · exact h
theorem numB_size2 {s : ByteArray} {p : Nat} (h : digB s p = true) (hp : p < s.size) : (numB s p).2 ≤ s.size := numF_size2 _ _ _ (by omega)
theorem numF_mono {s : ByteArray} : ∀ (f : Nat) (n : Int) (e : Nat), 0 ≤ n → n ≤ 2199023255552 → n ≤ (numF s f n e).1
  | 0, n, e, _, _ => Int.le_refl _
  | f + 1, n, e, h0, h => by
    rw [numF]; split
    · rename_i hd
      have hb := inB_iff.1 (show inB s e 48 57 = true from hd)
      have := numF_mono (s := s) f (min (10 * n + (bAt s e - 48)) 2199023255552) (e + 1) (by omega) (by omega)
      omega
    · exact Int.le_refl _
set_option maxRecDepth 100000 in
set_option maxHeartbeats 2000000 in
theorem tsize_num (s : ByteArray) (p : Nat) (nv : Int) (ne : Nat) (hd : digB s p = true) (hn : numB s p = (nv, ne)) (hmax : nv ≤ 1099511627776) (w : World) (hs : s.size ≤ 100000) : Calls Tryd.prog 13 #[.string s, .agg #[.int .i64 2, .int .i32 0, .int .i64 nv, .int .i64 p]] w fun e w' => e = .returned (.int .i64 ((ne : Int) - (p : Int))) ∧ Below w.heap.size w w' := by
  have hp := inB_lt hd
  have HN := Lib.hid (show numF s (s.size + 1) 0 p = (nv, ne) from hn)
  have hne := numB_size2 hd hp
  rw [hn] at hne
  simp only at hne
  clear hd hn
  go_enter Tryd.func13, Tryd.ntmps13
  go_wp2_with fail
  have hA := Box.new w [.int .i64 2, .int .i32 0, .int .i64 nv, .int .i64 (p : Int)] 32
  change Box (w.alloc (.cells #[.int .i64 2, .int .i32 0, .int .i64 nv, .int .i64 (p : Int)] 32)) w.heap.size _ at hA
  have hB : Below w.heap.size w (w.alloc (.cells #[.int .i64 2, .int .i32 0, .int .i64 nv, .int .i64 (p : Int)] 32)) := by go_grown
  generalize w.alloc (.cells #[.int .i64 2, .int .i32 0, .int .i64 nv, .int .i64 (p : Int)] 32) = W at hA hB ⊢
  have k1 := hA.2.2 1 _ rfl
  have k2 := hA.2.2 2 _ rfl
  have k3 := hA.2.2 3 _ rfl
  have HB := Lib.hid hB
  clear hB hA
  go_quiet (fail)
  go_wp2_with fail
  go_loopw [6, 7] (fun v i wr => ∃ (e f2 : Nat) (n : Int), e ≤ s.size ∧ p ≤ e ∧ s.size ≤ e + f2 ∧ v = .int .i64 n ∧ i = .int .i64 e ∧ (0 ≤ n ∧ n ≤ 1099511627776) ∧ numF s f2 n e = (nv, ne) ∧ ∃ m, wr = W.drewN m) (fun _ i _ => s.size - (intOf i).toNat)
  case atStart => exact ⟨p, s.size + 1, 0, by omega, by omega, by omega, rfl, rfl, by omega, HN.out, _, rfl⟩
  case round =>
    obtain ⟨e, f2, n, he1, he2, he3, rfl, rfl, ⟨hn1, hn2⟩, hnf, m, rfl⟩ := hrel
    have HNf := Lib.hid hnf
    clear hnf
    by_cases hlt : e < s.size
    · have hb0 := bAt_get s e hlt
      obtain ⟨b, hb⟩ : ∃ b, bAt s e = b := ⟨_, rfl⟩
      have HBk := Lib.hid hb
      rw [hb] at hb0
      have hk2 : (e : Int) < (s.size : Int) := by omega
      clear hb
      by_cases h48 : 48 ≤ b ∧ b ≤ 57
      · obtain ⟨g1, g2⟩ := h48
        have hde : digB s e = true := inB_yes hlt (by rw [HBk.out]; exact g1) (by rw [HBk.out]; exact g2)
        obtain ⟨f3, hf3, hst⟩ := numF_step (n := n) hde he3
        rw [HNf.out, HBk.out] at hst
        have hmn := numF_mono (s := s) f3 (min (10 * n + (b - 48)) 2199023255552) (e + 1) (by omega) (by omega)
        rw [← hst] at hmn
        simp only at hmn
        have hmin : min (10 * n + (b - 48)) 2199023255552 = 10 * n + (b - 48) := by omega
        rw [hmin] at hst
        have HSt := Lib.hid hst
        have o1 : IntKind.u8.wrap (b - 48) = b - 48 := by rw [IntKind.wrap_u8]; omega
        have hle : 10 * n + (b - 48) ≤ 1099511627776 := by omega
        clear hde hst hmn hmin
        go_wp2_with fail
        go_roundw
        case rel => exact ⟨e + 1, f3, 10 * n + (b - 48), by omega, by omega, by omega, rfl, by go_num, by omega, HSt.out.symm, m, rfl⟩
        case measure => simp [intOf]; omega
      · have hde : digB s e = false := inB_no (by rw [HBk.out]; omega)
        have hend := numF_end (f := f2) (n := n) hde
        rw [HNf.out] at hend
        injection hend with q1 q2
        subst q1 q2
        have hbb : b < 48 ∨ (48 ≤ b ∧ 57 < b) := by omega
        clear hde h48
        rcases hbb with g1 | ⟨g1, g2⟩
        all_goals
          go_wp2_with fail
          go_ret
          exact ⟨rfl, below_drewN HB.out m⟩
    · have hde : digB s e = false := inB_ge hlt _ _
      have hend := numF_end (f := f2) (n := n) hde
      rw [HNf.out] at hend
      injection hend with q1 q2
      subst q1 q2
      have hk2 : (s.size : Int) ≤ (ne : Int) := by omega
      clear hde
      go_wp2_with fail
      go_ret
      exact ⟨rfl, below_drewN HB.out m⟩
end Go.Proofs.YtnipifccalalhaaDoor
