import Derived.Test.YtnipifccalalhaaDoorLexRef2
import Derived.OwnWalk
/- The document's answers for package lex: whether a text is well-formed; two rows of tokens. -/
namespace Go.Proofs.YtnipifccalalhaaDoor
open Go.RowKit
set_option linter.unusedVariables false
set_option linter.unusedSimpArgs false
def textV : Option Nat → Value
  | none => .tuple #[.int .i64 0, .bool true]
  | some p => .tuple #[.int .i64 (p : Int), .bool false]
theorem rtext_any (s : ByteArray) (w : World) (hs : s.size ≤ 700000) : Calls Tryd.prog 10 #[.string s] w fun e w' => e = .returned (textV (textB s)) ∧ w = w' := by
  have HT := Lib.hid (show textF s (s.size + 1) 0 = textB s from rfl)
  go_enter Tryd.func10, Tryd.ntmps10
  go_wp2_with fail
  go_loopw [4] (fun i wr => ∃ k f : Nat, k ≤ s.size ∧ s.size ≤ k + f ∧ i = .int .i64 k ∧ textF s f k = textB s ∧ wr = w) (fun i _ => s.size - (intOf i).toNat)
  case atStart => exact ⟨0, s.size + 1, by omega, by omega, rfl, HT.out, rfl⟩
  case round =>
    obtain ⟨k, f, hk, hf, rfl, ht, rfl⟩ := hrel
    have HT2 := Lib.hid ht
    clear ht
    by_cases hlt : k < s.size
    · obtain ⟨z, hz⟩ : ∃ z, sizeB s k = z := ⟨_, rfl⟩
      have hz4 := sizeB_le s k
      rw [hz] at hz4
      have HZ := Lib.hid hz
      by_cases hz0 : z = 0
      · subst hz0
        have HR := Lib.hid ((HT2.out.symm.trans (textF_bad hlt hf hz)))
        clear hz
        go_wp2_with (go_at_call 19; refine (size_to HZ.out _ (by omega) (by omega)).mono ?_; rintro e w' ⟨rfl, rfl⟩)
        go_ret2
        exact ⟨by rw [HR.out]; rfl, rfl⟩
      · have hin := sizeB_in (s := s) (k := k) (by omega)
        obtain ⟨f', hf', hst⟩ := textF_step hlt hf (by omega)
        rw [hz] at hin hf' hst
        have HSt := Lib.hid (hst.symm.trans HT2.out)
        have hzz : ((z : Int) == 0) = false := by simp; omega
        clear hz hst
        go_wp2_with (go_at_call 19; refine (size_to HZ.out _ (by omega) (by omega)).mono ?_; rintro e w' ⟨rfl, rfl⟩)
        go_roundw
        case rel => exact ⟨k + z, f', by omega, by omega, by go_num, HSt.out, by first | rfl | trivial⟩
        case measure => simp [intOf]; omega
    · have HR := Lib.hid (HT2.out.symm.trans (textF_end hlt))
      have hk2 : (s.size : Int) ≤ (k : Int) := by omega
      go_wp2_with fail
      go_ret2
      exact ⟨by rw [HR.out]; rfl, rfl⟩
def encT (t : Tok) : List Value := [.int .i64 t.kind, .int .i32 t.sign, .int .i64 t.n, .int .i64 t.at_]
theorem encT_len (t : Tok) : (encT t).length = 4 := rfl
theorem toks_at {w : World} {A : Option Addr} {n : Nat} {zs : List Tok} (h : Rows 4 encT w A n zs) {i : Nat} (hi : i < n) :
    ∃ b off x y u v, A = some ⟨b, off, none⟩ ∧ b < w.heap.size ∧ zs[i]? = some ⟨x, y, u, v⟩ ∧ w.cell? ⟨b, off + i * 4, none⟩ = some (.int .i64 x) ∧ w.cell? ⟨b, off + i * 4 + 1, none⟩ = some (.int .i32 y) ∧ w.cell? ⟨b, off + i * 4 + 2, none⟩ = some (.int .i64 u) ∧ w.cell? ⟨b, off + i * 4 + 3, none⟩ = some (.int .i64 v) := by
  obtain ⟨b, off, ⟨x, y, u, v⟩, h1, h2, h3, h4⟩ := h.at_ hi
  exact ⟨b, off, x, y, u, v, h1, h2, h3, h4 0 _ rfl, h4 1 _ rfl, h4 2 _ rfl, h4 3 _ rfl⟩
theorem tsame_any (A : Option Addr) (n c : Nat) (B : Option Addr) (m d : Nat) (zs : List Tok) (w : World) (h1 : Rows 4 encT w A n zs) (h2 : Rows 4 encT w B m zs) :
    Calls Tryd.prog 11 #[.slice A n c, .slice B m d] w fun e w' => e = .returned (.bool true) ∧ Below w.heap.size w w' := by
  have hn := h1.2.1
  obtain rfl : n = m := h1.1.symm.trans h2.1
  have H1 := Lib.hid h1
  have H2 := Lib.hid h2
  clear h1 h2
  go_enter Tryd.func11, Tryd.ntmps11
  go_wp2_with fail
  go_loopw [5] (fun i wr => ∃ k m : Nat, k ≤ n ∧ i = .int .i64 k ∧ wr = w.drewN m) (fun i _ => n - (intOf i).toNat)
  case atStart => exact ⟨0, 0, by omega, rfl, rfl⟩
  case round =>
    obtain ⟨k, m, hk, rfl, rfl⟩ := hrel
    by_cases hlt : k < n
    · obtain ⟨b, off, x, y, u, v, rfl, hbl, hx, c0, c1, c2, c3⟩ := toks_at H1.out hlt
      obtain ⟨b', off', x', y', u', v', rfl, hbl', hx', c0', c1', c2', c3'⟩ := toks_at H2.out hlt
      rw [hx] at hx'
      injection hx' with hx'
      injection hx' with e1 e2 e3 e4
      subst e1 e2 e3 e4
      have HX := Lib.hid hx
      clear hx
      go_wp2_with fail
      go_quiet (fail)
      go_wp2_with fail
      go_roundw
      case rel => exact ⟨k + 1, _, by omega, by go_num, rfl⟩
      case measure => simp [intOf]; omega
    · go_wp2_with fail
      go_ret
      exact ⟨rfl, below_drewN (Below.refl _ _) m⟩
end Go.Proofs.YtnipifccalalhaaDoor
