import Derived.Test.YtnipifccalalhaaDoorLexNum
import Derived.Test.YtnipifccalalhaaDoorLexRef3
import Derived.Test.YtnipifccalalhaaDoorDecLay
/- The program's package lex: the token of a piece. -/
namespace Go.Proofs.YtnipifccalalhaaDoor
open Go.RowKit
set_option linter.unusedVariables false
set_option linter.unusedSimpArgs false
/-- the library's tables of UTF-8 lie where the program has them. -/
def Tabs (w : World) : Prop := Lib.Utf8Tabs (decLays_ren.g 3) (decLays_ren.g 4) w
theorem Tabs.lt {w : World} (h : Tabs w) : decLays_ren.g 3 < w.heap.size ∧ decLays_ren.g 4 < w.heap.size :=
  ⟨cell_lt (h.1 0 (by decide)), cell_lt (h.2 0 (by decide)).1⟩
theorem Tabs.behind {B : Nat} {w w' : World} (h : Tabs w) (hb : Below B w w') (hB : w.heap.size ≤ B) : Tabs w' := by
  obtain ⟨l1, l2⟩ := h.lt
  exact ⟨fun c hc => (hb.cell (p := ⟨_, c, none⟩) (by simp only; omega)).trans (h.1 c hc), fun i hi => ⟨(hb.cell (p := ⟨_, _, none⟩) (by simp only; omega)).trans (h.2 i hi).1, (hb.cell (p := ⟨_, _, none⟩) (by simp only; omega)).trans (h.2 i hi).2⟩⟩
theorem Tabs.below {w w' : World} (h : Tabs w) (hb : Below w.heap.size w w') : Tabs w' := h.behind hb (Nat.le_refl _)
theorem Tabs.belowB {B : Nat} {w w' : World} (h : Tabs w) (hb : Below B w w') (h3 : decLays_ren.g 3 < B) (h4 : decLays_ren.g 4 < B) : Tabs w' :=
  ⟨fun c hc => (hb.cell (p := ⟨_, c, none⟩) h3).trans (h.1 c hc), fun i hi => ⟨(hb.cell (p := ⟨_, _, none⟩) h4).trans (h.2 i hi).1, (hb.cell (p := ⟨_, _, none⟩) h4).trans (h.2 i hi).2⟩⟩
theorem dec_any (t : ByteArray) (w : World) (hT : Tabs w) (h1 : 0 < t.size) (hz : sizeB t 0 ≠ 0) : ∃ z : Nat, Calls Tryd.prog 32 #[.string t] w fun e w' => e = .returned (.tuple #[.int .i32 (runeB t 0 (sizeB t 0)), .int .i64 z]) ∧ Below w.heap.size w w' := by
  have h := Any.utf8_DecodeRuneInString decLays t w hT
  obtain ⟨hd, hp⟩ := (decode_size t 0 h1).2 hz
  have e : Lib.decodeGo t = ((runeB t 0 (sizeB t 0)).toNat, sizeB t 0) := by
    unfold Lib.decodeGo
    rw [if_neg (by omega), hd]
  rw [e, Int.toNat_of_nonneg hp] at h
  exact ⟨_, h⟩
/-- the token of a piece that begins at k; whether it may be. -/
def tokR (t : ByteArray) (k : Nat) : Tok × Bool :=
  if digitC (runeB t 0 (sizeB t 0)) then
    if 1099511627776 < (numB t 0).1 ∨ (bAt t 0 = 48 ∧ 1 < t.size) then (⟨0, 0, 0, k⟩, false) else (⟨2, 0, (numB t 0).1, k⟩, true)
  else (⟨1, runeB t 0 (sizeB t 0), 0, k⟩, true)
def tokV (x : Tok × Bool) : Value := .tuple #[.agg #[.int .i64 x.1.kind, .int .i32 x.1.sign, .int .i64 x.1.n, .int .i64 x.1.at_], .bool x.2]
theorem box4_new (w : World) (a b c d : Value) (t : TypeId) (n : Nat) (h : n = w.heap.size) : Box (w.alloc (.cells #[a, b, c, d] t)) n [a, b, c, d] := by subst h; exact Box.new w [a, b, c, d] t
theorem box4_of {w : World} {n : Nat} {a b c d : Value} (h : Box w n [a, b, c, d]) : (w.cell? ⟨n, 0, none⟩ = some a ∧ w.cell? ⟨n, 1, none⟩ = some b ∧ w.cell? ⟨n, 2, none⟩ = some c ∧ w.cell? ⟨n, 3, none⟩ = some d) ∧ (w.frozen? ⟨n, 0, none⟩ = false ∧ w.frozen? ⟨n, 1, none⟩ = false ∧ w.frozen? ⟨n, 2, none⟩ = false ∧ w.frozen? ⟨n, 3, none⟩ = false) ∧ n < w.heap.size :=
  ⟨⟨h.2.2 0 _ rfl, h.2.2 1 _ rfl, h.2.2 2 _ rfl, h.2.2 3 _ rfl⟩, ⟨h.2.1 _, h.2.1 _, h.2.1 _, h.2.1 _⟩, h.1⟩
theorem token_any (t : ByteArray) (k : Nat) (w : World) (hT : Tabs w) (h1 : 0 < t.size) (hz : sizeB t 0 ≠ 0) (ht : t.size ≤ 100000) (hk : k ≤ 100000)
    (hd : digitC (runeB t 0 (sizeB t 0)) = true → ∀ i, i < t.size → digB t i = true) : Calls Tryd.prog 26 #[.int .i64 k, .string t] w fun e w' => e = .returned (tokV (tokR t k)) ∧ Below w.heap.size w w' := by
  have HT := Lib.hid hT
  have HD := Lib.hid hd
  have HZ := Lib.hid hz
  clear hT hd hz
  go_enter Tryd.func26, Tryd.ntmps26
  go_wp2_with fail
  generalize hW : w.alloc (.cells #[.int .i64 0, .int .i32 0, .int .i64 0, .int .i64 0] 32) = W
  have hA : Box W w.heap.size [.int .i64 0, .int .i32 0, .int .i64 0, .int .i64 0] := by rw [← hW]; exact box4_new _ _ _ _ _ _ _ rfl
  have HB := Lib.hid (show Below w.heap.size w W by rw [← hW]; go_grown)
  have HT2 := Lib.hid (HT.out.below HB.out)
  clear hW HT
  obtain ⟨z, hcal⟩ := dec_any t W HT2.out h1 HZ.out
  refine hcal.mono ?_
  rintro e w2 ⟨rfl, hb2⟩
  replace hA := On.box hA _ hb2
  replace HB := Lib.hid (below_then HB.out hb2)
  clear hb2 hcal HT2
  obtain ⟨c, hc⟩ : ∃ c, runeB t 0 (sizeB t 0) = c := ⟨_, rfl⟩
  have HC := Lib.hid hc
  have HD2 := Lib.hid HD.out
  rw [hc] at HD2 ⊢
  clear HD hc
  rcases hdc : digitC c with _ | _
  · have HV := Lib.hid (show tokR t k = (⟨1, c, 0, k⟩, true) by unfold tokR; rw [HC.out, hdc]; rfl)
    obtain ⟨⟨r0, r1, r2, r3⟩, ⟨f0, f1, f2, f3⟩, r4⟩ := box4_of hA
    go_wp2_with (go_at_call 33; refine (digit_any _ _).mono ?_; rintro e w' ⟨rfl, rfl⟩)
    refine bodyPost_ret (v := .tuple #[.agg #[.int .i64 1, .int .i32 c, .int .i64 0, .int .i64 k], .bool true]) (by simp [results, Tryd.results26, go_sem, r0, r1, r2, r3]) rfl ⟨by rw [HV.out]; rfl, ?_⟩
    exact Below.setCell (Below.setCell (Below.setCell (Below.setCell HB.out (by go_size) _) (by go_size) _) (by go_size) _) (by go_size) _
  · have HDD := Lib.hid (HD2.out hdc)
    have hnum := number_any t w2 h1 HDD.out ht
    by_cases hbad : 1099511627776 < (numB t 0).1 ∨ (bAt t 0 = 48 ∧ 1 < t.size)
    · rw [numV, if_pos hbad] at hnum
      have HV := Lib.hid (show tokR t k = (⟨0, 0, 0, k⟩, false) by unfold tokR; rw [HC.out, hdc, if_pos hbad]; rfl)
      clear hbad
      go_wp2_with (first | (go_at_call 33; refine (digit_any _ _).mono ?_; rintro e w' ⟨rfl, rfl⟩) | (go_at_call 34; refine hnum.mono ?_; clear hnum; rintro e w3 ⟨rfl, hb3⟩; replace hA := On.box hA _ hb3; replace HB := Lib.hid (below_then HB.out hb3); obtain ⟨⟨r0, r1, r2, r3⟩, ⟨f0, f1, f2, f3⟩, r4⟩ := box4_of hA))
      refine bodyPost_ret (v := .tuple #[.agg #[.int .i64 0, .int .i32 0, .int .i64 0, .int .i64 k], .bool false]) (by simp [results, Tryd.results26, go_sem, r0, r1, r2, r3]) rfl ⟨by rw [HV.out]; rfl, ?_⟩
      exact Below.setCell (Below.setCell (Below.setCell (Below.setCell HB.out (by go_size) _) (by go_size) _) (by go_size) _) (by go_size) _
    · rw [numV, if_neg hbad] at hnum
      have HV := Lib.hid (show tokR t k = (⟨2, 0, (numB t 0).1, k⟩, true) by unfold tokR; rw [HC.out, hdc, if_neg hbad]; rfl)
      obtain ⟨nv, hnv⟩ : ∃ n, (numB t 0).1 = n := ⟨_, rfl⟩
      rw [hnv] at hnum HV
      clear hbad hnv
      go_wp2_with (first | (go_at_call 33; refine (digit_any _ _).mono ?_; rintro e w' ⟨rfl, rfl⟩) | (go_at_call 34; refine hnum.mono ?_; clear hnum; rintro e w3 ⟨rfl, hb3⟩; replace hA := On.box hA _ hb3; replace HB := Lib.hid (below_then HB.out hb3); obtain ⟨⟨r0, r1, r2, r3⟩, ⟨f0, f1, f2, f3⟩, r4⟩ := box4_of hA))
      refine bodyPost_ret (v := .tuple #[.agg #[.int .i64 2, .int .i32 0, .int .i64 nv, .int .i64 k], .bool true]) (by simp [results, Tryd.results26, go_sem, r0, r1, r2, r3]) rfl ⟨by rw [HV.out]; rfl, ?_⟩
      exact Below.setCell (Below.setCell (Below.setCell (Below.setCell HB.out (by go_size) _) (by go_size) _) (by go_size) _) (by go_size) _
end Go.Proofs.YtnipifccalalhaaDoor
