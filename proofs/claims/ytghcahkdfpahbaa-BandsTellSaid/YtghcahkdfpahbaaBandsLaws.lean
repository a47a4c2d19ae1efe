import Derived.Test.YtghcahkdfpahbaaBandsRef4
import Derived.Deep.RegionHeld3

/- Stage 10's law: what package bands is asked to say; the chapter's examples hold, in any world, if it does. (Written by program: tools/drafts/genawake10.py.) -/
namespace Go.Proofs.Ytghcahkdfpahbaa
open Go.RowKit
set_option linter.unusedVariables false
set_option linter.unusedSimpArgs false
/-- what package bands is asked to say. -/
structure BandsSays : Prop where
  of : ∀ {l : List Fl} {y high a b p q : Int} {A : Option Addr} {n c : Nat} {w : World}, bandL l y high (a, b) = (p, q) → (∀ f ∈ l, f.near) → NearI y → NearI high → NearI a → NearI b → n ≤ 1000 → Rows 7 encFl w A n l →
    Calls Try.prog 12 #[.slice A n c, .int .i64 y, .int .i64 high, .agg #[.int .i64 a, .int .i64 b]] w fun e w' => e = .returned (.agg #[.int .i64 p, .int .i64 q]) ∧ Below w.heap.size w w'
  next : ∀ {l : List Fl} {y high a b p : Int} {ok : Bool} {A : Option Addr} {n c : Nat} {w : World}, nextL l y high a b = (p, ok) → (∀ f ∈ l, f.near) → NearI y → NearI high → NearI a → NearI b → n ≤ 1000 → Rows 7 encFl w A n l →
    Calls Try.prog 6 #[.slice A n c, .int .i64 y, .int .i64 high, .agg #[.int .i64 a, .int .i64 b]] w fun e w' => e = .returned (.tuple #[.int .i64 p, .bool ok]) ∧ Below w.heap.size w w'
  lowest : ∀ {l : List Fl} {sides p : Int} {ok : Bool} {A : Option Addr} {n c : Nat} {w : World}, lowestL l sides = (p, ok) → (∀ f ∈ l, f.near) → (-9223372036854775808 ≤ sides ∧ sides ≤ 9223372036854775807) → n ≤ 1000 → Rows 7 encFl w A n l →
    Calls Try.prog 8 #[.slice A n c, .int .i64 sides] w fun e w' => e = .returned (.tuple #[.int .i64 p, .bool ok]) ∧ Below w.heap.size w w'
  top : ∀ {l : List Fl} {p : Int} {ok : Bool} {A : Option Addr} {n c : Nat} {w : World}, topL l = (p, ok) → (∀ f ∈ l, f.near) → n ≤ 1000 → Rows 7 encFl w A n l →
    Calls Try.prog 10 #[.slice A n c] w fun e w' => e = .returned (.tuple #[.int .i64 p, .bool ok]) ∧ Below w.heap.size w w'
def two10 : List Fl := [⟨0, 1, 0, 0, 0, 30, 20⟩, ⟨0, 2, 0, 80, 10, 20, 40⟩]
theorem near_lit {a : Int} (h : nearIB a = true) : NearI a := nearIB_iff.1 h
theorem near_two : ∀ f ∈ two10, f.near := fun f hf => by
  have : two10.all Fl.nearB = true := by decide +kernel
  exact Fl.nearB_iff.1 (List.all_eq_true.1 this f hf)
theorem fls_lit (w : World) (zs : List Fl) (m : Nat) (t : TypeId) (n : Nat) (hn : n = w.heap.size) (cs : Array Value) (hcs : cs = (zs.flatMap encFl).toArray) (hm : zs.length = m) (hm2 : m ≤ 1000) : Rows 7 encFl (w.alloc (.cells cs t)) (some ⟨n, 0, none⟩) m zs := by
  subst hn hcs hm
  refine ⟨rfl, by omega, fun _ => ⟨_, _, rfl, by simp, fun i x hx j v hv => ?_⟩⟩
  rw [Nat.zero_add]
  exact (Box.new w (zs.flatMap encFl) t).2.2 _ _ (flat_get encFl_len zs i x j v hx hv)
theorem two_any (w : World) : Calls Try.prog 16 #[] w fun e w' => ∃ A, e = .returned (.slice A 2 2) ∧ Rows 7 encFl w' A 2 two10 ∧ Below w.heap.size w w' := by
  go_enter Try.func16, Try.ntmps16
  go_wp2_with fail
  go_ret
  exact ⟨_, rfl, fls_lit w two10 _ 37 _ rfl _ rfl rfl (by decide), (Below.refl _ _).alloc (Nat.le_refl _) _⟩
theorem is_same (a : Int) (x : Bool) (w : World) : Calls Try.prog 14 #[.int .i64 a, .bool x, .int .i64 a, .bool x] w fun e w' => e = .returned (.bool true) ∧ Below w.heap.size w w' := by
  have haa : (a == a) = true := by simp
  cases x
  all_goals
    go_enter Try.func14, Try.ntmps14
    go_wp2_with fail
    go_ret
    exact ⟨rfl, Below.refl _ _⟩
theorem d10o0 : bandL two10 0 10 (0, 100) = (30, 100) := by decide +kernel
theorem d10o1 : bandL two10 0 11 (0, 100) = (30, 80) := by decide +kernel
theorem d10o2 : bandL two10 20 5 (0, 100) = (0, 80) := by decide +kernel
theorem d10o3 : bandL two10 50 1 (0, 100) = (0, 100) := by decide +kernel
theorem d10n0 : nextL two10 0 11 0 100 = (20, true) := by decide +kernel
theorem d10n1 : nextL two10 20 5 0 100 = (50, true) := by decide +kernel
theorem d10n2 : nextL two10 50 1 0 100 = (0, false) := by decide +kernel
theorem d10l0 : lowestL two10 1 = (20, true) := by decide +kernel
theorem d10l1 : lowestL two10 3 = (50, true) := by decide +kernel
theorem d10l2 : lowestL two10 0 = (0, false) := by decide +kernel
theorem d10t0 : topL two10 = (10, true) := by decide +kernel
set_option maxHeartbeats 16000000 in
set_option maxRecDepth 100000 in
theorem bawake_any (H : BandsSays) (w : World) : Calls Try.prog 5 #[] w fun e w' => e = .returned (.bool true) ∧ Below w.heap.size w w' := by
  have HH := Lib.hid H
  clear H
  go_enter Try.func5, Try.ntmps5
  go_wp2_with fail
  generalize hW : w.alloc (.cells #[.int .i64 0, .int .i64 100] 24) = W
  have hX : Box W w.heap.size [.int .i64 0, .int .i64 100] := by rw [← hW]; exact Box.new2 _ _ _ _
  have HB := Lib.hid (show Below w.heap.size w W by rw [← hW]; go_grown)
  clear hW
  obtain ⟨k0, k1⟩ := On.of2 hX
  have he := sp_same
  go_region_held3 (fun W' => On W W') (first | exact (On.refl _).drew | exact On.drew (by assumption) | exact On.step (by assumption) hb) (first
    | (go_at_call 16; ((with_reducible refine (two_any _).mono ?_); rintro e w2 ⟨A2, rfl, hRa, hb⟩))
    | (go_at_call 6; ((with_reducible refine (HH.out.next d10n0 near_two (near_lit (by decide)) (near_lit (by decide)) (near_lit (by decide)) (near_lit (by decide)) (by decide) (by assumption)).mono ?_); rintro e w3 ⟨rfl, hb⟩)))
  rename_i hOn
  go_wp2_with fail
  go_region_held3 (fun W' => On W W') (first | exact (On.refl _).drew | exact On.drew (by assumption) | exact On.step (by assumption) hb) (first
    | (go_at_call 16; ((with_reducible refine (two_any _).mono ?_); rintro e w2 ⟨A2, rfl, hRa, hb⟩))
    | (go_at_call 6; ((with_reducible refine (HH.out.next d10n1 near_two (near_lit (by decide)) (near_lit (by decide)) (near_lit (by decide)) (near_lit (by decide)) (by decide) (by assumption)).mono ?_); rintro e w3 ⟨rfl, hb⟩)))
  rename_i hOn
  go_wp2_with fail
  go_region_held3 (fun W' => On W W') (first | exact (On.refl _).drew | exact On.drew (by assumption) | exact On.step (by assumption) hb) (first
    | (go_at_call 16; ((with_reducible refine (two_any _).mono ?_); rintro e w2 ⟨A2, rfl, hRa, hb⟩))
    | (go_at_call 6; ((with_reducible refine (HH.out.next d10n2 near_two (near_lit (by decide)) (near_lit (by decide)) (near_lit (by decide)) (near_lit (by decide)) (by decide) (by assumption)).mono ?_); rintro e w3 ⟨rfl, hb⟩)))
  rename_i hOn
  go_wp2_with fail
  refine (two_any _).mono ?_
  rintro e wa0 ⟨Aa, rfl, hRa, hb⟩
  have HRa := Lib.hid hRa
  replace hOn := On.step hOn hb
  clear hRa hb
  go_wp2_with fail
  refine (HH.out.lowest d10l0 near_two ⟨by decide, by decide⟩ (by decide) HRa.out).mono ?_
  rintro e wb0 ⟨rfl, hb⟩
  replace hOn := On.step hOn hb
  clear hb HRa
  go_wp2_with fail
  refine (two_any _).mono ?_
  rintro e wa1 ⟨Aa, rfl, hRa, hb⟩
  have HRa := Lib.hid hRa
  replace hOn := On.step hOn hb
  clear hRa hb
  go_wp2_with fail
  refine (HH.out.lowest d10l1 near_two ⟨by decide, by decide⟩ (by decide) HRa.out).mono ?_
  rintro e wb1 ⟨rfl, hb⟩
  replace hOn := On.step hOn hb
  clear hb HRa
  go_wp2_with fail
  refine (two_any _).mono ?_
  rintro e wa2 ⟨Aa, rfl, hRa, hb⟩
  have HRa := Lib.hid hRa
  replace hOn := On.step hOn hb
  clear hRa hb
  go_wp2_with fail
  refine (HH.out.lowest d10l2 near_two ⟨by decide, by decide⟩ (by decide) HRa.out).mono ?_
  rintro e wb2 ⟨rfl, hb⟩
  replace hOn := On.step hOn hb
  clear hb HRa
  go_wp2_with fail
  refine (two_any _).mono ?_
  rintro e wa3 ⟨Aa, rfl, hRa, hb⟩
  have HRa := Lib.hid hRa
  replace hOn := On.step hOn hb
  clear hRa hb
  go_wp2_with fail
  refine (HH.out.top d10t0 near_two (by decide) HRa.out).mono ?_
  rintro e wb3 ⟨rfl, hb⟩
  replace hOn := On.step hOn hb
  clear hb HRa
  go_wp2_with fail
  go_region_held3 (fun W' => On W W') (first | exact (On.refl _).drew | exact On.drew (by assumption) | exact On.step (by assumption) hb) (first
    | (go_at_call 16; ((with_reducible refine (two_any _).mono ?_); rintro e w2 ⟨A2, rfl, hRa, hb⟩))
    | (go_at_call 12; ((with_reducible refine (HH.out.of d10o0 near_two (near_lit (by decide)) (near_lit (by decide)) (near_lit (by decide)) (near_lit (by decide)) (by decide) (by assumption)).mono ?_); rintro e w3 ⟨rfl, hb⟩))
    | (go_at_call 12; ((with_reducible refine (HH.out.of d10o1 near_two (near_lit (by decide)) (near_lit (by decide)) (near_lit (by decide)) (near_lit (by decide)) (by decide) (by assumption)).mono ?_); rintro e w3 ⟨rfl, hb⟩))
    | (go_at_call 12; ((with_reducible refine (HH.out.of d10o2 near_two (near_lit (by decide)) (near_lit (by decide)) (near_lit (by decide)) (near_lit (by decide)) (by decide) (by assumption)).mono ?_); rintro e w3 ⟨rfl, hb⟩))
    | (go_at_call 12; ((with_reducible refine (HH.out.of d10o3 near_two (near_lit (by decide)) (near_lit (by decide)) (near_lit (by decide)) (near_lit (by decide)) (by decide) (by assumption)).mono ?_); rintro e w3 ⟨rfl, hb⟩))
    | (go_at_call 14; ((with_reducible refine (is_same _ _ _).mono ?_); rintro e w4 ⟨rfl, hb⟩)))
  rename_i hOn
  go_wp2_with fail
  go_ret
  exact ⟨rfl, below_then HB.out hOn⟩
end Go.Proofs.Ytghcahkdfpahbaa
