import Derived.Test.YtikpbgkjghcidaaMarginRun
import Derived.Deep.RegionHeld3
/- Stage 13's laws: what package margin is asked to say; the chapter's examples hold, in any world, if it does. (Written by program: tools/drafts/genawake13.py.) -/
namespace Go.Proofs.Ytikpbgkjghcidaa
open Go.RowKit
set_option linter.unusedVariables false
set_option linter.unusedSimpArgs false
/-- a pen and a row of places in new memory. -/
def PenNew (w : World) (y m : Int) (zs : List Int) (e : Ending) (w' : World) : Prop := ∃ A n c, e = .returned (.tuple #[.agg #[.int .i64 y, .int .i64 m], .slice A n c]) ∧ n = zs.length ∧ Ints w' A n zs ∧ Below w.heap.size w w' ∧ ∀ q, A = some q → w.heap.size ≤ q.block
/-- what package margin is asked to say. -/
structure MarginSays : Prop where
  at_ : ∀ {y m : Int} {w : World}, NearI y → NearI m → Calls Try.prog 11 #[.agg #[.int .i64 y, .int .i64 m]] w fun e w' => e = .returned (.int .i64 (y + m)) ∧ Below w.heap.size w w'
  enter : ∀ {y m a d y' m' : Int} {w : World}, enterP (y, m) a d = (y', m') → NearI y → NearI m → NearI a → NearI d → Calls Try.prog 12 #[.agg #[.int .i64 y, .int .i64 m], .int .i64 a, .int .i64 d] w fun e w' => e = .returned (.agg #[.int .i64 y', .int .i64 m']) ∧ Below w.heap.size w w'
  leave : ∀ {y m a d y' m' : Int} {w : World}, leaveP (y, m) a d = (y', m') → NearI y → NearI m → NearI a → NearI d → Calls Try.prog 14 #[.agg #[.int .i64 y, .int .i64 m], .int .i64 a, .int .i64 d] w fun e w' => e = .returned (.agg #[.int .i64 y', .int .i64 m']) ∧ Below w.heap.size w w'
  clear : ∀ {y m a y' m' : Int} {w : World}, clearP (y, m) a = (y', m') → NearI y → NearI m → NearI a → Calls Try.prog 16 #[.agg #[.int .i64 y, .int .i64 m], .int .i64 a] w fun e w' => e = .returned (.agg #[.int .i64 y', .int .i64 m']) ∧ Below w.heap.size w w'
  put : ∀ {y m a d : Int} {w : World}, NearI a → NearI d → Calls Try.prog 18 #[.agg #[.int .i64 y, .int .i64 m], .int .i64 a, .int .i64 d] w fun e w' => e = .returned (.agg #[.int .i64 (a + d), .int .i64 0]) ∧ Below w.heap.size w w'
  run : ∀ {l : List Stp} {y m y' m' : Int} {zs : List Int} {A : Option Addr} {n c : Nat} {w : World}, penL (y, m) l = (y', m') → placesL (y, m) l = zs → NearI y → NearI m → (∀ s ∈ l, s.near) → n ≤ 1000 → Rows 3 encSt w A n l → Calls Try.prog 8 #[.agg #[.int .i64 y, .int .i64 m], .slice A n c] w (PenNew w y' m' zs)
theorem pen_to (a b : Int) (w : World) : Calls Try.prog 19 #[.int .i64 a, .int .i64 b] w fun e w' => e = .returned (.agg #[.int .i64 a, .int .i64 b]) ∧ Below w.heap.size w w' := by
  go_enter Try.func19, Try.ntmps19
  go_wp2_with fail
  exact bodyPost_ret (v := .agg #[.int .i64 a, .int .i64 b]) (by simp [results, Try.results19, go_sem]) rfl ⟨rfl, by go_grown⟩
theorem part13 (xs : Array Value) (k : Nat) (v : Value) (h : xs[k]? = some v) (w : World) : (part 3 xs k).run Try.prog w = .ok v w := run_part_plain w (by kernel_rfl) h
theorem itef13_ok {p : Prop} [Decidable p] {c : Bool} {w : World} : (if p then Result.ok c w else Result.ok false w) = Result.ok (decide p && c) w := by split <;> simp_all
theorem itef13_and {b : Bool} {c : Bool} {w : World} : (if (!b) = true then Result.ok false w else Result.ok c w) = Result.ok (b && c) w := by cases b <;> rfl
theorem pn_equal (a0 a1 b0 b1 : Int) (w : World) : (Op.equalIn 10000 23 (.agg #[.int .i64 a0, .int .i64 a1]) (.agg #[.int .i64 b0, .int .i64 b1])).run Try.prog w = .ok (a0 == b0 && a1 == b1) w := by
  rw [show (10000 : Nat) = 9999 + 1 from rfl, run_equalIn_struct w 9999 _ _ _ (by kernel_rfl) (by kernel_rfl)]
  have hi : ∀ (a b : Int) (w : World), (Op.equalIn 9999 3 (.int .i64 a) (.int .i64 b)).run Try.prog w = .ok (a == b) w := fun a b w => run_equalIn_int w 9998 3 .i64 .i64 a b Try.underlying3
  simp [Program.fieldsOf, Try.underlying23, Op.eqFields, part13, hi, itef13_and]
  simp only [itef13_ok]
  congr 1
  rw [Bool.eq_iff_iff]
  simp [and_assoc]
theorem pn_same (a0 a1 : Int) (w : World) : (Op.equalIn 10000 23 (.agg #[.int .i64 a0, .int .i64 a1]) (.agg #[.int .i64 a0, .int .i64 a1])).run Try.prog w = .ok true w := by rw [pn_equal]; simp
theorem near_lit13 {a : Int} (h : nearIB a = true) : NearI a := nearIB_iff.1 h
theorem sts_lit (w : World) (zs : List Stp) (m : Nat) (t : TypeId) (n : Nat) (hn : n = w.heap.size) (cs : Array Value) (hcs : cs = (zs.flatMap encSt).toArray) (hm : zs.length = m) (hm2 : m ≤ 1000) : Rows 3 encSt (w.alloc (.cells cs t)) (some ⟨n, 0, none⟩) m zs := by
  subst hn hcs hm
  refine ⟨rfl, by omega, fun _ => ⟨_, _, rfl, by simp, fun i x hx j v hv => ?_⟩⟩
  rw [Nat.zero_add]
  exact (Box.new w (zs.flatMap encSt) t).2.2 _ _ (flat_get encSt_len zs i x j v hx hv)
theorem ints_on {W w : World} {A : Option Addr} {n : Nat} {zs : List Int} (h : Ints W A n zs) (ho : On W w) : Ints w A n zs := h.below (B := W.heap.size) ho rfl
def five13 : List Stp := [⟨1, 5, 0⟩, ⟨4, 10, 0⟩, ⟨2, 7, 0⟩, ⟨1, 3, 0⟩, ⟨4, 1, 0⟩]
theorem near_five13 : ∀ s ∈ five13, s.near := fun s hs => by
  have : five13.all Stp.nearB = true := by decide +kernel
  exact Stp.nearB_iff.1 (List.all_eq_true.1 this s hs)
theorem d13r : penL (0, 0) five13 = (23, 0) := by decide +kernel
theorem d13p : placesL (0, 0) five13 = [5, 22] := by decide +kernel
theorem d13e0 : enterP (0, 4) 3 2 = (6, 0) := by decide +kernel
theorem d13e1 : enterP (0, 4) 9 0 = (0, 9) := by decide +kernel
theorem d13l : leaveP (10, 4) 3 2 = (16, 3) := by decide +kernel
theorem d13c0 : clearP (10, 4) 14 = (10, 4) := by decide +kernel
theorem d13c1 : clearP (10, 4) 15 = (15, 0) := by decide +kernel
set_option maxHeartbeats 16000000 in
set_option maxRecDepth 100000 in
theorem mawake_any (H : MarginSays) (w : World) : Calls Try.prog 7 #[] w fun e w' => e = .returned (.bool true) ∧ Below w.heap.size w w' := by
  have HH := Lib.hid H
  clear H
  go_enter Try.func7, Try.ntmps7
  go_wp2_with fail
  refine (pen_to _ _ _).mono ?_
  rintro e w1 ⟨rfl, hb⟩
  have HB := Lib.hid hb
  clear hb
  go_wp2_with fail
  refine (HH.out.run d13r d13p (near_lit13 (by decide)) (near_lit13 (by decide)) near_five13 (by decide) (sts_lit w1 five13 5 _ _ rfl _ rfl rfl (by decide))).mono ?_
  rintro e w2 ⟨A, n, c, rfl, hn, hI, hb, _⟩
  obtain rfl : n = 2 := hn
  have HB2 := Lib.hid (HB.out.trans ((((Below.refl _ _).alloc (Nat.le_refl _) _).trans (hb.mono (by simp))).mono HB.out.size))
  have HI0 := Lib.hid hI
  clear hI hb HB
  go_wp2_with fail
  obtain ⟨W, hW⟩ : ∃ W, w2.alloc (.cells #[.int .i64 23, .int .i64 0] 23) = W := ⟨_, rfl⟩
  have hX : Box W w2.heap.size [.int .i64 23, .int .i64 0] := by rw [← hW]; exact Box.new2 _ _ _ _
  have HI := Lib.hid (show Ints W A 2 [5, 22] by rw [← hW]; exact HI0.out.below ((Below.refl _ _).alloc (Nat.le_refl _) _) rfl)
  have HB := Lib.hid (show Below w.heap.size w W by rw [← hW]; exact HB2.out.alloc HB2.out.size _)
  rw [hW]
  clear hW
  obtain ⟨k0, k1⟩ := On.of2 hX
  have he := pn_same
  clear HI0 HB2 hX
  go_region_held3 (fun W' => On W W') (first | exact (On.refl _).drew | exact On.drew (by assumption) | exact On.step (by assumption) hb | exact On.alloc (by assumption) _) (first
    | (go_at_call 19; ((with_reducible refine (pen_to _ _ _).mono ?_); rintro e w3 ⟨rfl, hb⟩))
    | (go_at_call 10; ((with_reducible refine (rnumbers_to (v := true) (by decide) (ints_on HI.out (by assumption)) (Ints.new2 _ _ _ _)).mono ?_); rintro e w3 ⟨rfl, hb⟩))
    | (go_at_call 12; ((with_reducible refine (HH.out.enter d13e0 (near_lit13 (by decide)) (near_lit13 (by decide)) (near_lit13 (by decide)) (near_lit13 (by decide))).mono ?_); rintro e w3 ⟨rfl, hb⟩))
    | (go_at_call 12; ((with_reducible refine (HH.out.enter d13e1 (near_lit13 (by decide)) (near_lit13 (by decide)) (near_lit13 (by decide)) (near_lit13 (by decide))).mono ?_); rintro e w3 ⟨rfl, hb⟩))
    | (go_at_call 14; ((with_reducible refine (HH.out.leave d13l (near_lit13 (by decide)) (near_lit13 (by decide)) (near_lit13 (by decide)) (near_lit13 (by decide))).mono ?_); rintro e w3 ⟨rfl, hb⟩))
    | (go_at_call 16; ((with_reducible refine (HH.out.clear d13c0 (near_lit13 (by decide)) (near_lit13 (by decide)) (near_lit13 (by decide))).mono ?_); rintro e w3 ⟨rfl, hb⟩))
    | (go_at_call 16; ((with_reducible refine (HH.out.clear d13c1 (near_lit13 (by decide)) (near_lit13 (by decide)) (near_lit13 (by decide))).mono ?_); rintro e w3 ⟨rfl, hb⟩)))
  rename_i hOn
  go_wp2_with fail
  go_ret
  exact ⟨rfl, below_then HB.out hOn⟩
end Go.Proofs.Ytikpbgkjghcidaa
