import Derived.Test.YtipmdhfinlkceaaJW09
import Derived.Test.YtipmdhfinlkceaaJW03
import Derived.Deep.RegionHeld3
/- LinesRef2. -/
set_option linter.unusedVariables false
set_option linter.unusedSimpArgs false
namespace Go.Proofs.Ytipmdhfinlkceaa
open Go.RowKit
theorem Box.new5l (w : World) (a b c d e : Value) (t : TypeId) (n : Nat) (h : n = w.heap.size) : Box (w.alloc (.cells #[a, b, c, d, e] t)) n [a, b, c, d, e] := by subst h; exact Box.new w [a, b, c, d, e] t
theorem Box.of5l {w : World} {n : Nat} {a b c d e : Value} (h : Box w n [a, b, c, d, e]) : (w.cell? ⟨n, 0, none⟩ = some a ∧ w.cell? ⟨n, 1, none⟩ = some b ∧ w.cell? ⟨n, 2, none⟩ = some c ∧ w.cell? ⟨n, 3, none⟩ = some d ∧ w.cell? ⟨n, 4, none⟩ = some e) ∧ (∀ o, w.frozen? ⟨n, o, none⟩ = false) ∧ n < w.heap.size :=
  ⟨⟨h.2.2 0 _ rfl, h.2.2 1 _ rfl, h.2.2 2 _ rfl, h.2.2 3 _ rfl, h.2.2 4 _ rfl⟩, h.2.1, h.1⟩
theorem on_then {w W W' : World} (h : Below w.heap.size w W) (ho : On W W') : On w W' := below_then h ho
theorem ints_on12 {w : World} {A : Option Addr} {n : Nat} {zs : List Int} (h : Ints w A n zs) {i : Nat} (hi : i < n) : ∃ b o, A = some ⟨b, o, none⟩ ∧ ∀ w', On w w' → w'.cell? ⟨b, o + i, none⟩ = some (.int .i64 (wordI zs i)) := by
  obtain ⟨b, o, e, hc⟩ := h.at_ hi
  exact ⟨b, o, e, On.cell hc⟩
set_option maxHeartbeats 4000000 in
set_option maxRecDepth 100000 in
theorem rline_to {l : List Fl} {ws : List Int} {sp h a b y : Int} {i : Nat} {v : Ln} (hv : lineL l ws sp h a b i y = v) (hi : i < ws.length) (hn : ∀ f ∈ l, f.near) (hy : NearY y) (hh : NearI h) (ha : NearI a) (hb : NearI b) (hws : Near9 ws sp) {A A2 : Option Addr} {n c m c2 : Nat} (hm : m ≤ 1000) {w : World} (hA : Rows 7 encFl w A n l) (hW : Ints w A2 m ws) :
    Calls Try.prog 49 #[.slice A n c, .slice A2 m c2, .int .i64 sp, .int .i64 h, .int .i64 (i : Int), .int .i64 y, .agg #[.int .i64 a, .int .i64 b]] w fun e w' => e = .returned (.agg #[.int .i64 v.from_, .int .i64 v.to_, .int .i64 v.x, .int .i64 v.y, .int .i64 v.w]) ∧ Below w.heap.size w w' := by
  have hlm : ws.length = m := hW.1
  obtain ⟨t, ht⟩ : ∃ t, seekE l h (wordI ws i) a b y = t := ⟨_, rfl⟩
  obtain ⟨⟨p, q⟩, hp⟩ : ∃ r, bandL l t h (a, b) = r := ⟨_, rfl⟩
  obtain ⟨g, hg⟩ : ∃ g, lenW p q = g := ⟨_, rfl⟩
  obtain ⟨⟨r0, r1, r2⟩, hr⟩ : ∃ r, takeI ws sp g (i : Int) = r := ⟨_, rfl⟩
  have hbd := bandL_bd hn t h (a, b) ⟨ha.y, hb.y⟩
  rw [hp] at hbd
  have HBD := Lib.hid hbd
  have hev : v = ⟨(i : Int), r1, p, t, r2⟩ := by
    rw [takeI_nat hi] at hr
    unfold takeN at hr
    injection hr with e0 e12
    injection e12 with e1 e2
    rw [← hv, ← e1, ← e2]
    unfold lineL
    rw [ht, hp]
    simp only
    rw [hg]
  subst hev
  have HRM := Lib.hid (show ∀ W', On w W' → ∀ A1 : Unit, Calls Try.prog 41 #[.slice A n c, .int .i64 (wordI ws i), .int .i64 h, .int .i64 y, .agg #[.int .i64 a, .int .i64 b]] W' fun e w' => e = .returned (.tuple #[.agg #[.int .i64 p, .int .i64 q], .int .i64 t]) ∧ Below W'.heap.size W' w' from fun W' ho _ => rroom_to ht hp hn hy hh ha hb (hA.on ho))
  have HTK := Lib.hid (show ∀ W', On w W' → Calls Try.prog 60 #[.slice A2 m c2, .int .i64 sp, .int .i64 g, .int .i64 (i : Int)] W' fun e w' => e = .returned (.agg #[.int .i64 r0, .int .i64 r1, .int .i64 r2]) ∧ Below W'.heap.size W' w' from fun W' ho => rtake_to hr hws (by constructor <;> omega) hm (hW.below (B := w.heap.size) ho rfl))
  have HG := Lib.hid hg
  have him : (i : Int) < (m : Int) := by omega
  have hi0 : (0 : Int) ≤ (i : Int) := by omega
  obtain ⟨b2, o2, rfl, hcell⟩ := ints_on12 hW (show i < m by omega)
  have HCL := Lib.hid hcell
  clear hv ht hp hg hr hn hy hh ha hb hws hA hW hbd hcell hlm hi
  go_enter Try.func49, Try.ntmps49
  go_wp2_with fail
  generalize hW : World.alloc (World.alloc w _) _ = W
  have HI := Lib.hid (show Box W w.heap.size [.int .i64 a, .int .i64 b] by rw [← hW]; exact (Box.new2 _ _ _ _).alloc _)
  have HR := Lib.hid (show Box W (w.heap.size + 1) [.int .i64 0, .int .i64 0, .int .i64 0, .int .i64 0, .int .i64 0] by rw [← hW]; exact Box.new5l _ _ _ _ _ _ _ _ (by simp))
  have HB := Lib.hid (show Below w.heap.size w W by rw [← hW]; go_grown)
  clear hW
  obtain ⟨j0, j1⟩ := On.of2 HI.out
  have jc : ∀ w', On W w' → w'.cell? ⟨b2, o2 + i, none⟩ = some (.int .i64 (wordI ws i)) := fun w' ho => HCL.out w' (below_then HB.out ho)
  go_region_held3 (fun W' => On W W') (first | exact (On.refl _).drew | exact On.step (by assumption) hb | exact On.alloc (On.refl _).drew _ | exact On.alloc (by assumption) _ | exact On.alloc hOn4 _ | exact On.set (On.set hOn4 (Nat.le_refl _) _) (Nat.le_refl _) _) (first
    | (go_at_call 41; ((with_reducible refine (HRM.out _ (on_then HB.out (by assumption)) ()).mono ?_); rintro e w4 ⟨rfl, hb⟩; have hOn4 : On W w4 := On.step (W := W) (by assumption) hb; obtain ⟨hc, hf⟩ := bcell hb; have hz4 := hb.size; (try simp at hz4))))
  all_goals
    first
      | (have hM := (((Box.new2 W.drew (.int .i64 0) (.int .i64 0) 84).below hb).set 0 (.int .i64 p) (by simp)).set 1 (.int .i64 q) (by simp)
         have hO5 := On.set (j := 1) (On.set (j := 0) hOn4 (Nat.le_refl _) (.int .i64 p)) (Nat.le_refl _) (.int .i64 q)
         change Box ((w4.setCell ⟨W.heap.size, 0, none⟩ (.int .i64 p)).setCell ⟨W.heap.size, 1, none⟩ (.int .i64 q)) W.heap.size [.int .i64 p, .int .i64 q] at hM
         generalize (w4.setCell ⟨W.heap.size, 0, none⟩ (.int .i64 p)).setCell ⟨W.heap.size, 1, none⟩ (.int .i64 q) = w5 at hM hO5 ⊢)
      | (have hM := Box.new2 w4 (.int .i64 p) (.int .i64 q) 84
         have hO5 := On.alloc hOn4 (.cells #[.int .i64 p, .int .i64 q] 84)
         generalize w4.alloc (.cells #[.int .i64 p, .int .i64 q] 84) = w5 at hM hO5 ⊢)
  all_goals
    have HO5 := Lib.hid (on_then HB.out hO5)
    have HM5 := Lib.hid hM
    have HR5 := Lib.hid (HR.out.below hO5)
    have HB5 := Lib.hid (below_then HB.out hO5)
    obtain ⟨m0, m1, _, _, m4⟩ := hM.of2
    clear hb hc hf hz4 hOn4 hO5 hM j0 j1 jc
    go_wp2_with fail
    refine (rlen_to HG.out HBD.out.1 HBD.out.2 _).mono ?_
    rintro e w6 ⟨rfl, hb6⟩
    have HO6 := Lib.hid (On.step HO5.out hb6)
    have HM6 := Lib.hid (HM5.out.below hb6)
    have HR6 := Lib.hid (HR5.out.below hb6)
    have HB6 := Lib.hid (below_then HB5.out hb6)
    clear hb6 m0 m1 m4
    go_wp2_with fail
    refine (HTK.out _ HO6.out).mono ?_
    rintro e w7 ⟨rfl, hb7⟩
    have HM7 := Lib.hid (HM6.out.below hb7)
    have HR7 := Lib.hid (HR6.out.below hb7)
    have HB7 := Lib.hid (below_then HB6.out hb7)
    clear hb7
    go_wp2_with ((with_reducible refine stop_dst 46 ?_ ?_); exact rfl)
    refine Stop.intro ?_
    generalize hZ : w7.alloc (.cells #[.int .i64 r0, .int .i64 r1, .int .i64 r2] 114) = Z
    have HRZ := Lib.hid (show Box Z (w.heap.size + 1) [.int .i64 0, .int .i64 0, .int .i64 0, .int .i64 0, .int .i64 0] by rw [← hZ]; exact HR7.out.alloc _)
    have HMZ := Lib.hid (show Box Z _ [.int .i64 p, .int .i64 q] by rw [← hZ]; exact HM7.out.alloc _)
    have HTZ := Lib.hid (show Box Z w7.heap.size [.int .i64 r0, .int .i64 r1, .int .i64 r2] by rw [← hZ]; exact box3 _ _ _ _ _)
    have HBZ := Lib.hid (show Below w.heap.size w Z by rw [← hZ]; exact HB7.out.alloc HB7.out.size _)
    clear hZ HRM HTK HCL HR7 HM7 HB7 HR6 HM6 HB6 HR5 HM5 HB5 HO5 HO6 HI HR HB
    obtain ⟨m0, m1, _, _, m4⟩ := HMZ.out.of2
    obtain ⟨⟨t0, t1, t2⟩, _⟩ := HTZ.out.of3w
    obtain ⟨_, qf, ql⟩ := HRZ.out.of5l
    have f0 := qf 0
    have f1 := qf 1
    have f2 := qf 2
    have f3 := qf 3
    have f4 := qf 4
    have q0 := HRZ.out.of5l.1.1
    have q1 := HRZ.out.of5l.1.2.1
    have q2 := HRZ.out.of5l.1.2.2.1
    have q3 := HRZ.out.of5l.1.2.2.2.1
    have q4 := HRZ.out.of5l.1.2.2.2.2
    clear qf
    go_wp2_with fail
    have hY := ((((HRZ.out.set 0 (.int .i64 (i : Int)) (by simp)).set 1 (.int .i64 r1) (by simp)).set 2 (.int .i64 p) (by simp)).set 3 (.int .i64 t) (by simp)).set 4 (.int .i64 r2) (by simp)
    have s0 := hY.2.2 0 _ rfl
    have s1 := hY.2.2 1 _ rfl
    have s2 := hY.2.2 2 _ rfl
    have s3 := hY.2.2 3 _ rfl
    have s4 := hY.2.2 4 _ rfl
    exact bodyPost_ret (v := .agg #[.int .i64 (i : Int), .int .i64 r1, .int .i64 p, .int .i64 t, .int .i64 r2]) (by simp [results, Try.results49, go_sem, s0, s1, s2, s3, s4]) rfl ⟨rfl, ((((HBZ.out.setCell (by simp) _).setCell (by simp) _).setCell (by simp) _).setCell (by simp) _).setCell (by simp) _⟩
end Go.Proofs.Ytipmdhfinlkceaa
