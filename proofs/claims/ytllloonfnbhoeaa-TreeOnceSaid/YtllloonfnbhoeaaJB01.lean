import Derived.Test.YtllloonfnbhoeaaJA24
import Derived.Test.YtllloonfnbhoeaaJB00
import Derived.Laws.MakeOwn
/- The law TreeOnce, if package tree says what it is asked: vast nodes, and such as are no document's. -/
namespace Go.Proofs.Ytllloonfnbhoeaa
open Go.RowKit
set_option linter.unusedVariables false
set_option linter.unusedSimpArgs false
set_option maxHeartbeats 4000000 in
set_option maxRecDepth 100000 in
theorem treeonce_vast (H : TreeSays) {A : Option Addr} {n c : Nat} {l : List Nd} (hv : vast8 l = true) {w : World} (hl : Sees w A n l) : Calls Try.prog 4 #[.slice A n c] w fun e w' => e = .returned (.bool true) ∧ Below w.heap.size w w' := by
  have HH := Lib.hid H
  have HA := Lib.hid hl
  have HV := Lib.hid hv
  clear H hl hv
  go_enter Try.func4, Try.ntmps4
  go_wp2_with fail
  refine (vast8_to HV.out HA.out).mono ?_
  rintro e w1 ⟨rfl, rfl⟩
  go_wp2_with fail
  refine (tawake_any HH.out _).mono ?_
  rintro e w1 ⟨rfl, hb⟩
  have HB := Lib.hid hb
  clear hb
  go_wp2_with fail
  go_ret
  exact ⟨rfl, HB.out⟩
set_option maxHeartbeats 4000000 in
set_option maxRecDepth 100000 in
theorem treeonce_bad (H : TreeSays) {A : Option Addr} {n c : Nat} {l : List Nd} (hv : vast8 l = false) (hd : docB l = false) {w : World} (hl : Sees w A n l) : Calls Try.prog 4 #[.slice A n c] w fun e w' => e = .returned (.bool true) ∧ Below w.heap.size w w' := by
  obtain ⟨hn, hw⟩ := vast8_no hv
  have hla := hl.len
  have hn2 : n ≤ 60 := by omega
  have HH := Lib.hid H
  have HA := Lib.hid hl
  have HV := Lib.hid hv
  have HD := Lib.hid hd
  clear H hl hv hd hn hw hla
  go_enter Try.func4, Try.ntmps4
  go_wp2_with fail
  refine (vast8_to HV.out HA.out).mono ?_
  rintro e w1 ⟨rfl, rfl⟩
  go_wp2_with fail
  refine (pIs_to HD.out ⟨HA.out, by omega⟩).mono ?_
  rintro e w2 ⟨rfl, hb⟩
  have HB := Lib.hid hb
  clear hb
  go_wp2_with fail
  refine (tawake_any HH.out _).mono ?_
  rintro e w1 ⟨rfl, hb⟩
  have HB := Lib.hid (below_then HB.out hb)
  clear hb
  go_wp2_with fail
  go_ret
  exact ⟨rfl, HB.out⟩
end Go.Proofs.Ytllloonfnbhoeaa
/- The law TreeOnce: the row that counts. -/
namespace Go.Proofs.Ytllloonfnbhoeaa
open Go.RowKit
set_option linter.unusedVariables false
set_option linter.unusedSimpArgs false
theorem made_ints (n : Nat) : madeCells #[.int .i64 0] n = ((List.replicate n (0 : Int)).map (Value.int .i64)).toArray := by
  apply Array.ext'
  simp only [madeCells, List.map_replicate]
  rw [List.eq_replicate_iff]
  refine ⟨by simp, fun b hb => ?_⟩
  simp at hb
  obtain ⟨j, _, rfl⟩ := hb
  simp [Nat.mod_one]
theorem make_seen (n : Nat) (hn : n ≤ 1000000) (w : World) : (Instr.makeSlice 27 (.int .i64 (n : Int)) (.int .i64 (n : Int))).run Try.prog w = .ok (.slice (some ⟨w.heap.size, 0, none⟩) n n) (w.alloc (.cells ((List.replicate n (0 : Int)).map (Value.int .i64)).toArray 3)) := by
  obtain ⟨i0, hi0, hz0, hz1, hz2⟩ := info_parts int_info8
  have h := run_make (P := Try.prog) w 27 3 i0 _ Try.underlying27 hi0 hz0 .i64 .i64 (n : Int) (n : Int) (by omega) (Int.le_refl _) (by rw [hz2]; omega) (by omega)
  rw [hz1] at h
  rw [h]
  show Result.ok _ (w.alloc (.cells (madeCells #[.int .i64 0] ((n : Int).toNat * 1)) _)) = _
  rw [Int.toNat_natCast, Nat.mul_one, made_ints]
theorem Ints.set_far {w : World} {A : Option Addr} {n : Nat} {zs : List Int} (h : Ints w A n zs) {g : Nat} (hf : ∀ q, A = some q → g < q.block) (j : Nat) (v : Value) : Ints (w.setCell ⟨g, j, none⟩ v) A n zs :=
  ⟨h.1, h.2.1, fun hn => by
    obtain ⟨b, off, e, hb, hc⟩ := h.2.2 hn
    have := hf _ e
    refine ⟨b, off, e, by simpa using hb, fun k hk => ?_⟩
    rw [World.cell?_setCell_other _ _ _ _ (fun q => by injection q with q; simp only at this; omega)]
    exact hc k hk⟩
theorem seenV_get {L : List Nd} {a : Int} {t n k : Nat} (h : k < n) : ((seenI L a t n).map (Value.int .i64))[k]? = some (.int .i64 (metI L a t k)) := by rw [List.getElem?_map, seen_get h]; rfl
theorem seenV_step {L : List Nd} {n : Nat} (a : Int) {t k : Nat} (hk : (kidsI L a)[t]? = some (k : Int)) : (seenI L a (t + 1) n).map (Value.int .i64) = ((seenI L a t n).map (Value.int .i64)).set k (.int .i64 (metI L a t k + 1)) := by
  rw [seen_step a hk, List.map_set]
end Go.Proofs.Ytllloonfnbhoeaa
