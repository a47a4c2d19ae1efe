import Derived.Test.YtechccoongilcaaDoorJD712
import Derived.Test.YtechccoongilcaaDoorJD701
/- The program's attributes. (Written by program: tools/drafts/genattrs.py.) -/
namespace Go.Proofs.YtechccoongilcaaDoor
open Go.RowKit
set_option linter.unusedVariables false
set_option linter.unusedSimpArgs false
theorem plain_7 (w : World) : Calls Tryd.prog 79 #[] w fun e w' => e = .returned (.agg #[.int .i64 0, .int .i64 0, .int .i64 0, .int .i64 0, .int .i64 0, .int .i64 2, .int .i64 2, .int .i64 0, .int .i64 0, .int .i64 0, .int .i64 0, .int .i64 0]) ∧ Below w.heap.size w w' := by
  go_enter Tryd.func79, Tryd.ntmps79
  go_wp2_with fail
  refine bodyPost_ret (v := .agg #[.int .i64 0, .int .i64 0, .int .i64 0, .int .i64 0, .int .i64 0, .int .i64 2, .int .i64 2, .int .i64 0, .int .i64 0, .int .i64 0, .int .i64 0, .int .i64 0]) (by simp [results, Tryd.results79, go_sem]) rfl ⟨rfl, by go_grown⟩
/-- a result that lies in memory, read in one step. -/
theorem results_row {P : Program} {fn : Func} {tmps : Array Value} {w : World} {k : Nat} {t te : TypeId} {g : Nat} {vs : List Value} {d : TypeDesc} (hf : fn.results = #[.cell k t]) (ht : tmps.getD k undef = .pointer (some ⟨g, 0, none⟩)) (hb : Blk w g te vs)
    (hu : P.underlying t = some d) (hd : (match d with | .struct _ | .array _ _ => true | _ => false) = true) (hi : (P.info? t).map (·.size) = some vs.length) : (results fn tmps).run P w = .ok (.agg vs.toArray) w := by
  have hr := run_loadVar_row (P := P) w g te t vs.toArray (0, 0) d hb hu hd (by simpa using hi)
  rw [Array.getD_eq_getD_getElem?] at ht
  simp [results, hf, ht, asAddr, hr]
theorem wpList_value {P : Program} {ops : Array Oper} {rest : List Oper} {o : Oper} {a : Act} {w : World} {Q : Exit → Act → World → Prop} (hgd : o.guard = none) (v : Value) (he : (execOp a.eval o).run P w = .ok (.value v) w) (h : wpList P ops Q rest (a.put o.dst v) w) : wpList P ops Q (o :: rest) a w := by
  refine wpList_plain hgd fun K hK => ?_
  unfold Oper.wp
  rw [he, Oper.upon_value]
  exact hK _ _ h
set_option maxHeartbeats 4000000 in
set_option maxRecDepth 100000 in
theorem attributes_any (s0 s1 s2 s3 s4 s5 s6 s7 s8 s9 s10 s11 : Int) (w : World) : Calls Tryd.prog 64 #[.agg #[.int .i64 s0, .int .i64 s1, .int .i64 s2, .int .i64 s3, .int .i64 s4, .int .i64 s5, .int .i64 s6, .int .i64 s7, .int .i64 s8, .int .i64 s9, .int .i64 s10, .int .i64 s11]] w fun e w' => e = .returned (.agg (List.toArray (α := Value) (.int .u8 109 :: .int .i64 s0 :: .int .i64 0 :: .int .u8 110 :: .int .i64 s1 :: .int .i64 0 :: .int .u8 112 :: .int .i64 s2 :: .int .i64 0 :: .int .u8 113 :: .int .i64 s3 :: .int .i64 0 :: .int .u8 105 :: .int .i64 s4 :: .int .i64 0 :: .int .u8 111 :: .int .i64 s5 :: .int .i64 2 :: .int .u8 119 :: .int .i64 s6 :: .int .i64 2 :: .int .u8 104 :: .int .i64 s7 :: .int .i64 0 :: .int .u8 66 :: .int .i64 s8 :: .int .i64 0 :: .int .u8 65 :: .int .i64 s9 :: .int .i64 0 :: .int .u8 73 :: .int .i64 s10 :: .int .i64 0 :: .int .u8 99 :: .int .i64 s11 :: .int .i64 0 :: []))) ∧ Below w.heap.size w w' := by
  go_enter Tryd.func64, Tryd.ntmps64
  go_wp2_with fail
  refine (plain_7 _).mono ?_
  rintro e w1 ⟨rfl, hb⟩
  have hA : Blk w1 w.heap.size 44 [.int .i64 s0, .int .i64 s1, .int .i64 s2, .int .i64 s3, .int .i64 s4, .int .i64 s5, .int .i64 s6, .int .i64 s7, .int .i64 s8, .int .i64 s9, .int .i64 s10, .int .i64 s11] := ((Blk.new w 44 [.int .i64 s0, .int .i64 s1, .int .i64 s2, .int .i64 s3, .int .i64 s4, .int .i64 s5, .int .i64 s6, .int .i64 s7, .int .i64 s8, .int .i64 s9, .int .i64 s10, .int .i64 s11] _ rfl _ rfl).alloc _).on hb
  have hR : Blk w1 (w.heap.size + 1) 122 (.int .u8 0 :: .int .i64 0 :: .int .i64 0 :: .int .u8 0 :: .int .i64 0 :: .int .i64 0 :: .int .u8 0 :: .int .i64 0 :: .int .i64 0 :: .int .u8 0 :: .int .i64 0 :: .int .i64 0 :: .int .u8 0 :: .int .i64 0 :: .int .i64 0 :: .int .u8 0 :: .int .i64 0 :: .int .i64 0 :: .int .u8 0 :: .int .i64 0 :: .int .i64 0 :: .int .u8 0 :: .int .i64 0 :: .int .i64 0 :: .int .u8 0 :: .int .i64 0 :: .int .i64 0 :: .int .u8 0 :: .int .i64 0 :: .int .i64 0 :: .int .u8 0 :: .int .i64 0 :: .int .i64 0 :: .int .u8 0 :: .int .i64 0 :: .int .i64 0 :: []) := (Blk.new _ 122 (.int .u8 0 :: .int .i64 0 :: .int .i64 0 :: .int .u8 0 :: .int .i64 0 :: .int .i64 0 :: .int .u8 0 :: .int .i64 0 :: .int .i64 0 :: .int .u8 0 :: .int .i64 0 :: .int .i64 0 :: .int .u8 0 :: .int .i64 0 :: .int .i64 0 :: .int .u8 0 :: .int .i64 0 :: .int .i64 0 :: .int .u8 0 :: .int .i64 0 :: .int .i64 0 :: .int .u8 0 :: .int .i64 0 :: .int .i64 0 :: .int .u8 0 :: .int .i64 0 :: .int .i64 0 :: .int .u8 0 :: .int .i64 0 :: .int .i64 0 :: .int .u8 0 :: .int .i64 0 :: .int .i64 0 :: .int .u8 0 :: .int .i64 0 :: .int .i64 0 :: []) _ (by simp) _ rfl).on hb
  have HB := Lib.hid (below_then (show Below w.heap.size w _ by go_grown) hb)
  have hs1 : w.heap.size + 2 ≤ w1.heap.size := by have := hb.size; simp at this; omega
  clear hb
  go_wp2_with ((with_reducible refine stop_store 44 (.tmp 3) (.tmp 4) ?_ ?_); exact rfl)
  refine Stop.intro ?_
  refine wpList_store_row rfl 44 (.tmp 3) (.tmp 4) rfl w1.heap.size rfl 44 #[.int .i64 0, .int .i64 0, .int .i64 0, .int .i64 0, .int .i64 0, .int .i64 0, .int .i64 0, .int .i64 0, .int .i64 0, .int .i64 0, .int .i64 0, .int .i64 0] #[.int .i64 0, .int .i64 0, .int .i64 0, .int .i64 0, .int .i64 0, .int .i64 2, .int .i64 2, .int .i64 0, .int .i64 0, .int .i64 0, .int .i64 0, .int .i64 0] rfl (Blk.new w1 44 [.int .i64 0, .int .i64 0, .int .i64 0, .int .i64 0, .int .i64 0, .int .i64 0, .int .i64 0, .int .i64 0, .int .i64 0, .int .i64 0, .int .i64 0, .int .i64 0] _ rfl _ rfl) (by kernel_rfl) rfl (by rw [List.all_toArray]; rfl) ?_
  intro V hV
  have hVs : V.heap.size = w1.heap.size + 1 := by rw [hV, setRow_size]; simp
  have hK : Blk V w1.heap.size 44 [.int .i64 0, .int .i64 0, .int .i64 0, .int .i64 0, .int .i64 0, .int .i64 2, .int .i64 2, .int .i64 0, .int .i64 0, .int .i64 0, .int .i64 0, .int .i64 0] := by rw [hV]; exact Blk.row (Blk.new w1 44 [.int .i64 0, .int .i64 0, .int .i64 0, .int .i64 0, .int .i64 0, .int .i64 0, .int .i64 0, .int .i64 0, .int .i64 0, .int .i64 0, .int .i64 0, .int .i64 0] _ rfl _ rfl) _ _ rfl
  have hA2 : Blk V w.heap.size 44 [.int .i64 s0, .int .i64 s1, .int .i64 s2, .int .i64 s3, .int .i64 s4, .int .i64 s5, .int .i64 s6, .int .i64 s7, .int .i64 s8, .int .i64 s9, .int .i64 s10, .int .i64 s11] := by rw [hV]; exact (hA.alloc _).row_other (by omega) _
  have hR2 : Blk V (w.heap.size + 1) 122 (.int .u8 0 :: .int .i64 0 :: .int .i64 0 :: .int .u8 0 :: .int .i64 0 :: .int .i64 0 :: .int .u8 0 :: .int .i64 0 :: .int .i64 0 :: .int .u8 0 :: .int .i64 0 :: .int .i64 0 :: .int .u8 0 :: .int .i64 0 :: .int .i64 0 :: .int .u8 0 :: .int .i64 0 :: .int .i64 0 :: .int .u8 0 :: .int .i64 0 :: .int .i64 0 :: .int .u8 0 :: .int .i64 0 :: .int .i64 0 :: .int .u8 0 :: .int .i64 0 :: .int .i64 0 :: .int .u8 0 :: .int .i64 0 :: .int .i64 0 :: .int .u8 0 :: .int .i64 0 :: .int .i64 0 :: .int .u8 0 :: .int .i64 0 :: .int .i64 0 :: []) := by rw [hV]; exact (hR.alloc _).row_other (by omega) _
  have HB2 := Lib.hid (show Below w.heap.size w V by rw [hV]; exact below_setRow (HB.out.alloc (by omega) _) (by omega) _)
  clear hV hA hR
  have a0 := hA2.box.2.2 0 _ rfl
  have a1 := hA2.box.2.2 1 _ rfl
  have a2 := hA2.box.2.2 2 _ rfl
  have a3 := hA2.box.2.2 3 _ rfl
  have a4 := hA2.box.2.2 4 _ rfl
  have a5 := hA2.box.2.2 5 _ rfl
  have a6 := hA2.box.2.2 6 _ rfl
  have a7 := hA2.box.2.2 7 _ rfl
  have a8 := hA2.box.2.2 8 _ rfl
  have a9 := hA2.box.2.2 9 _ rfl
  have a10 := hA2.box.2.2 10 _ rfl
  have a11 := hA2.box.2.2 11 _ rfl
  have k0 := hK.box.2.2 0 _ rfl
  have k1 := hK.box.2.2 1 _ rfl
  have k2 := hK.box.2.2 2 _ rfl
  have k3 := hK.box.2.2 3 _ rfl
  have k4 := hK.box.2.2 4 _ rfl
  have k5 := hK.box.2.2 5 _ rfl
  have k6 := hK.box.2.2 6 _ rfl
  have k7 := hK.box.2.2 7 _ rfl
  have k8 := hK.box.2.2 8 _ rfl
  have k9 := hK.box.2.2 9 _ rfl
  have k10 := hK.box.2.2 10 _ rfl
  have k11 := hK.box.2.2 11 _ rfl
  have HR2 := Lib.hid hR2
  clear hA2 hR2 hK
  go_wp2_with ((with_reducible refine stop_dst 65 ?_ ?_); exact rfl)
  refine Stop.intro ?_
  refine wpList_value rfl (.agg (List.toArray (α := Value) (.int .u8 109 :: .int .i64 s0 :: .int .i64 0 :: .int .u8 110 :: .int .i64 s1 :: .int .i64 0 :: .int .u8 112 :: .int .i64 s2 :: .int .i64 0 :: .int .u8 113 :: .int .i64 s3 :: .int .i64 0 :: .int .u8 105 :: .int .i64 s4 :: .int .i64 0 :: .int .u8 111 :: .int .i64 s5 :: .int .i64 2 :: .int .u8 119 :: .int .i64 s6 :: .int .i64 2 :: .int .u8 104 :: .int .i64 s7 :: .int .i64 0 :: .int .u8 66 :: .int .i64 s8 :: .int .i64 0 :: .int .u8 65 :: .int .i64 s9 :: .int .i64 0 :: .int .u8 73 :: .int .i64 s10 :: .int .i64 0 :: .int .u8 99 :: .int .i64 s11 :: .int .i64 0 :: []))) (by kernel_rfl) ?_
  refine wpList_store_row rfl 122 (.tmp 2) (.tmp 65) rfl (w.heap.size + 1) rfl 122 (List.toArray (α := Value) (.int .u8 0 :: .int .i64 0 :: .int .i64 0 :: .int .u8 0 :: .int .i64 0 :: .int .i64 0 :: .int .u8 0 :: .int .i64 0 :: .int .i64 0 :: .int .u8 0 :: .int .i64 0 :: .int .i64 0 :: .int .u8 0 :: .int .i64 0 :: .int .i64 0 :: .int .u8 0 :: .int .i64 0 :: .int .i64 0 :: .int .u8 0 :: .int .i64 0 :: .int .i64 0 :: .int .u8 0 :: .int .i64 0 :: .int .i64 0 :: .int .u8 0 :: .int .i64 0 :: .int .i64 0 :: .int .u8 0 :: .int .i64 0 :: .int .i64 0 :: .int .u8 0 :: .int .i64 0 :: .int .i64 0 :: .int .u8 0 :: .int .i64 0 :: .int .i64 0 :: [])) (List.toArray (α := Value) (.int .u8 109 :: .int .i64 s0 :: .int .i64 0 :: .int .u8 110 :: .int .i64 s1 :: .int .i64 0 :: .int .u8 112 :: .int .i64 s2 :: .int .i64 0 :: .int .u8 113 :: .int .i64 s3 :: .int .i64 0 :: .int .u8 105 :: .int .i64 s4 :: .int .i64 0 :: .int .u8 111 :: .int .i64 s5 :: .int .i64 2 :: .int .u8 119 :: .int .i64 s6 :: .int .i64 2 :: .int .u8 104 :: .int .i64 s7 :: .int .i64 0 :: .int .u8 66 :: .int .i64 s8 :: .int .i64 0 :: .int .u8 65 :: .int .i64 s9 :: .int .i64 0 :: .int .u8 73 :: .int .i64 s10 :: .int .i64 0 :: .int .u8 99 :: .int .i64 s11 :: .int .i64 0 :: [])) rfl HR2.out (by kernel_rfl) rfl (by rw [List.all_toArray]; rfl) ?_
  intro U hU
  have hRU : Blk U (w.heap.size + 1) 122 (.int .u8 109 :: .int .i64 s0 :: .int .i64 0 :: .int .u8 110 :: .int .i64 s1 :: .int .i64 0 :: .int .u8 112 :: .int .i64 s2 :: .int .i64 0 :: .int .u8 113 :: .int .i64 s3 :: .int .i64 0 :: .int .u8 105 :: .int .i64 s4 :: .int .i64 0 :: .int .u8 111 :: .int .i64 s5 :: .int .i64 2 :: .int .u8 119 :: .int .i64 s6 :: .int .i64 2 :: .int .u8 104 :: .int .i64 s7 :: .int .i64 0 :: .int .u8 66 :: .int .i64 s8 :: .int .i64 0 :: .int .u8 65 :: .int .i64 s9 :: .int .i64 0 :: .int .u8 73 :: .int .i64 s10 :: .int .i64 0 :: .int .u8 99 :: .int .i64 s11 :: .int .i64 0 :: []) := by rw [hU]; exact HR2.out.row _ _ rfl
  have HBU := Lib.hid (show Below w.heap.size w U by rw [hU]; exact below_setRow HB2.out (by omega) _)
  have HRU := Lib.hid hRU
  clear hU hRU a0 k0 a1 k1 a2 k2 a3 k3 a4 k4 a5 k5 a6 k6 a7 k7 a8 k8 a9 k9 a10 k10 a11 k11
  go_wp2_with fail
  exact bodyPost_ret (results_row Tryd.results64 rfl HRU.out Tryd.underlying122 rfl (by kernel_rfl)) rfl ⟨rfl, HBU.out⟩
end Go.Proofs.YtechccoongilcaaDoor
