import Derived.Test.YtamakeogaipdiaaJA32
/- The walk of the law KinNested. (Written by program: tools/drafts/gennested16.py.) -/
namespace Go.Proofs.Ytamakeogaipdiaa
open Go.RowKit
set_option linter.unusedVariables false
set_option linter.unusedSimpArgs false
theorem step_append_cells_w16 {P : Program} (w : World) {ops : Array Oper} {o : Oper} {a : Act} {K : Act → World → Prop} {Q : Exit → Act → World → Prop} {E : Prop} (hw : Region.wanted o (yielded ops a.tmps) = true) (s x : Operand) (t : TypeId)
    (ho : o.op = .call { callee := .builtin .append, args := #[s, x], argTypes := #[t, t] })
    (base : Nat) (e : TypeId) (i : TypeInfo) (z : Value) (size bytes : Nat) (ht : P.underlying t = some (.slice e)) (hi : P.info? e = some i) (hz : i.zero = some z)
    (hsize : i.size = size) (hby : i.bytes = bytes) (hzs : z.cells.size = size) (hsz : 0 < size)
    (v : Value) (n : Nat) (xs : List Value) (hs : a.eval s = v) (hown : w.ownsRow base e size v n xs)
    (A : Option Addr) (m c : Nat) (news : List Value) (hx : a.eval x = .slice A m c) (hc : Cells w A m size news) (h1 : ∀ u ∈ news, u.oneCell' = true)
    (h63 : n + m ≤ maxLen) (hbytes : (n + m) * bytes ≤ 140737488355328) (hbase : base ≤ w.heap.size)
    (h : ∀ A' c' w', w'.ownsRow base e size (.slice A' (n + m) c') (n + m) (xs ++ news) → w.grownBy w' v.ownBlock → K (a.put o.dst (.slice A' (n + m) c')) w') :
    if Region.wanted o (yielded ops a.tmps) = true then Oper.wp P o a w K Q else E := by
  obtain ⟨A', c', w', hr, h2, h3⟩ := run_append_cells (P := P) w base t o.type e i z size bytes ht hi hz hsize hby hzs hsz v n xs hown A m c news hc h1 h63 hbytes hbase
  rw [if_pos hw]
  unfold Oper.wp execOp
  simp only [ho, resolve, invoke, builtin, Sem.run_bind, Sem.run_pure, Result.andThen_ok, List.map_toArray, List.map_cons, List.map_nil, hs, hx, hr]
  exact h _ _ _ h2 h3
/-- each of a row stands within the next one. -/
def ChainOk (L : List Nd) (row : List Int) : Prop := ∀ (i : Nat) (a b : Int), row[i]? = some a → row[i + 1]? = some b → a ≠ b ∧ holdsI L b a = true
theorem chain_nil (L : List Nd) : ChainOk L [] := fun i a b h => by simp at h
set_option maxHeartbeats 2000000 in
set_option maxRecDepth 100000 in
theorem kchain_to {L : List Nd} (hd : docB L = true) {row : List Int} (hc : ChainOk L row) {A B : Option Addr} {n c m d : Nat} {w : World} (hP : PreV L w A n) (hI : Ints w B m row) (hm : m ≤ 1000000) :
    Calls Try.prog 20 #[.slice A n c, .slice B m d] w fun e w' => e = .returned (.bool true) ∧ Below w.heap.size w w' := by
  have HP := Lib.hid hP
  have HI := Lib.hid hI
  have HLO := Lib.hid hI.1
  have HC := Lib.hid hc
  have HOD := Lib.hid (show ordL L = L by unfold ordL; rw [if_pos hd])
  clear hP hI hc hd
  go_enter Try.func20, Try.ntmps20
  go_wp2_with fail
  go_loopw [5] (fun i wr => ∃ k : Nat, i = .int .i64 ((k : Int) + 1) ∧ k ≤ m ∧ Hid (On w wr)) (fun i _ => m + 1 - (intOf i).toNat)
  case atStart => exact ⟨0, rfl, Nat.zero_le _, Lib.hid (On.refl _)⟩
  case round =>
    obtain ⟨k, rfl, hkm, HO⟩ := hrel
    by_cases hlt : k + 1 < m
    · have hlt2 : (k : Int) + 1 < (m : Int) := by omega
      have hk0 : (0 : Int) ≤ (k : Int) := by omega
      have hk1 : (0 : Int) ≤ (k : Int) + 1 := by omega
      have hkm2 : (k : Int) < (m : Int) := by omega
      have hks : IntKind.i64.wrap ((k : Int) + 1 - 1) = (k : Int) := by rw [Int.add_sub_cancel]; exact IntWalk.i64_in _ (by omega)
      have hwk : IntKind.i64.wrap ((k : Int) + 1 + 1) = (k : Int) + 1 + 1 := IntWalk.i64_in _ (by omega)
      obtain ⟨a, ha⟩ : ∃ a, row[k]? = some a := ⟨_, List.getElem?_eq_getElem (by have := HLO.out; omega)⟩
      obtain ⟨b, hb⟩ : ∃ b, row[k + 1]? = some b := ⟨_, List.getElem?_eq_getElem (by have := HLO.out; omega)⟩
      obtain ⟨hne, hh⟩ := HC.out k a b ha hb
      obtain ⟨b1, o1, rfl, hb1, c9⟩ := (HI.out.below HO.out rfl).2.2 (by omega)
      have c1 := c9 k (by omega)
      have c2 := c9 (k + 1) hlt
      rw [ha, Option.getD_some] at c1
      rw [hb, Option.getD_some] at c2
      have k1 := OnW.cell c1
      have k2 := OnW.cell c2
      have hq : (a == b) = false := by simpa using hne
      have HT := Lib.hid (fun p : OnW wr => tHolds_to (c := c) (show holdsI (ordL L) b a = true by rw [HOD.out]; exact hh) (HP.out.below (HO.out.step p.h)))
      clear c9 c1 c2 ha hb hne hh
      go_wp2_with fail
      refine wp_region_on (by kernel_rfl) (by kernel_rfl) ?_
      repeat (go_big_quiet_step (first | (go_at_call 19; with_reducible exact Calls.on_of (HT.out _))))
      refine wpQuiet_nil ?_
      intro w5 hw'
      obtain ⟨⟨w6, hOn⟩, hw''⟩ := hw'
      obtain rfl : w5 = w6 := hw''
      have HO2 := Lib.hid (HO.out.step hOn)
      clear hOn k1 k2
      go_wp2_with fail
      go_roundw
      case rel => exact ⟨k + 1, by go_num, by omega, HO2⟩
      case measure => simp [intOf] <;> omega
    · have hle : (m : Int) ≤ (k : Int) + 1 := by omega
      go_wp2_with fail
      go_ret
      exact ⟨rfl, HO.out⟩
theorem ends_chain {L : List Nd} {of : List Int} (h : KinOk L of) (k : Int) : ChainOk L ((kinK L of k).ends ++ (kinK L of k).both) := by
  cases hc : ofAt of (k - 1) with
  | none => rw [(no_ends hc).1, (no_ends hc).2]; exact chain_nil L
  | some c => exact fun i a b h1 h2 => down_chain (ends_both h hc) h1 h2
theorem begs_chain {L : List Nd} {of : List Int} (h : KinOk L of) (k : Int) : ChainOk L ((kinK L of k).begs.reverse ++ (kinK L of k).both) := by
  cases hc : ofAt of k with
  | none => rw [(no_begs hc).1, (no_begs hc).2]; exact chain_nil L
  | some c => exact fun i a b h1 h2 => down_chain (begs_both h hc) h1 h2
set_option maxHeartbeats 16000000 in
set_option maxRecDepth 100000 in
theorem kinnested_all {L : List Nd} {of : List Int} {k : Int} {A B : Option Addr} {n c m d : Nat} {w : World} (hS : Sees w A n L) (hI : Ints w B m of) :
    Calls Try.prog 5 #[.slice A n c, .slice B m d, .int .i64 k] w fun e w' => e = .returned (.bool true) ∧ Below w.heap.size w w' := by
  have HS := Lib.hid hS
  have HI := Lib.hid hI
  have HLN := Lib.hid hS.len
  have HLO := Lib.hid hI.1
  have hnb := hS.bound
  have hmb := hI.2.1
  obtain ⟨i0, hi0, hz0, hz1, hz2⟩ := info_parts kin_info16
  rcases hv : vast16 L of with _ | _
  rotate_left
  · have HV := Lib.hid hv
    clear hv hS hI
    go_enter Try.func5, Try.ntmps5
    go_wp2_with fail
    refine (vast16_to HV.out HS.out HI.out).mono ?_
    rintro e w1 ⟨rfl, rfl⟩
    go_wp2_with fail
    refine (awake16_any _).mono ?_
    rintro e w2 ⟨rfl, hb⟩
    have HB := Lib.hid hb
    clear hb
    go_wp2_with fail
    go_ret
    exact ⟨rfl, HB.out⟩
  have HV := Lib.hid hv
  obtain ⟨v1, v2, v3⟩ := vast16_no hv
  have hn : n ≤ 60 := by have := HLN.out; omega
  have hm : m ≤ 200 := by have := HLO.out; omega
  have HP := Lib.hid (show PreV L w A n from ⟨hS, by omega⟩)
  obtain ⟨⟨x, f1⟩, hx⟩ : ∃ z, kinA L of k = z := ⟨_, rfl⟩
  have HX := Lib.hid hx
  clear hv hS hI v1 v2 v3 hx
  go_enter Try.func5, Try.ntmps5
  go_wp2_with fail
  refine (vast16_to HV.out HS.out HI.out).mono ?_
  rintro e w1 ⟨rfl, rfl⟩
  go_wp2_with fail
  refine (katA_to HX.out HP.out HI.out (by omega)).mono ?_
  rintro e w4 ho
  obtain ⟨A1, n1, c1, A2, n2, c2, A3, n3, c3, t, rfl, hs, hb⟩ := ho.open_
  have HK := Lib.hid hs
  have H4 := Lib.hid (show On w w4 from hb)
  clear ho hs hb
  by_cases hgd : kinB L of = true ∧ 0 ≤ k ∧ k ≤ (of.length : Int)
  rotate_left
  · have hx9 := HX.out
    have hbad : kinA L of k = (Kn.no, 4) := by
      unfold kinA
      rw [if_neg]
      simp only [Bool.and_eq_true, decide_eq_true_eq]
      exact fun h9 => hgd ⟨h9.1, h9.2.1, h9.2.2⟩
    rw [hbad] at hx9
    injection hx9 with e1 e2
    subst e1 e2
    clear hbad hgd
    go_wp2_with fail
    refine (awake16_any _).mono ?_
    rintro e w2 ⟨rfl, hb⟩
    have HB := Lib.hid (below_then (On.step H4.out (On.alloc (On.refl w4) _)) hb)
    clear hb
    go_wp2_with fail
    go_ret
    exact ⟨rfl, HB.out⟩
  obtain ⟨hk, hk0, hk1⟩ := hgd
  have hx9 := HX.out
  rw [kinA_in hk hk0 hk1] at hx9
  injection hx9 with e1 e2
  subst e1 e2
  obtain ⟨k0, rfl⟩ : ∃ k0 : Nat, k = (k0 : Int) := ⟨k.toNat, by omega⟩
  have hkm : k0 ≤ m := by have := HLO.out; omega
  have HKO := Lib.hid (kin_ok hk)
  have HD := Lib.hid (show docB L = true from (docB_iff L).2 HKO.out.doc)
  obtain ⟨l1, l2, l3⟩ := kinK_lens L of (k0 : Int)
  have b1 : n1 ≤ 60 := by have h9 : (kinK L of (k0 : Int)).ends.length = n1 := HK.out.e.1; have := HLN.out; omega
  have b2 : n2 ≤ 60 := by have h9 : (kinK L of (k0 : Int)).begs.length = n2 := HK.out.b.1; have := HLN.out; omega
  have b3 : n3 ≤ 60 := by have h9 : (kinK L of (k0 : Int)).both.length = n3 := HK.out.o.1; have := HLN.out; omega
  clear hk hk1 l1 l2 l3
  go_wp2_with fail
  generalize hV : World.alloc w4 _ = V
  have hal : On w4 V := by rw [← hV]; exact On.alloc (On.refl w4) _
  have HXB := Lib.hid (show Box V w4.heap.size [.slice A1 n1 c1, .slice A2 n2 c2, .slice A3 n3 c3, .int .i64 t] by rw [← hV]; exact box_new16 _ _ _ _ rfl _ rfl)
  have HKV := Lib.hid (HK.out.below hal)
  have H5 := Lib.hid (show On w V from On.step H4.out hal)
  have hDV : w4.heap.size < V.heap.size := HXB.out.1
  clear hV hal HK H4
  have y1 := HXB.out.2.2 1 _ rfl
  have hwn : IntKind.i64.wrap ((n2 : Int) - 1) = (n2 : Int) - 1 := IntWalk.i64_in _ (by omega)
  go_wp2_with fail
  clear y1
  go_loopw [9, 10] (fun tt i wr => ∃ (q : Nat) (A9 : Option Addr) (n9 c9 : Nat), tt = .slice A9 n9 c9 ∧ i = .int .i64 ((q : Int) - 1) ∧ q ≤ n2 ∧ n9 + q = n2 ∧ Hid (wr.ownsRow V.heap.size 3 1 (.slice A9 n9 c9) n9 ((((kinK L of (k0 : Int)).begs.drop q).reverse).map (Value.int .i64))) ∧ Hid (On V wr)) (fun _ i _ => (intOf i + 1).toNat)
  case atStart => exact ⟨n2, none, 0, 0, rfl, rfl, Nat.le_refl _, by omega, Lib.hid (by rw [List.drop_of_length_le (by rw [HKV.out.b.1]; exact Nat.le_refl _)]; exact owns_nil _ _ _ _), Lib.hid (On.refl _)⟩
  case round =>
    obtain ⟨q, A9, n9, c9, rfl, rfl, hqn, hnq, HT, HO⟩ := hrel
    cases q with
    | succ q =>
      have hqq : ((q + 1 : Nat) : Int) - 1 = (q : Int) := by omega
      rw [hqq]
      have h1 : (0 : Int) ≤ (q : Int) := by omega
      have h2 : (q : Int) < (n2 : Int) := by omega
      have hws : IntKind.i64.wrap ((q : Int) - 1) = (q : Int) - 1 := IntWalk.i64_in _ (by omega)
      obtain ⟨z, hz⟩ : ∃ z, (kinK L of (k0 : Int)).begs[q]? = some z := ⟨_, List.getElem?_eq_getElem (by have := HKV.out.b.1; simp only at this; omega)⟩
      have y1 : wr.cell? ⟨w4.heap.size, 1, none⟩ = some (.slice A2 n2 c2) := (HXB.out.below HO.out).2.2 1 _ rfl
      obtain ⟨b1', o1, hA2, hb1', c9'⟩ := (HKV.out.b.below HO.out rfl).2.2 (show 0 < n2 by omega)
      simp only at hA2
      have c1 := c9' q (show q < n2 by omega)
      rw [hz, Option.getD_some] at c1
      have HR := Lib.hid (show ((kinK L of (k0 : Int)).begs.drop q).reverse = ((kinK L of (k0 : Int)).begs.drop (q + 1)).reverse ++ [z] by
        have hlt : q < (kinK L of (k0 : Int)).begs.length := (List.getElem?_eq_some_iff.1 hz).1
        rw [List.drop_eq_getElem_cons hlt, List.reverse_cons, (List.getElem?_eq_some_iff.1 hz).2])
      have hws2 : V.heap.size ≤ wr.heap.size := HO.out.size
      rw [hA2] at y1
      clear hqq hz c9' hA2
      go_wp2_with ((with_reducible refine stop_dst 41 ?_ ?_); exact rfl)
      refine Stop.intro ?_
      have hU : On wr (wr.alloc (.cells #[.int .i64 z] 3)) := On.alloc (On.refl wr) _
      have hC1 : Cells (wr.alloc (.cells #[.int .i64 z] 3)) (some ⟨wr.heap.size, 0, none⟩) 1 1 [.int .i64 z] := cells_ofone wr 3 (.int .i64 z)
      refine wpList_append_cells _ rfl (.tmp 34) (.tmp 40) _ rfl V.heap.size 3 i0 (.int .i64 0) 1 8 Try.underlying23 hi0 hz0 hz1 hz2 rfl (by decide) (.slice A9 n9 c9) n9 _ rfl (owns_below HT.out hU) _ 1 1 _ rfl hC1 (by simp [Value.oneCell']) (by unfold maxLen; omega) (by omega) (by simp; omega) ?_
      intro A8 c8 w8 hown hg
      have hbk := owns_block HT.out
      have HO8 := Lib.hid (show On V w8 from below_grown16 (HO.out.step hU) hg (fun r hr => hbk r hr))
      have HT8 := Lib.hid (show w8.ownsRow V.heap.size 3 1 (.slice A8 (n9 + 1) c8) (n9 + 1) ((((kinK L of (k0 : Int)).begs.drop q).reverse).map (Value.int .i64)) by rw [HR.out, List.map_append]; exact hown)
      clear hown hg hU hC1 hbk c1 y1
      go_wp2_with fail
      go_roundw
      case rel => exact ⟨q, A8, n9 + 1, c8, rfl, by go_num, by omega, by omega, HT8, HO8⟩
      case measure => simp [intOf] <;> omega
    | zero =>
      have h1 : ((0 : Nat) : Int) - 1 < 0 := by omega
      obtain rfl : n9 = n2 := by omega
      have HT := Lib.hid (show wr.ownsRow V.heap.size 3 1 (.slice A9 n9 c9) n9 ((kinK L of (k0 : Int)).begs.reverse.map (Value.int .i64)) from HT.out)
      have x0 := On.cell (HXB.out.2.2 0 _ rfl)
      have x2 := On.cell (HXB.out.2.2 2 _ rfl)
      have HPV := Lib.hid (HP.out.below H5.out)
      go_wp2_with fail
      obtain ⟨zb, hzb⟩ : ∃ zb, wr.heap.size = zb := ⟨_, rfl⟩
      have hVz : V.heap.size ≤ zb := by rw [← hzb]; exact HO.out.size
      have HZB := Lib.hid hzb
      clear hzb
      refine wp_region_held_drew (S := fun W' => On V W') (by kernel_rfl) HO.out.drew (fun h0 => ?_)
      show wpAnyH _ _ _ _ _ 19 (Array.replicate 19 false) _ _
      refine wpAnyH_take (i := 0) (v := ?_) rfl (by kernel_rfl) (by kernel_rfl) (by kernel_rfl) (fun _ _ _ h => h) (Or.inl ⟨by rfl, ?_⟩) h0 ?_
      rotate_left
      · intro w hSw; (try dsimp only at hSw); go_simp; with_reducible rfl
      try simp only [Act.put, List.setIfInBounds_toArray, List.set_cons_zero, List.set_cons_succ, List.getElem_toArray, List.getElem_cons_succ, List.getElem_cons_zero]
      refine wpAnyH_take (i := 2) (v := ?_) rfl (by kernel_rfl) (by kernel_rfl) (by kernel_rfl) (fun _ _ _ h => h) (Or.inl ⟨by rfl, ?_⟩) h0 ?_
      rotate_left
      · intro w hSw; (try dsimp only at hSw); go_simp; with_reducible rfl
      try simp only [Act.put, List.setIfInBounds_toArray, List.set_cons_zero, List.set_cons_succ, List.getElem_toArray, List.getElem_cons_succ, List.getElem_cons_zero]
      refine wpAnyH_take (i := 3) (v := ?_) rfl (by kernel_rfl) (by kernel_rfl) (by kernel_rfl) (fun _ _ _ h => h) (Or.inl ⟨by rfl, ?_⟩) h0 ?_
      rotate_left
      · intro w hSw; (try dsimp only at hSw); go_simp; with_reducible rfl
      try simp only [Act.put, List.setIfInBounds_toArray, List.set_cons_zero, List.set_cons_succ, List.getElem_toArray, List.getElem_cons_succ, List.getElem_cons_zero]
      refine wpAnyH_take (i := 5) (v := ?_) rfl (by kernel_rfl) (by kernel_rfl) (by kernel_rfl) (fun _ _ _ h => h) (Or.inl ⟨by rfl, ?_⟩) h0 ?_
      rotate_left
      · intro w hSw; (try dsimp only at hSw); go_simp; with_reducible rfl
      try simp only [Act.put, List.setIfInBounds_toArray, List.set_cons_zero, List.set_cons_succ, List.getElem_toArray, List.getElem_cons_succ, List.getElem_cons_zero]
      refine wpAnyH_take (i := 6) (v := ?_) rfl (by kernel_rfl) (by kernel_rfl) (by kernel_rfl) (fun _ _ _ h => h) (Or.inl ⟨by rfl, ?_⟩) h0 ?_
      rotate_left
      · intro w hSw; (try dsimp only at hSw); go_simp; with_reducible rfl
      try simp only [Act.put, List.setIfInBounds_toArray, List.set_cons_zero, List.set_cons_succ, List.getElem_toArray, List.getElem_cons_succ, List.getElem_cons_zero]
      refine wpAnyH_ready (rs := [1]) (by kernel_rfl) (by simp) ?_
      refine AllReadyH.cons rfl (fun K hK => ?_) AllReadyH.nil
      go_simp
      refine hK.out _ _ (On.alloc h0 _) (fun h1 => ?_)
      clear hK K
      try simp only [Act.put, List.setIfInBounds_toArray, List.set_cons_zero, List.set_cons_succ, List.getElem_toArray, List.getElem_cons_succ, List.getElem_cons_zero]
      have hOL : (wr.alloc (.cells #[] 3)).drew.ownsRow zb 3 1 (.slice (some ⟨wr.heap.size, 0, none⟩) 0 0) 0 [] := ⟨rfl, .inr ⟨wr.heap.size, 0, #[], rfl, Nat.le_of_eq HZB.out.symm, World.alloc_heap_new wr _, by decide, by decide, by decide, by simp⟩⟩
      have hTL : (wr.alloc (.cells #[] 3)).drew.ownsRow V.heap.size 3 1 (.slice A9 n9 c9) n9 ((kinK L of (k0 : Int)).begs.reverse.map (Value.int .i64)) := owns_below HT.out ((On.alloc (On.refl wr) _).drew)
      have hTb : ∀ r, (Value.slice A9 n9 c9).ownBlock = some r → r < zb := fun r hr => by rw [← HZB.out]; exact owns_block_lt HT.out r hr
      refine wpAnyH_ready (rs := [4]) (by kernel_rfl) (by simp) ?_
      refine AllReadyH.cons rfl (fun K hK => ?_) AllReadyH.nil
      refine step_append_cells _ rfl (.tmp 43) (.tmp 45) _ rfl zb 3 i0 (.int .i64 0) 1 8 Try.underlying23 hi0 hz0 hz1 hz2 rfl (by decide) (.slice (some ⟨wr.heap.size, 0, none⟩) 0 0) 0 _ rfl hOL A1 n1 c1 _ rfl (HKV.out.e.below h1 rfl).cells (ints_ones _) (by unfold maxLen; omega) (by omega) (by rw [← HZB.out]; simp) ?_
      intro A7 c7 w7 hown hg
      simp only [Nat.zero_add, List.nil_append] at hown ⊢
      have hbk : ∀ r, (Value.slice (some ⟨wr.heap.size, 0, none⟩) 0 0).ownBlock = some r → zb ≤ r := fun r e => by injection e with e; simp only at e; have := HZB.out; omega
      have hT2 := owns_keep16 hTL hg (fun r h1 h2 => by have := hTb r h1; have := hbk r h2; omega)
      have hb7 : On V w7 := below_grown16 h1 hg (fun r e => Nat.le_trans hVz (hbk r e))
      have hz7 : zb ≤ w7.heap.size := by rw [← HZB.out]; have := hg.size; simp at this; omega
      refine hK.out _ _ hb7 (fun h2 => ?_)
      clear hK K hg hbk hb7
      try simp only [Act.put, List.setIfInBounds_toArray, List.set_cons_zero, List.set_cons_succ, List.getElem_toArray, List.getElem_cons_succ, List.getElem_cons_zero]
      refine wpAnyH_ready (rs := [7]) (by kernel_rfl) (by simp) ?_
      refine AllReadyH.cons rfl (fun K hK => ?_) AllReadyH.nil
      refine step_append_cells _ rfl (.tmp 46) (.tmp 48) _ rfl zb 3 i0 (.int .i64 0) 1 8 Try.underlying23 hi0 hz0 hz1 hz2 rfl (by decide) (.slice A7 n1 c7) n1 _ rfl hown A3 n3 c3 _ rfl (HKV.out.o.below h2 rfl).cells (ints_ones _) (by unfold maxLen; omega) (by omega) hz7 ?_
      intro A8 c8 w8 hown8 hg
      have hbk := owns_block hown
      have hT3 := owns_keep16 hT2 hg (fun r h1 h2 => by have := hTb r h1; have := hbk r h2; omega)
      have hb8 : On V w8 := below_grown16 h2 hg (fun r e => Nat.le_trans hVz (hbk r e))
      have hI8 : Ints w8 A8 (n1 + n3) ((kinK L of (k0 : Int)).ends ++ (kinK L of (k0 : Int)).both) := by have h9 := ownsRow_cells hown8; rw [← List.map_append] at h9; exact h9.ints
      refine hK.out _ _ hb8 (fun h3 => ?_)
      clear hK K hg hbk hb8 hown hown8 hT2 hTL
      try simp only [Act.put, List.setIfInBounds_toArray, List.set_cons_zero, List.set_cons_succ, List.getElem_toArray, List.getElem_cons_succ, List.getElem_cons_zero]
      refine wpAnyH_ready (rs := [8]) (by kernel_rfl) (by simp) ?_
      refine AllReadyH.cons rfl (fun K hK => ?_) AllReadyH.nil
      go_simp
      refine (kchain_to HD.out (ends_chain HKO.out _) (HPV.out.below h3) hI8 (by omega)).mono ?_
      rintro e wA ⟨rfl, hb⟩
      have hT4 := owns_below hT3 hb
      refine hK.out _ _ (On.step h3 hb) (fun h4 => ?_)
      clear hK K hb hT3 hI8
      try simp only [Act.put, List.setIfInBounds_toArray, List.set_cons_zero, List.set_cons_succ, List.getElem_toArray, List.getElem_cons_succ, List.getElem_cons_zero]
      refine wpAnyH_take (i := 9) (v := ?_) rfl (by kernel_rfl) (by kernel_rfl) (by kernel_rfl) (fun _ _ _ h => h) (Or.inl ⟨by rfl, ?_⟩) h4 ?_
      rotate_left
      · intro w hSw; (try dsimp only at hSw); go_simp; with_reducible rfl
      try simp only [Act.put, List.setIfInBounds_toArray, List.set_cons_zero, List.set_cons_succ, List.getElem_toArray, List.getElem_cons_succ, List.getElem_cons_zero]
      refine wpAnyH_take (i := 10) (v := ?_) rfl (by kernel_rfl) (by kernel_rfl) (by kernel_rfl) (fun _ _ _ h => h) (Or.inl ⟨by rfl, ?_⟩) h4 ?_
      rotate_left
      · intro w hSw; (try dsimp only at hSw); go_simp; with_reducible rfl
      try simp only [Act.put, List.setIfInBounds_toArray, List.set_cons_zero, List.set_cons_succ, List.getElem_toArray, List.getElem_cons_succ, List.getElem_cons_zero]
      refine wpAnyH_take (i := 11) (v := ?_) rfl (by kernel_rfl) (by kernel_rfl) (by kernel_rfl) (fun _ _ _ h => h) (Or.inl ⟨by rfl, ?_⟩) h4 ?_
      rotate_left
      · intro w hSw; (try dsimp only at hSw); go_simp; with_reducible rfl
      try simp only [Act.put, List.setIfInBounds_toArray, List.set_cons_zero, List.set_cons_succ, List.getElem_toArray, List.getElem_cons_succ, List.getElem_cons_zero]
      refine wpAnyH_take (i := 12) (v := ?_) rfl (by kernel_rfl) (by kernel_rfl) (by kernel_rfl) (fun _ _ _ h => h) (Or.inl ⟨by rfl, ?_⟩) h4 ?_
      rotate_left
      · intro w hSw; (try dsimp only at hSw); go_simp; with_reducible rfl
      try simp only [Act.put, List.setIfInBounds_toArray, List.set_cons_zero, List.set_cons_succ, List.getElem_toArray, List.getElem_cons_succ, List.getElem_cons_zero]
      refine wpAnyH_take (i := 13) (v := ?_) rfl (by kernel_rfl) (by kernel_rfl) (by kernel_rfl) (fun _ _ _ h => h) (Or.inl ⟨by rfl, ?_⟩) h4 ?_
      rotate_left
      · intro w hSw; (try dsimp only at hSw); go_simp; with_reducible rfl
      try simp only [Act.put, List.setIfInBounds_toArray, List.set_cons_zero, List.set_cons_succ, List.getElem_toArray, List.getElem_cons_succ, List.getElem_cons_zero]
      refine wpAnyH_take (i := 14) (v := ?_) rfl (by kernel_rfl) (by kernel_rfl) (by kernel_rfl) (fun _ _ _ h => h) (Or.inl ⟨by rfl, ?_⟩) h4 ?_
      rotate_left
      · intro w hSw; (try dsimp only at hSw); go_simp; with_reducible rfl
      try simp only [Act.put, List.setIfInBounds_toArray, List.set_cons_zero, List.set_cons_succ, List.getElem_toArray, List.getElem_cons_succ, List.getElem_cons_zero]
      refine wpAnyH_ready (rs := [15]) (by kernel_rfl) (by simp) ?_
      refine AllReadyH.cons rfl (fun K hK => ?_) AllReadyH.nil
      refine step_append_cells_w16 _ (by rfl) (.tmp 54) (.tmp 56) _ rfl V.heap.size 3 i0 (.int .i64 0) 1 8 Try.underlying23 hi0 hz0 hz1 hz2 rfl (by decide) (.slice A9 n9 c9) n9 _ rfl hT4 A3 n3 c3 _ rfl (HKV.out.o.below h4 rfl).cells (ints_ones _) (by unfold maxLen; omega) (by omega) h4.size ?_
      intro AB cB wB hownB hg
      have hbk := owns_block hT4
      have hbB : On V wB := below_grown16 h4 hg hbk
      have hIB : Ints wB AB (n9 + n3) ((kinK L of (k0 : Int)).begs.reverse ++ (kinK L of (k0 : Int)).both) := by have h9 := ownsRow_cells hownB; rw [← List.map_append] at h9; exact h9.ints
      refine hK.out _ _ hbB (fun h5 => ?_)
      clear hK K hg hbk hbB hownB hT4
      try simp only [Act.put, List.setIfInBounds_toArray, List.set_cons_zero, List.set_cons_succ, List.getElem_toArray, List.getElem_cons_succ, List.getElem_cons_zero]
      refine wpAnyH_ready (rs := [16]) (by kernel_rfl) (by simp) ?_
      refine AllReadyH.cons rfl (fun K hK => ?_) AllReadyH.nil
      go_simp
      refine (kchain_to HD.out (begs_chain HKO.out _) (HPV.out.below h5) hIB (by omega)).mono ?_
      rintro e w5 ⟨rfl, hb⟩
      refine hK.out _ _ (On.step h5 hb) (fun h6 => ?_)
      clear hK K hb hIB
      try simp only [Act.put, List.setIfInBounds_toArray, List.set_cons_zero, List.set_cons_succ, List.getElem_toArray, List.getElem_cons_succ, List.getElem_cons_zero]
      refine wpAnyH_take (i := 17) (v := ?_) rfl (by kernel_rfl) (by kernel_rfl) (by kernel_rfl) (fun _ _ _ h => h) (Or.inl ⟨by rfl, ?_⟩) h6 ?_
      rotate_left
      · intro w hSw; (try dsimp only at hSw); go_simp; with_reducible rfl
      try simp only [Act.put, List.setIfInBounds_toArray, List.set_cons_zero, List.set_cons_succ, List.getElem_toArray, List.getElem_cons_succ, List.getElem_cons_zero]
      refine wpAnyH_take (i := 18) (v := ?_) rfl (by kernel_rfl) (by kernel_rfl) (by kernel_rfl) (fun _ _ _ h => h) (Or.inl ⟨by rfl, ?_⟩) h6 ?_
      rotate_left
      · intro w hSw; (try dsimp only at hSw); go_simp; with_reducible rfl
      try simp only [Act.put, List.setIfInBounds_toArray, List.set_cons_zero, List.set_cons_succ, List.getElem_toArray, List.getElem_cons_succ, List.getElem_cons_zero]
      refine wpAnyH_done (by kernel_rfl) ?_ _
      have h7 := h6
      clear h0 h1 h2 h3 h4 h5 h6
      skip
      have HO6 := Lib.hid (show On V w5 from h7)
      clear h7 x0 x2 HT HO
      have htx : t = textK of (k0 : Int) := HKV.out.t
      cases k0 with
      | zero =>
        have hz1 : ((0 : Nat) : Int) = 0 := rfl
        obtain rfl : t = -1 := by rw [htx, hz1]; exact textK_first of
        have hz2 : decide ((0 : Int) < 0) = false := rfl
        have hff : (false == false) = true := rfl
        rw [hz1]
        clear htx hz1
        go_wp2_with fail
        refine wp_region_on (by kernel_rfl) (by kernel_rfl) ?_
        repeat (go_big_quiet_step (fail))
        refine wpQuiet_nil ?_
        intro w6 hw'
        obtain ⟨⟨w6', hOn⟩, hw''⟩ := hw'
        obtain rfl : w6 = w6' := hw''
        have HO7 := Lib.hid (On.step HO6.out hOn)
        clear hOn
        have z0 : ∀ p : OnW w6, p.w.cell? ⟨w4.heap.size, 0, none⟩ = some (.slice A1 n1 c1) := OnW.cell ((HXB.out.below HO7.out).2.2 0 _ rfl)
        have z1 : ∀ p : OnW w6, p.w.cell? ⟨w4.heap.size, 1, none⟩ = some (.slice A2 n9 c2) := OnW.cell ((HXB.out.below HO7.out).2.2 1 _ rfl)
        have z3 : ∀ p : OnW w6, p.w.cell? ⟨w4.heap.size, 3, none⟩ = some (.int .i64 (-1)) := OnW.cell ((HXB.out.below HO7.out).2.2 3 _ rfl)
        go_wp2_with fail
        refine wp_region_on (by kernel_rfl) (by kernel_rfl) ?_
        repeat (go_big_quiet_step (first | (go_at_call 7; with_reducible exact Calls.on_of (awake16_any _))))
        refine wpQuiet_nil ?_
        intro w7 hw'
        obtain ⟨⟨w7', hOn⟩, hw''⟩ := hw'
        obtain rfl : w7 = w7' := hw''
        have HO8 := Lib.hid (H5.out.step (On.step HO7.out hOn))
        clear hOn z0 z1 z3
        go_wp2_with fail
        go_ret
        exact ⟨rfl, HO8.out⟩
      | succ j =>
        have hj1 : ((j + 1 : Nat) : Int) = (j : Int) + 1 := by omega
        have hkp : (0 : Int) < (j : Int) + 1 := by omega
        have hkd : decide ((0 : Int) < (j : Int) + 1) = true := decide_eq_true hkp
        by_cases hje : j + 1 < m
        · obtain ⟨a, ha⟩ : ∃ a, of[j + 1]? = some a := ⟨_, List.getElem?_eq_getElem (by have := HLO.out; omega)⟩
          obtain ⟨p, hp⟩ : ∃ p, of[j]? = some p := ⟨_, List.getElem?_eq_getElem (by have := HLO.out; omega)⟩
          obtain ⟨b1', o1, rfl, hb1', c9'⟩ := (HI.out.below (H5.out.step HO6.out) rfl).2.2 (by omega)
          have c1 := c9' (j + 1) hje
          have cp := c9' j (by omega)
          rw [ha, Option.getD_some] at c1
          rw [hp, Option.getD_some] at cp
          have k1 := OnW.cell c1
          have kp := OnW.cell cp
          have HC1 := Lib.hid c1
          have HTX := Lib.hid (show t = if a = p then a else -1 by rw [htx, hj1]; exact textK_at ha hp)
          have HSA := Lib.hid (show a = p → n1 = 0 ∧ n9 = 0 ∧ 0 ≤ a from fun e => by
            subst e
            have g1 : ofAt of (((j + 1 : Nat) : Int) - 1) = some a := by rw [show ((j + 1 : Nat) : Int) - 1 = (j : Int) by omega, ofAt_nat]; exact hp
            have g2 : ofAt of ((j + 1 : Nat) : Int) = some a := by rw [ofAt_nat]; exact ha
            have g3 := kin_same (L := L) g1 g2
            have g4 := HKV.out.e.1
            have g5 := HKV.out.b.1
            rw [g3.1] at g4
            rw [g3.2.1] at g5
            exact ⟨g4.symm, g5.symm, (ofAt_pos HKO.out g2).1⟩)
          have hks : IntKind.i64.wrap ((j : Int) + 1 - 1) = (j : Int) := by rw [Int.add_sub_cancel]; exact IntWalk.i64_in _ (by omega)
          have hjm : (j : Int) < (m : Int) := by omega
          have hjj0 : (0 : Int) ≤ (j : Int) := by omega
          have hjm1 : (j : Int) + 1 < (m : Int) := by omega
          have hjj1 : (0 : Int) ≤ (j : Int) + 1 := by omega
          have hjd : decide ((j : Int) + 1 < (m : Int)) = true := decide_eq_true hjm1
          rw [hj1]
          clear htx hj1 ha hp c9' c1 cp
          by_cases hap : a = p
          · obtain ⟨s1, s2, s3⟩ := HSA.out hap
            obtain rfl : t = a := by rw [HTX.out, if_pos hap]
            subst hap s1 s2
            have haq : (t == t) = true := by simp
            have hge : decide ((0 : Int) ≤ t) = true := decide_eq_true s3
            have htt : (true == true) = true := rfl
            clear HTX HSA
            go_wp2_with fail
            refine wp_region_on (by kernel_rfl) (by kernel_rfl) ?_
            repeat (go_big_quiet_step (fail))
            refine wpQuiet_nil ?_
            intro w6 hw'
            obtain ⟨⟨w6', hOn⟩, hw''⟩ := hw'
            obtain rfl : w6 = w6' := hw''
            have HO7 := Lib.hid (On.step HO6.out hOn)
            have HOQ := Lib.hid (show On w5 w6 from hOn)
            clear hOn k1 kp
            have z0 : ∀ p : OnW w6, p.w.cell? ⟨w4.heap.size, 0, none⟩ = some (.slice A1 0 c1) := OnW.cell ((HXB.out.below HO7.out).2.2 0 _ rfl)
            have z1 : ∀ p : OnW w6, p.w.cell? ⟨w4.heap.size, 1, none⟩ = some (.slice A2 0 c2) := OnW.cell ((HXB.out.below HO7.out).2.2 1 _ rfl)
            have z3 : ∀ p : OnW w6, p.w.cell? ⟨w4.heap.size, 3, none⟩ = some (.int .i64 t) := OnW.cell ((HXB.out.below HO7.out).2.2 3 _ rfl)
            have zc := OnW.cell (On.cell HC1.out w6 HOQ.out)
            go_wp2_with fail
            refine wp_region_on (by kernel_rfl) (by kernel_rfl) ?_
            repeat (go_big_quiet_step (first | (go_at_call 7; with_reducible exact Calls.on_of (awake16_any _))))
            refine wpQuiet_nil ?_
            intro w7 hw'
            obtain ⟨⟨w7', hOn⟩, hw''⟩ := hw'
            obtain rfl : w7 = w7' := hw''
            have HO8 := Lib.hid (H5.out.step (On.step HO7.out hOn))
            clear hOn z0 z1 z3
            go_wp2_with fail
            go_ret
            exact ⟨rfl, HO8.out⟩
          · obtain rfl : t = -1 := by rw [HTX.out, if_neg hap]
            have haq : (a == p) = false := by simpa using hap
            have hff : (false == false) = true := rfl
            clear HTX HSA
            go_wp2_with fail
            refine wp_region_on (by kernel_rfl) (by kernel_rfl) ?_
            repeat (go_big_quiet_step (fail))
            refine wpQuiet_nil ?_
            intro w6 hw'
            obtain ⟨⟨w6', hOn⟩, hw''⟩ := hw'
            obtain rfl : w6 = w6' := hw''
            have HO7 := Lib.hid (On.step HO6.out hOn)
            clear hOn k1 kp
            have z0 : ∀ p : OnW w6, p.w.cell? ⟨w4.heap.size, 0, none⟩ = some (.slice A1 n1 c1) := OnW.cell ((HXB.out.below HO7.out).2.2 0 _ rfl)
            have z1 : ∀ p : OnW w6, p.w.cell? ⟨w4.heap.size, 1, none⟩ = some (.slice A2 n9 c2) := OnW.cell ((HXB.out.below HO7.out).2.2 1 _ rfl)
            have z3 : ∀ p : OnW w6, p.w.cell? ⟨w4.heap.size, 3, none⟩ = some (.int .i64 (-1)) := OnW.cell ((HXB.out.below HO7.out).2.2 3 _ rfl)
            go_wp2_with fail
            refine wp_region_on (by kernel_rfl) (by kernel_rfl) ?_
            repeat (go_big_quiet_step (first | (go_at_call 7; with_reducible exact Calls.on_of (awake16_any _))))
            refine wpQuiet_nil ?_
            intro w7 hw'
            obtain ⟨⟨w7', hOn⟩, hw''⟩ := hw'
            obtain rfl : w7 = w7' := hw''
            have HO8 := Lib.hid (H5.out.step (On.step HO7.out hOn))
            clear hOn z0 z1 z3
            go_wp2_with fail
            go_ret
            exact ⟨rfl, HO8.out⟩
        · obtain rfl : m = j + 1 := by omega
          obtain rfl : t = -1 := by rw [htx]; exact textK_end (by rw [HLO.out]; exact Nat.le_refl _)
          have hjd : decide ((j : Int) + 1 < (j : Int) + 1) = false := decide_eq_false (by omega)
          have hff : (false == false) = true := rfl
          rw [hj1]
          clear htx
          go_wp2_with fail
          refine wp_region_on (by kernel_rfl) (by kernel_rfl) ?_
          repeat (go_big_quiet_step (fail))
          refine wpQuiet_nil ?_
          intro w6 hw'
          obtain ⟨⟨w6', hOn⟩, hw''⟩ := hw'
          obtain rfl : w6 = w6' := hw''
          have HO7 := Lib.hid (On.step HO6.out hOn)
          clear hOn
          have z0 : ∀ p : OnW w6, p.w.cell? ⟨w4.heap.size, 0, none⟩ = some (.slice A1 n1 c1) := OnW.cell ((HXB.out.below HO7.out).2.2 0 _ rfl)
          have z1 : ∀ p : OnW w6, p.w.cell? ⟨w4.heap.size, 1, none⟩ = some (.slice A2 n9 c2) := OnW.cell ((HXB.out.below HO7.out).2.2 1 _ rfl)
          have z3 : ∀ p : OnW w6, p.w.cell? ⟨w4.heap.size, 3, none⟩ = some (.int .i64 (-1)) := OnW.cell ((HXB.out.below HO7.out).2.2 3 _ rfl)
          go_wp2_with fail
          refine wp_region_on (by kernel_rfl) (by kernel_rfl) ?_
          repeat (go_big_quiet_step (first | (go_at_call 7; with_reducible exact Calls.on_of (awake16_any _))))
          refine wpQuiet_nil ?_
          intro w7 hw'
          obtain ⟨⟨w7', hOn⟩, hw''⟩ := hw'
          obtain rfl : w7 = w7' := hw''
          have HO8 := Lib.hid (H5.out.step (On.step HO7.out hOn))
          clear hOn z0 z1 z3
          go_wp2_with fail
          go_ret
          exact ⟨rfl, HO8.out⟩
end Go.Proofs.Ytamakeogaipdiaa
