import Derived.Test.YtikpbgkjghcidaaCells
import Derived.Test.YtikpbgkjghcidaaSlices
import Derived.Maps.AppendAt
/- append onto a row of the call's own, and where the new row lies: in the old one's block, or in the one just made. Nothing of the program stands here. -/
namespace Go.Proofs.Ytikpbgkjghcidaa
open Go.ChangeShapes Go.WideShapes Go.ChangeAt Go.RowKit
set_option linter.unusedVariables false
set_option linter.unusedSimpArgs false
section
variable {P : Program} (w : World)
theorem run_append_cells_at (base : Nat) (t ty e : TypeId) (i : TypeInfo) (z : Value) (size bytes : Nat) (ht : P.underlying t = some (.slice e)) (hi : P.info? e = some i) (hz : i.zero = some z)
    (hsize : i.size = size) (hby : i.bytes = bytes) (hzs : z.cells.size = size) (hsz : 0 < size)
    (v : Value) (n : Nat) (xs : List Value) (hown : w.ownsRow base e size v n xs) (A : Option Addr) (m c : Nat) (news : List Value) (hm : 0 < m) (hc : Cells w A m size news) (h1 : ∀ u ∈ news, u.oneCell' = true)
    (h63 : n + m ≤ maxLen) (hbytes : (n + m) * bytes ≤ 140737488355328) (hbase : base ≤ w.heap.size) :
    ∃ A' c' w', (Builtin.append_ #[t, t] ty #[v, .slice A m c]).run P w = .ok (.slice A' (n + m) c') w' ∧ w'.ownsRow base e size (.slice A' (n + m) c') (n + m) (xs ++ news) ∧ w.grownBy w' v.ownBlock ∧
      ((Value.slice A' (n + m) c').ownBlock = v.ownBlock ∨ (Value.slice A' (n + m) c').ownBlock = some w.heap.size) := by
  obtain ⟨b, off, rfl, _, hcell⟩ := hc.2.2 hm
  obtain ⟨v', w', hr, h2, h3, _, h5⟩ := run_append_own_at (P := P) w base t ty e i z size bytes ht hi hz hsize hby hzs hsz v n xs hown ⟨b, off, none⟩ m c news hc.1 (fun j u hu => by rw [add_plain]; exact hcell j u hu) h1 h63 hbytes hbase
  obtain ⟨A', c', rfl⟩ := ownsRow_form h2
  exact ⟨A', c', w', hr, h2, h3, h5⟩
end
theorem wpList_append_cells_at {P : Program} {w : World} {ops : Array Oper} {rest : List Oper} {o : Oper} {a : Act} {Q : Exit → Act → World → Prop} (hgd : o.guard = none) (s x : Operand) (t : TypeId)
    (ho : o.op = .call { callee := .builtin .append, args := #[s, x], argTypes := #[t, t] })
    (base : Nat) (e : TypeId) (i : TypeInfo) (z : Value) (size bytes : Nat) (ht : P.underlying t = some (.slice e)) (hi : P.info? e = some i) (hz : i.zero = some z)
    (hsize : i.size = size) (hby : i.bytes = bytes) (hzs : z.cells.size = size) (hsz : 0 < size)
    (v : Value) (n : Nat) (xs : List Value) (hs : a.eval s = v) (hown : w.ownsRow base e size v n xs)
    (A : Option Addr) (m c : Nat) (news : List Value) (hm : 0 < m) (hx : a.eval x = .slice A m c) (hc : Cells w A m size news) (h1 : ∀ u ∈ news, u.oneCell' = true)
    (h63 : n + m ≤ maxLen) (hbytes : (n + m) * bytes ≤ 140737488355328) (hbase : base ≤ w.heap.size)
    (h : ∀ A' c' w', w'.ownsRow base e size (.slice A' (n + m) c') (n + m) (xs ++ news) → w.grownBy w' v.ownBlock → ((Value.slice A' (n + m) c').ownBlock = v.ownBlock ∨ (Value.slice A' (n + m) c').ownBlock = some w.heap.size) → wpList P ops Q rest (a.put o.dst (.slice A' (n + m) c')) w') : wpList P ops Q (o :: rest) a w := by
  obtain ⟨A', c', w', hr, h2, h3, h4⟩ := run_append_cells_at (P := P) w base t o.type e i z size bytes ht hi hz hsize hby hzs hsz v n xs hown A m c news hm hc h1 h63 hbytes hbase
  refine wpList_plain hgd fun _ hK => ?_
  unfold Oper.wp execOp
  simp only [ho, resolve, invoke, builtin, Sem.run_bind, Sem.run_pure, Result.andThen_ok, List.map_toArray, List.map_cons, List.map_nil, hs, hx, hr]
  exact hK _ _ (h A' c' w' h2 h3 h4)
/-- two rows apart. -/
def Apart (A : Option Addr) (n c : Nat) (B : Option Addr) (m d : Nat) : Prop := ∀ r, (Value.slice A n c).ownBlock = some r → (Value.slice B m d).ownBlock ≠ some r
theorem Apart.symm {A B : Option Addr} {n c m d : Nat} (h : Apart A n c B m d) : Apart B m d A n c := fun r h1 h2 => h r h2 h1
/-- the first row has grown. -/
theorem Apart.left {w : World} {A B A' : Option Addr} {n c m d n' c' : Nat} {base size q : Nat} {e : TypeId} {xs : List Value} (h : Apart A n c B m d) (hB : w.ownsRow base e size (.slice B m d) q xs)
    (h5 : (Value.slice A' n' c').ownBlock = (Value.slice A n c).ownBlock ∨ (Value.slice A' n' c').ownBlock = some w.heap.size) : Apart A' n' c' B m d := by
  intro r h1 h2
  rcases h5 with h5 | h5
  · rw [h5] at h1; exact h r h1 h2
  · rw [h5] at h1
    injection h1 with h1
    have := owns_block_lt hB r h2
    omega
theorem Apart.nil {B : Option Addr} {m d : Nat} : Apart none 0 0 B m d := fun r h => by cases h
/-- another row than the one that has grown stays. -/
theorem owns_other {w w' : World} {A B : Option Addr} {n c m d : Nat} {base size q : Nat} {e : TypeId} {xs : List Value} (h : Apart A n c B m d) (hB : w.ownsRow base e size (.slice B m d) q xs) (hg : w.grownBy w' (Value.slice A n c).ownBlock) :
    w'.ownsRow base e size (.slice B m d) q xs := by
  refine ⟨hB.1, ?_⟩
  rcases hB.2 with h2 | ⟨g, cap, cur, h1, h2, h3, h4⟩
  · exact .inl h2
  · have hgb : (Value.slice B m d).ownBlock = some g := by rw [h1]; rfl
    exact .inr ⟨g, cap, cur, h1, h2, (hg.block g (Array.getElem?_eq_some_iff.1 h3).1 (fun e => h.symm g hgb e.symm)).trans h3, h4⟩
end Go.Proofs.Ytikpbgkjghcidaa
