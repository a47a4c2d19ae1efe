import Derived.Test.YtikpbgkjghcidaaBoxes
import Derived.Deep.QuietTactic
/- Regions that draw their order, that only read, and whose callees read, draw and make memory: one walk, in the worlds behind W. Nothing of the program stands here. -/
namespace Go.Proofs.Ytikpbgkjghcidaa
open Go.RowKit
set_option linter.unusedVariables false
set_option linter.unusedSimpArgs false
/-- a world behind W, as one thing. -/
structure OnW (W : World) where
  w : World
  h : On W w
instance (W : World) : Inhabited (OnW W) := ⟨⟨W, On.refl W⟩⟩
theorem wp_region_on {P : Program} {id : Nat} {Q : Exit → Act → World → Prop} {a : Act} {W : World} {l : List Oper} (hm : P.follows .mixedOrders = true) (hB : Region.lexB .any l.toArray = true)
    (h : wpQuiet P l.toArray (fun w' => ∃ p : OnW W, w' = p.w) (fun a' => ∀ w', (∃ p : OnW W, w' = p.w) → Q .normal a' w') l a) : (Code.region id l.toArray true).wp P Q a W :=
  wp_region_quiet (C := fun w' => ∃ p : OnW W, w' = p.w) hm hB ⟨⟨W.drew, (On.refl W).drew⟩, rfl⟩ (by simpa using h)
theorem OnW.cell {W : World} {a : Addr} {v : Value} (h : W.cell? a = some v) (p : OnW W) : p.w.cell? a = some v := On.cell h p.w p.h
theorem OnW.of1 {W : World} {n : Nat} {a : Value} (h : Box W n [a]) : ∀ p : OnW W, p.w.cell? ⟨n, 0, none⟩ = some a := fun p => OnW.cell (h.2.2 0 _ rfl) p
theorem OnW.of2 {W : World} {n : Nat} {a b : Value} (h : Box W n [a, b]) : (∀ p : OnW W, p.w.cell? ⟨n, 0, none⟩ = some a) ∧ (∀ p : OnW W, p.w.cell? ⟨n, 1, none⟩ = some b) := ⟨fun p => OnW.cell (h.2.2 0 _ rfl) p, fun p => OnW.cell (h.2.2 1 _ rfl) p⟩
/-- a callee's contract, met in a world behind W. -/
theorem Calls.on_of {P : Program} {f : FuncId} {args : Array Value} {W : World} {p : OnW W} {v : Value}
    (h : Calls P f args p.w fun e w' => e = .returned v ∧ Below p.w.heap.size p.w w') : Calls P f args p.w fun e w'' => e = .returned v ∧ ∃ q : OnW W, w'' = q.w :=
  h.mono fun _ w' ⟨he, hb⟩ => ⟨he, ⟨w', p.h.step hb⟩, rfl⟩
theorem On.alloc {W w : World} (h : On W w) (o : Obj) : On W (w.alloc o) := Below.alloc h h.size o
theorem On.set {W w : World} {n j : Nat} (h : On W w) (hn : W.heap.size ≤ n) (v : Value) : On W (w.setCell ⟨n, j, none⟩ v) := Below.setCell h hn v
end Go.Proofs.Ytikpbgkjghcidaa
