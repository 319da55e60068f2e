/-
  Contracts of IpOk, of the program and of the model.
-/
import Derived.Test.YteflhnmoceppgaaDoorIps1
namespace Go.Proofs.YteflhnmoceppgaaDoor
open Go.RowKit Go.PlainAid
theorem size_head (o : ByteArray) (d : ByteArray) : (20 + o.size + d.size ≤ 65535) ↔ 20 + (o.size : Int) + (d.size : Int) ≤ 65535 := by omega
theorem first8 (b0 b1 b2 b3 b4 b5 b6 b7 : Bool) : b0 = false ∨ b0 = true ∧ b1 = false ∨ b0 = true ∧ b1 = true ∧ b2 = false ∨ b0 = true ∧ b1 = true ∧ b2 = true ∧ b3 = false ∨ b0 = true ∧ b1 = true ∧ b2 = true ∧ b3 = true ∧ b4 = false ∨ b0 = true ∧ b1 = true ∧ b2 = true ∧ b3 = true ∧ b4 = true ∧ b5 = false ∨ b0 = true ∧ b1 = true ∧ b2 = true ∧ b3 = true ∧ b4 = true ∧ b5 = true ∧ b6 = false ∨ b0 = true ∧ b1 = true ∧ b2 = true ∧ b3 = true ∧ b4 = true ∧ b5 = true ∧ b6 = true ∧ b7 = false ∨ b0 = true ∧ b1 = true ∧ b2 = true ∧ b3 = true ∧ b4 = true ∧ b5 = true ∧ b6 = true ∧ b7 = true := by
  cases b0 <;> cases b1 <;> cases b2 <;> cases b3 <;> cases b4 <;> cases b5 <;> cases b6 <;> cases b7 <;> decide
theorem first7 (b0 b1 b2 b3 b4 b5 b6 : Bool) : b0 = false ∨ b0 = true ∧ b1 = false ∨ b0 = true ∧ b1 = true ∧ b2 = false ∨ b0 = true ∧ b1 = true ∧ b2 = true ∧ b3 = false ∨ b0 = true ∧ b1 = true ∧ b2 = true ∧ b3 = true ∧ b4 = false ∨ b0 = true ∧ b1 = true ∧ b2 = true ∧ b3 = true ∧ b4 = true ∧ b5 = false ∨ b0 = true ∧ b1 = true ∧ b2 = true ∧ b3 = true ∧ b4 = true ∧ b5 = true ∧ b6 = false ∨ b0 = true ∧ b1 = true ∧ b2 = true ∧ b3 = true ∧ b4 = true ∧ b5 = true ∧ b6 = true := by
  cases b0 <;> cases b1 <;> cases b2 <;> cases b3 <;> cases b4 <;> cases b5 <;> cases b6 <;> decide
end Go.Proofs.YteflhnmoceppgaaDoor
