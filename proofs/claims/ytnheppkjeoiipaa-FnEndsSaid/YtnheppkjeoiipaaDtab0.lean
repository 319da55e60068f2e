/-
  Draws of keys, addresses, acts.
-/
import Derived.Test.YtnheppkjeoiipaaLawBase
namespace Go.Proofs.Ytnheppkjeoiipaa
open Go.RowKit Go.PlainAid
theorem OnlyC {b g j : Nat} {w w' : World} (h : Only b w w') (hg : g < w.heap.size) (hne : g ≠ b) : w'.cell? ⟨g, j, none⟩ = w.cell? ⟨g, j, none⟩ := World.cell?_of_block (h.block g hg (by simp; omega))
theorem below_onlyT {b : Nat} {w w' : World} (h : Below w.heap.size w w') : Only b w w' := ⟨h.os, h.tape, h.output, h.size, fun i hi _ => h.block i hi⟩
theorem only_far {b : Nat} {w w1 w' : World} (h : Only b w w1) (hb : Below w.heap.size w1 w') : Only b w w' :=
  ⟨hb.os.trans h.os, hb.tape.trans h.tape, hb.output.trans h.output, Nat.le_trans h.size hb.size, fun i hi hne => (hb.block i hi).trans (h.block i hi hne)⟩
end Go.Proofs.Ytnheppkjeoiipaa
