/-
  Contracts of what is drawn for the laws of chapter 1.
-/
import Derived.Test.YteflhnmoceppgaaDoorDraw2
namespace Go.Proofs.YteflhnmoceppgaaDoor
open Go.RowKit

/-- a code that was handed in: its bytes lie below block B -/
def Code (w : World) (B : Nat) (C : Option Addr) (len : Nat) : Prop := len ≤ 1048576 ∧ B ≤ w.heap.size ∧ codeAt w B C len
theorem codeAt.mono {w : World} {b b' : Nat} {C : Option Addr} {len : Nat} (h : codeAt w b C len) (hb : b ≤ b') : codeAt w b' C len := by
  rcases h with h | ⟨g, off, h1, h2, h3⟩
  · exact .inl h
  · exact .inr ⟨g, off, h1, by omega, h3⟩
theorem Code.below {w w' : World} {B : Nat} {C : Option Addr} {len : Nat} (h : Code w B C len) (hb : Below B w w') : Code w' B C len :=
  ⟨h.1, Nat.le_trans h.2.1 hb.size, h.2.2.below hb⟩

set_option maxRecDepth 100000 in
theorem r_Open (B : Nat) (C : Option Addr) (len cap : Nat) (w : World) (h : Code w B C len) :
    Calls Tryd.prog 11 #[.slice C len cap] w fun e w' => e = .returned (.pointer (some ⟨w.heap.size, 0, none⟩)) ∧ RdI w' w.heap.size C len cap ∧ Below w.heap.size w w' ∧ w.heap.size < w'.heap.size := by
  obtain ⟨h0, h1, h2⟩ := h
  go_enter Tryd.func11, Tryd.ntmps11
  go_wp2
  go_ret
  have hb : Below w.heap.size w (w.alloc (.cells #[.slice C len cap, .int .i64 0] 43)) := (Below.refl _ w).alloc (Nat.le_refl _) _
  refine ⟨rfl, ⟨by omega, ⟨0, by omega, heap_alloc_new w _⟩, (h2.mono h1).below hb⟩, hb, by simp⟩

end Go.Proofs.YteflhnmoceppgaaDoor
