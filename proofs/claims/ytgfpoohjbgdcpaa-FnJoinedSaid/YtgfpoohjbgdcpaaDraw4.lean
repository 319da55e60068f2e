/-
  Contracts of texts that are hurt, and of the digits that are drawn.
-/
import Derived.Test.YtgfpoohjbgdcpaaDraw3
import Derived.Test.YtgfpoohjbgdcpaaWalks6
import Derived.Test.YtgfpoohjbgdcpaaStrs
import Derived.Deep.RegionWith
namespace Go.Proofs.Ytgfpoohjbgdcpaa
open Go.RowKit

/-- two tables of four texts of one byte -/
abbrev tabA : Array Value := #[.string ⟨#[0]⟩, .string ⟨#[55]⟩, .string ⟨#[255]⟩, .string ⟨#[32]⟩]
abbrev tabB : Array Value := #[.string ⟨#[0]⟩, .string ⟨#[49]⟩, .string ⟨#[10]⟩, .string ⟨#[32]⟩]
theorem tabA_at (z : Nat) (h : z < 4) : ∃ v : ByteArray, v.size ≤ 1 ∧ tabA[z]? = some (.string v) := by
  have : z = 0 ∨ z = 1 ∨ z = 2 ∨ z = 3 := by omega
  rcases this with rfl | rfl | rfl | rfl <;> exact ⟨_, by decide, rfl⟩
theorem tabB_at (z : Nat) (h : z < 4) : ∃ v : ByteArray, v.size ≤ 1 ∧ tabB[z]? = some (.string v) := by
  have : z = 0 ∨ z = 1 ∨ z = 2 ∨ z = 3 := by omega
  rcases this with rfl | rfl | rfl | rfl <;> exact ⟨_, by decide, rfl⟩
theorem alloc_at (W : World) (T : Array Value) (t : TypeId) (z : Nat) (v : Value) (h : T[z]? = some v) : (W.alloc (.cells T t)).cell? ⟨W.heap.size, z, none⟩ = some v := by
  rw [World.cell?_alloc_mark]; exact h

theorem after_call {b : Nat} {w2 w3 : World} {T : Array Value} {t : TypeId} {Z : Nat} {v : Value} (hO3 : Only b (w2.alloc (.cells T t)).drew w3) (hb : b < w2.heap.size) (hvc : T[Z]? = some v) : w3.cell? ⟨w2.heap.size, Z, none⟩ = some v := by
  have h := hO3.cell (g := w2.heap.size) (j := Z) (by show _ < (w2.alloc _).heap.size; simp) (by omega)
  exact h.trans (alloc_at w2 T t Z v hvc)
theorem RdI.far {w w' : World} {b : Nat} {C : Option Addr} {len cap : Nat} (h : RdI w b C len cap) (hb : Below w.heap.size w w') : RdI w' b C len cap := h.kept (hb.mono (by have := h.lt; omega))
theorem Only.far {b : Nat} {w w' w'' : World} (h : Only b w w') (k : Below w'.heap.size w' w'') : Only b w w'' := h.beyond (B := w'.heap.size) h.size k

end Go.Proofs.Ytgfpoohjbgdcpaa
