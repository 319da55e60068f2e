/-
  A tunnel's kind, asked by a type switch.
-/
import Derived.Test.YtnheppkjeoiipaaLaws
namespace Go.Proofs.Ytnheppkjeoiipaa
open Go.RowKit
theorem as_ge_ge (v : Value) (w : World) : (Instr.typeAssert (.iface 54 v) 82 54 true).run Try.prog w = .ok (.tuple #[v, .bool true]) w := by kernel_rfl
theorem as_ge_gr (v : Value) (w : World) : (Instr.typeAssert (.iface 54 v) 82 89 true).run Try.prog w = .ok (.tuple #[.agg #[.bool false, .bool false, .int .i64 0, .bool false, .int .i64 0, .string ⟨#[]⟩, .int .i64 0], .bool false]) w := by kernel_rfl
theorem as_ge_vx (v : Value) (w : World) : (Instr.typeAssert (.iface 54 v) 82 92 true).run Try.prog w = .ok (.tuple #[.agg #[.int .i64 0, .string ⟨#[]⟩], .bool false]) w := by kernel_rfl
theorem as_ge_mp (v : Value) (w : World) : (Instr.typeAssert (.iface 54 v) 82 95 true).run Try.prog w = .ok (.tuple #[.agg #[.slice none 0 0, .string ⟨#[]⟩], .bool false]) w := by kernel_rfl
theorem as_gr_ge (v : Value) (w : World) : (Instr.typeAssert (.iface 89 v) 82 54 true).run Try.prog w = .ok (.tuple #[.agg #[.int .i64 0, .slice none 0 0, .string ⟨#[]⟩], .bool false]) w := by kernel_rfl
theorem as_gr_gr (v : Value) (w : World) : (Instr.typeAssert (.iface 89 v) 82 89 true).run Try.prog w = .ok (.tuple #[v, .bool true]) w := by kernel_rfl
theorem as_gr_vx (v : Value) (w : World) : (Instr.typeAssert (.iface 89 v) 82 92 true).run Try.prog w = .ok (.tuple #[.agg #[.int .i64 0, .string ⟨#[]⟩], .bool false]) w := by kernel_rfl
theorem as_gr_mp (v : Value) (w : World) : (Instr.typeAssert (.iface 89 v) 82 95 true).run Try.prog w = .ok (.tuple #[.agg #[.slice none 0 0, .string ⟨#[]⟩], .bool false]) w := by kernel_rfl
theorem as_vx_ge (v : Value) (w : World) : (Instr.typeAssert (.iface 92 v) 82 54 true).run Try.prog w = .ok (.tuple #[.agg #[.int .i64 0, .slice none 0 0, .string ⟨#[]⟩], .bool false]) w := by kernel_rfl
theorem as_vx_gr (v : Value) (w : World) : (Instr.typeAssert (.iface 92 v) 82 89 true).run Try.prog w = .ok (.tuple #[.agg #[.bool false, .bool false, .int .i64 0, .bool false, .int .i64 0, .string ⟨#[]⟩, .int .i64 0], .bool false]) w := by kernel_rfl
theorem as_vx_vx (v : Value) (w : World) : (Instr.typeAssert (.iface 92 v) 82 92 true).run Try.prog w = .ok (.tuple #[v, .bool true]) w := by kernel_rfl
theorem as_vx_mp (v : Value) (w : World) : (Instr.typeAssert (.iface 92 v) 82 95 true).run Try.prog w = .ok (.tuple #[.agg #[.slice none 0 0, .string ⟨#[]⟩], .bool false]) w := by kernel_rfl
theorem as_mp_ge (v : Value) (w : World) : (Instr.typeAssert (.iface 95 v) 82 54 true).run Try.prog w = .ok (.tuple #[.agg #[.int .i64 0, .slice none 0 0, .string ⟨#[]⟩], .bool false]) w := by kernel_rfl
theorem as_mp_gr (v : Value) (w : World) : (Instr.typeAssert (.iface 95 v) 82 89 true).run Try.prog w = .ok (.tuple #[.agg #[.bool false, .bool false, .int .i64 0, .bool false, .int .i64 0, .string ⟨#[]⟩, .int .i64 0], .bool false]) w := by kernel_rfl
theorem as_mp_vx (v : Value) (w : World) : (Instr.typeAssert (.iface 95 v) 82 92 true).run Try.prog w = .ok (.tuple #[.agg #[.int .i64 0, .string ⟨#[]⟩], .bool false]) w := by kernel_rfl
theorem as_mp_mp (v : Value) (w : World) : (Instr.typeAssert (.iface 95 v) 82 95 true).run Try.prog w = .ok (.tuple #[v, .bool true]) w := by kernel_rfl
end Go.Proofs.Ytnheppkjeoiipaa
