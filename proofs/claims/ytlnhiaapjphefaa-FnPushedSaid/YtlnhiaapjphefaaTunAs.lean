/-
  A tunnel's kind, asked by a type switch.
-/
import Derived.Test.YtlnhiaapjphefaaLaws
namespace Go.Proofs.Ytlnhiaapjphefaa
open Go.RowKit
theorem as_ge_ge (v : Value) (w : World) : (Instr.typeAssert (.iface 83 v) 106 83 true).run Try.prog w = .ok (.tuple #[v, .bool true]) w := by kernel_rfl
theorem as_ge_gr (v : Value) (w : World) : (Instr.typeAssert (.iface 83 v) 106 89 true).run Try.prog w = .ok (.tuple #[.agg #[.bool false, .bool false, .int .i64 0, .bool false, .int .i64 0, .string ⟨#[]⟩, .int .i64 0], .bool false]) w := by kernel_rfl
theorem as_ge_vx (v : Value) (w : World) : (Instr.typeAssert (.iface 83 v) 106 68 true).run Try.prog w = .ok (.tuple #[.agg #[.int .i64 0, .string ⟨#[]⟩], .bool false]) w := by kernel_rfl
theorem as_ge_mp (v : Value) (w : World) : (Instr.typeAssert (.iface 83 v) 106 96 true).run Try.prog w = .ok (.tuple #[.agg #[.slice none 0 0, .string ⟨#[]⟩], .bool false]) w := by kernel_rfl
theorem as_gr_ge (v : Value) (w : World) : (Instr.typeAssert (.iface 89 v) 106 83 true).run Try.prog w = .ok (.tuple #[.agg #[.int .i64 0, .slice none 0 0, .string ⟨#[]⟩], .bool false]) w := by kernel_rfl
theorem as_gr_gr (v : Value) (w : World) : (Instr.typeAssert (.iface 89 v) 106 89 true).run Try.prog w = .ok (.tuple #[v, .bool true]) w := by kernel_rfl
theorem as_gr_vx (v : Value) (w : World) : (Instr.typeAssert (.iface 89 v) 106 68 true).run Try.prog w = .ok (.tuple #[.agg #[.int .i64 0, .string ⟨#[]⟩], .bool false]) w := by kernel_rfl
theorem as_gr_mp (v : Value) (w : World) : (Instr.typeAssert (.iface 89 v) 106 96 true).run Try.prog w = .ok (.tuple #[.agg #[.slice none 0 0, .string ⟨#[]⟩], .bool false]) w := by kernel_rfl
theorem as_vx_ge (v : Value) (w : World) : (Instr.typeAssert (.iface 68 v) 106 83 true).run Try.prog w = .ok (.tuple #[.agg #[.int .i64 0, .slice none 0 0, .string ⟨#[]⟩], .bool false]) w := by kernel_rfl
theorem as_vx_gr (v : Value) (w : World) : (Instr.typeAssert (.iface 68 v) 106 89 true).run Try.prog w = .ok (.tuple #[.agg #[.bool false, .bool false, .int .i64 0, .bool false, .int .i64 0, .string ⟨#[]⟩, .int .i64 0], .bool false]) w := by kernel_rfl
theorem as_vx_vx (v : Value) (w : World) : (Instr.typeAssert (.iface 68 v) 106 68 true).run Try.prog w = .ok (.tuple #[v, .bool true]) w := by kernel_rfl
theorem as_vx_mp (v : Value) (w : World) : (Instr.typeAssert (.iface 68 v) 106 96 true).run Try.prog w = .ok (.tuple #[.agg #[.slice none 0 0, .string ⟨#[]⟩], .bool false]) w := by kernel_rfl
theorem as_mp_ge (v : Value) (w : World) : (Instr.typeAssert (.iface 96 v) 106 83 true).run Try.prog w = .ok (.tuple #[.agg #[.int .i64 0, .slice none 0 0, .string ⟨#[]⟩], .bool false]) w := by kernel_rfl
theorem as_mp_gr (v : Value) (w : World) : (Instr.typeAssert (.iface 96 v) 106 89 true).run Try.prog w = .ok (.tuple #[.agg #[.bool false, .bool false, .int .i64 0, .bool false, .int .i64 0, .string ⟨#[]⟩, .int .i64 0], .bool false]) w := by kernel_rfl
theorem as_mp_vx (v : Value) (w : World) : (Instr.typeAssert (.iface 96 v) 106 68 true).run Try.prog w = .ok (.tuple #[.agg #[.int .i64 0, .string ⟨#[]⟩], .bool false]) w := by kernel_rfl
theorem as_mp_mp (v : Value) (w : World) : (Instr.typeAssert (.iface 96 v) 106 96 true).run Try.prog w = .ok (.tuple #[v, .bool true]) w := by kernel_rfl
end Go.Proofs.Ytlnhiaapjphefaa
