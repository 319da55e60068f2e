/-
  append of a whole slice of int64 onto a row of the call's own.
-/
import Derived.Test.YtlpapncgcgllfaaInts
import Derived.Laws.AppendOwnNone
namespace Go.Proofs.Ytlpapncgcgllfaa
open Go.RowKit Go.PlainAid
/-- the value v is a slice that reads as the numbers k: nil, or at an address -/
def Src (w : World) (v : Value) (k : List Int) : Prop :=
  (v = .slice none 0 0 ∧ k = []) ∨ ∃ (ad : Addr) (c : Nat), v = .slice (some ad) k.length c ∧ (k = [] ∨ ad.block < w.heap.size) ∧ ∀ i, i < k.length → w.cell? (ad.add i) = some (.int .i64 (ia k i))
theorem addr_add_cases (ad : Addr) (i : Nat) : (ad.add i).block = ad.block := by unfold Addr.add; split <;> rfl
theorem Src.below {w w' : World} {v : Value} {k : List Int} (h : Src w v k) (hb : Below w.heap.size w w') : Src w' v k := by
  rcases h with h | ⟨ad, c, e, hg, hc⟩
  · exact .inl h
  · refine .inr ⟨ad, c, e, ?_, fun i hi => ?_⟩
    · rcases hg with hg | hg
      · exact .inl hg
      · exact .inr (Nat.lt_of_lt_of_le hg hb.size)
    · rcases hg with rfl | hg
      · simp at hi
      · exact (hb.cell (p := ad.add i) (by rw [addr_add_cases]; exact hg)).trans (hc i hi)
theorem Src.alloc {w : World} {v : Value} {k : List Int} (h : Src w v k) (o : Obj) : Src (w.alloc o) v k := h.below ((Below.refl _ w).alloc (Nat.le_refl _) o)
theorem Src.belowN {w w' : World} {v : Value} {k : List Int} {N : Nat} (h : Src w v k) (hN : w.heap.size = N) (hb : Below N w w') : Src w' v k := by subst hN; exact h.below hb
theorem icells_mem {k : List Int} : ∀ u ∈ icells k, u.oneCell' = true := by
  intro u hu; unfold icells at hu; simp at hu; obtain ⟨c, _, rfl⟩ := hu; rfl
theorem wpList_append_src {w : World} {ops : Array Oper} {rest : List Oper} {o : Oper} {a : Act} {Q : Exit → Act → World → Prop} (hgd : o.guard = none) (s x : Operand)
    (ho : o.op = .call { callee := .builtin .append, args := #[s, x], argTypes := #[22, 22] })
    (B : Nat) (v : Value) (l : List Int) (hs : a.eval s = v) (hown : ownI w B v l) (vx : Value) (k : List Int) (hx : a.eval x = vx) (hsrc : Src w vx k)
    (hl : l.length + k.length ≤ 8796093022208) (hB : B ≤ w.heap.size)
    (h : ∀ v' w', ownI w' B v' (l ++ k) → Below B w w' → wpList Try.prog ops Q rest (a.put o.dst v') w') : wpList Try.prog ops Q (o :: rest) a w := by
  obtain ⟨i0, hi, hz0, hz1, hz2⟩ := info_parts Try.infoI
  rcases hsrc with ⟨rfl, rfl⟩ | ⟨ad, c, rfl, _, hc⟩
  · refine wpList_append_own_none hgd s x 22 ho B 2 i0 1 Try.underlying22 hi v l.length (icells l) hs hown hx ?_
    exact h v w (by simpa using hown) (Below.refl _ _)
  · refine wpList_append_own w hgd s x 22 ho B 2 i0 (.int .i64 0) 1 8 Try.underlying22 hi hz0 hz1 hz2 rfl (by decide) v l.length (icells l) hs hown ad k.length c (icells k) hx (by simp [icells]) ?_ icells_mem (by unfold maxLen; omega) (by omega) hB ?_
    · intro j u hj
      have hj' : j < k.length := by
        rcases Nat.lt_or_ge j k.length with h | h
        · exact h
        · simp [icells, List.getElem?_eq_none (show (k.map fun c => Value.int .i64 c).length ≤ j by simpa using h)] at hj
      rw [icells_at k j hj'] at hj
      rw [hc j hj']; exact hj
    · intro v' w' h2 h3 _
      refine h v' w' ?_ ((Below.refl B w).grown h3 hB fun k hk => (World.ownsRow.lt hown k hk).1)
      unfold ownI
      have e3 : icells (l ++ k) = icells l ++ icells k := by simp [icells]
      rw [e3]; simpa using h2
end Go.Proofs.Ytlpapncgcgllfaa
