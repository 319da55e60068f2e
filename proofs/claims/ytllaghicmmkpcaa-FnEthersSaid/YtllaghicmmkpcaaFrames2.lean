/-
  Contracts of what the exact laws on frames do: sizes, copies, comparisons.
-/
import Derived.Test.YtllaghicmmkpcaaFrames1
namespace Go.Proofs.Ytllaghicmmkpcaa
open Go.RowKit Go.PlainAid

theorem bcell {W w1 : World} (hb : Below W.heap.size W w1) : (∀ b o, b < W.heap.size → w1.cell? ⟨b, o, none⟩ = W.cell? ⟨b, o, none⟩) ∧ (∀ b o, b < W.heap.size → w1.frozen? ⟨b, o, none⟩ = W.frozen? ⟨b, o, none⟩) :=
  ⟨fun b o h => hb.cell (p := ⟨b, o, none⟩) h, fun b o h => hb.frozen (p := ⟨b, o, none⟩) h⟩

theorem take_set (l : List Int) (k : Nat) (h : k < l.length) : (l.take k ++ List.replicate (l.length - k) 0).set k (ia l k) = l.take (k + 1) ++ List.replicate (l.length - (k + 1)) 0 := by
  rw [List.take_succ_eq_append_getElem h, ia_eq l k h, show l.length - k = (l.length - (k + 1)) + 1 by omega, List.replicate_succ]
  rw [List.set_append_right _ _ (by simp; omega)]
  have e : k - (l.take k).length = 0 := by simp; omega
  rw [e, List.append_assoc]; rfl

theorem ownI.mono {w : World} {B B' : Nat} {v : Value} {l : List Int} (h : ownI w B v l) (hB : B' ≤ B) : ownI w B' v l := by
  obtain ⟨h1, h2⟩ := h
  refine ⟨h1, ?_⟩
  rcases h2 with h2 | ⟨g, cap, cur, e, hb, r⟩
  · exact .inl h2
  · exact .inr ⟨g, cap, cur, e, Nat.le_trans hB hb, r⟩
theorem ownI.aside {w : World} {B g n cap : Nat} {l : List Int} (h : ownI w B (.slice (some ⟨g, 0, none⟩) n cap) l) {b j : Nat} (hb : b ≠ g) (u : Value) : ownI (w.setCell ⟨b, j, none⟩ u) B (.slice (some ⟨g, 0, none⟩) n cap) l :=
  ownsRow_setCell_other h (by simp [Value.ownBlock]; omega) u

/-- two lists compared, number by number -/
def eqI (l m : List Int) : Bool := decide (l = m)
end Go.Proofs.Ytllaghicmmkpcaa
