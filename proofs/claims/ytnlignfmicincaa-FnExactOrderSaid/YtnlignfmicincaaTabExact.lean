/-
  Rows of the record Exact: what is read of them, what the exact laws do with them.
-/
import Derived.Test.YtnlignfmicincaaRecs
namespace Go.Proofs.Ytnlignfmicincaa
open Go.RowKit Go.PlainAid
structure ExV where
  key : Int
  act : Int
def exL (a : ExV) : Array Value := #[.int .i64 a.key, .int .i64 a.act]
def exI (a : ExV) : List Int := [a.key, a.act]
def exF (l : List ExV) : List Int := l.flatMap exI
def exA (l : List ExV) (i : Nat) : ExV := l.getD i ⟨0, 0⟩
theorem exF_len (l : List ExV) : (exF l).length = l.length * 2 := by
  induction l with
  | nil => rfl
  | cons a l ih =>
    have e : exF (a :: l) = exI a ++ exF l := rfl
    rw [e, List.length_append, ih, List.length_cons]
    simp [exI]; omega
theorem exF_at (l : List ExV) (i : Nat) (h : i < l.length) : ia (exF l) (i * 2) = (exA l i).key ∧ ia (exF l) (i * 2 + 1) = (exA l i).act := by
  induction l generalizing i with
  | nil => simp at h
  | cons a l ih =>
    have e : exF (a :: l) = exI a ++ exF l := rfl
    cases i with
    | zero => simp [e, exI, ia, exA]
    | succ i =>
      have := ih i (by simpa using h)
      have e2 : (i + 1) * 2 = i * 2 + 2 := by omega
      have e3 : ∀ j, ia (exI a ++ exF l) (i * 2 + 2 + j) = ia (exF l) (i * 2 + j) := fun j => by
        rw [show i * 2 + 2 + j = (exI a).length + (i * 2 + j) from by simp [exI]; omega]; exact ia_app _ _ _
      rw [e, e2]
      exact ⟨(e3 0).trans this.1, (e3 1).trans this.2⟩
theorem exA_eq (l : List ExV) (i : Nat) (h : i < l.length) : exA l i = l[i] := by simp [exA, List.getD, h]
theorem ex_cells {w : World} {g off : Nat} {l : List ExV} (hc : ∀ i, i < (exF l).length → w.cell? ⟨g, off + i, none⟩ = some (.int .i64 (ia (exF l) i))) (i : Nat) (h : i < l.length) :
    w.cell? ⟨g, off + i * 2, none⟩ = some (.int .i64 (exA l i).key) ∧ w.cell? ⟨g, off + i * 2 + 1, none⟩ = some (.int .i64 (exA l i).act) := by
  have hl := exF_len l
  have ha := exF_at l i h
  refine ⟨?_, ?_⟩
  · rw [← ha.1]; exact hc (i * 2) (by omega)
  · rw [← ha.2, Nat.add_assoc]; exact hc (i * 2 + 1) (by omega)
theorem ex_below {w w' : World} {g off i : Nat} {l : List ExV} (hb : Below w.heap.size w w') (hg : g < w.heap.size) (h : w.cell? ⟨g, off + i * 2, none⟩ = some (.int .i64 (exA l i).key) ∧ w.cell? ⟨g, off + i * 2 + 1, none⟩ = some (.int .i64 (exA l i).act)) :
    w'.cell? ⟨g, off + i * 2, none⟩ = some (.int .i64 (exA l i).key) ∧ w'.cell? ⟨g, off + i * 2 + 1, none⟩ = some (.int .i64 (exA l i).act) := ⟨(hb.cell (p := ⟨g, off + i * 2, none⟩) hg).trans h.1, (hb.cell (p := ⟨g, off + i * 2 + 1, none⟩) hg).trans h.2⟩
theorem exF_take (l : List ExV) (j : Nat) (h : j < l.length) : exF (l.take (j + 1)) = exF (l.take j) ++ exI (exA l j) := by
  rw [List.take_succ_eq_append_getElem h, exA_eq l j h]; simp only [exF, List.flatMap_append, List.flatMap_cons, List.flatMap_nil, List.append_nil]
theorem ex_fill (l : List ExV) (j : Nat) (h : j < l.length) : (((exF (l.take j) ++ List.replicate ((l.length - j) * 2) 0).set (j * 2) (exA l j).key).set (j * 2 + 1) (exA l j).act) = exF (l.take (j + 1)) ++ List.replicate ((l.length - (j + 1)) * 2) 0 := by
  have e1 : (exF (l.take j)).length = j * 2 := by rw [exF_len, List.length_take]; congr 1; omega
  have e2 : (l.length - j) * 2 = (l.length - (j + 1)) * 2 + 2 := by omega
  rw [exF_take l j h, e2]
  generalize (l.length - (j + 1)) * 2 = m
  have e3 : List.replicate (m + 2) (0 : Int) = 0 :: 0 :: List.replicate m 0 := rfl
  rw [e3]
  generalize exF (l.take j) = a at *
  simp [← e1, exI]
theorem exF_app (l m : List ExV) : exF (l ++ m) = exF l ++ exF m := by simp [exF]
theorem Try.infExact : Inf 24 52 2 := ⟨Try.underlying24, by kernel_rfl, by decide, by decide⟩
end Go.Proofs.Ytnlignfmicincaa
