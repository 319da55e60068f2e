/-
  Rows of the record Label: what is read of them, what the exact laws do with them.
-/
import Derived.Test.YtlnhiaapjphefaaRecs
namespace Go.Proofs.Ytlnhiaapjphefaa
open Go.RowKit Go.PlainAid
structure LbV where
  label : Int
  tc : Int
  ttl : Int
def lbL (a : LbV) : Array Value := #[.int .i64 a.label, .int .i64 a.tc, .int .i64 a.ttl]
def lbI (a : LbV) : List Int := [a.label, a.tc, a.ttl]
def lbF (l : List LbV) : List Int := l.flatMap lbI
def lbA (l : List LbV) (i : Nat) : LbV := l.getD i ⟨0, 0, 0⟩
theorem lbF_len (l : List LbV) : (lbF l).length = l.length * 3 := by
  induction l with
  | nil => rfl
  | cons a l ih =>
    have e : lbF (a :: l) = lbI a ++ lbF l := rfl
    rw [e, List.length_append, ih, List.length_cons]
    simp [lbI]; omega
theorem lbF_at (l : List LbV) (i : Nat) (h : i < l.length) : ia (lbF l) (i * 3) = (lbA l i).label ∧ ia (lbF l) (i * 3 + 1) = (lbA l i).tc ∧ ia (lbF l) (i * 3 + 2) = (lbA l i).ttl := by
  induction l generalizing i with
  | nil => simp at h
  | cons a l ih =>
    have e : lbF (a :: l) = lbI a ++ lbF l := rfl
    cases i with
    | zero => simp [e, lbI, ia, lbA]
    | succ i =>
      have := ih i (by simpa using h)
      have e2 : (i + 1) * 3 = i * 3 + 3 := by omega
      have e3 : ∀ j, ia (lbI a ++ lbF l) (i * 3 + 3 + j) = ia (lbF l) (i * 3 + j) := fun j => by
        rw [show i * 3 + 3 + j = (lbI a).length + (i * 3 + j) from by simp [lbI]; omega]; exact ia_app _ _ _
      rw [e, e2]
      exact ⟨(e3 0).trans this.1, (e3 1).trans this.2.1, (e3 2).trans this.2.2⟩
theorem lbA_eq (l : List LbV) (i : Nat) (h : i < l.length) : lbA l i = l[i] := by simp [lbA, List.getD, h]
theorem lb_cells {w : World} {g off : Nat} {l : List LbV} (hc : ∀ i, i < (lbF l).length → w.cell? ⟨g, off + i, none⟩ = some (.int .i64 (ia (lbF l) i))) (i : Nat) (h : i < l.length) :
    w.cell? ⟨g, off + i * 3, none⟩ = some (.int .i64 (lbA l i).label) ∧ w.cell? ⟨g, off + i * 3 + 1, none⟩ = some (.int .i64 (lbA l i).tc) ∧ w.cell? ⟨g, off + i * 3 + 2, none⟩ = some (.int .i64 (lbA l i).ttl) := by
  have hl := lbF_len l
  have ha := lbF_at l i h
  refine ⟨?_, ?_, ?_⟩
  · rw [← ha.1]; exact hc (i * 3) (by omega)
  · rw [← ha.2.1, Nat.add_assoc]; exact hc (i * 3 + 1) (by omega)
  · rw [← ha.2.2, Nat.add_assoc]; exact hc (i * 3 + 2) (by omega)
theorem lb_below {w w' : World} {g off i : Nat} {l : List LbV} (hb : Below w.heap.size w w') (hg : g < w.heap.size) (h : w.cell? ⟨g, off + i * 3, none⟩ = some (.int .i64 (lbA l i).label) ∧ w.cell? ⟨g, off + i * 3 + 1, none⟩ = some (.int .i64 (lbA l i).tc) ∧ w.cell? ⟨g, off + i * 3 + 2, none⟩ = some (.int .i64 (lbA l i).ttl)) :
    w'.cell? ⟨g, off + i * 3, none⟩ = some (.int .i64 (lbA l i).label) ∧ w'.cell? ⟨g, off + i * 3 + 1, none⟩ = some (.int .i64 (lbA l i).tc) ∧ w'.cell? ⟨g, off + i * 3 + 2, none⟩ = some (.int .i64 (lbA l i).ttl) := ⟨(hb.cell (p := ⟨g, off + i * 3, none⟩) hg).trans h.1, (hb.cell (p := ⟨g, off + i * 3 + 1, none⟩) hg).trans h.2.1, (hb.cell (p := ⟨g, off + i * 3 + 2, none⟩) hg).trans h.2.2⟩
theorem lbF_take (l : List LbV) (j : Nat) (h : j < l.length) : lbF (l.take (j + 1)) = lbF (l.take j) ++ lbI (lbA l j) := by
  rw [List.take_succ_eq_append_getElem h, lbA_eq l j h]; simp only [lbF, List.flatMap_append, List.flatMap_cons, List.flatMap_nil, List.append_nil]
theorem lb_fill (l : List LbV) (j : Nat) (h : j < l.length) : ((((lbF (l.take j) ++ List.replicate ((l.length - j) * 3) 0).set (j * 3) (lbA l j).label).set (j * 3 + 1) (lbA l j).tc).set (j * 3 + 2) (lbA l j).ttl) = lbF (l.take (j + 1)) ++ List.replicate ((l.length - (j + 1)) * 3) 0 := by
  have e1 : (lbF (l.take j)).length = j * 3 := by rw [lbF_len, List.length_take]; congr 1; omega
  have e2 : (l.length - j) * 3 = (l.length - (j + 1)) * 3 + 3 := by omega
  rw [lbF_take l j h, e2]
  generalize (l.length - (j + 1)) * 3 = m
  have e3 : List.replicate (m + 3) (0 : Int) = 0 :: 0 :: 0 :: List.replicate m 0 := rfl
  rw [e3]
  generalize lbF (l.take j) = a at *
  simp [← e1, lbI]
theorem lbF_app (l m : List LbV) : lbF (l ++ m) = lbF l ++ lbF m := by simp [lbF]
theorem Try.infLabel : Inf 47 55 3 := ⟨Try.underlying47, by kernel_rfl, by decide, by decide⟩
end Go.Proofs.Ytlnhiaapjphefaa
