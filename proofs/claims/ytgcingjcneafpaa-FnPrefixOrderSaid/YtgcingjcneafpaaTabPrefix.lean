/-
  Rows of the record Prefix: what is read of them, what the exact laws do with them.
-/
import Derived.Test.YtgcingjcneafpaaRecs
namespace Go.Proofs.Ytgcingjcneafpaa
open Go.RowKit Go.PlainAid
structure PfV where
  addr : Int
  bits : Int
  act : Int
def pfL (a : PfV) : Array Value := #[.int .i64 a.addr, .int .i64 a.bits, .int .i64 a.act]
def pfI (a : PfV) : List Int := [a.addr, a.bits, a.act]
def pfF (l : List PfV) : List Int := l.flatMap pfI
def pfA (l : List PfV) (i : Nat) : PfV := l.getD i ⟨0, 0, 0⟩
theorem pfF_len (l : List PfV) : (pfF l).length = l.length * 3 := by
  induction l with
  | nil => rfl
  | cons a l ih =>
    have e : pfF (a :: l) = pfI a ++ pfF l := rfl
    rw [e, List.length_append, ih, List.length_cons]
    simp [pfI]; omega
theorem pfF_at (l : List PfV) (i : Nat) (h : i < l.length) : ia (pfF l) (i * 3) = (pfA l i).addr ∧ ia (pfF l) (i * 3 + 1) = (pfA l i).bits ∧ ia (pfF l) (i * 3 + 2) = (pfA l i).act := by
  induction l generalizing i with
  | nil => simp at h
  | cons a l ih =>
    have e : pfF (a :: l) = pfI a ++ pfF l := rfl
    cases i with
    | zero => simp [e, pfI, ia, pfA]
    | succ i =>
      have := ih i (by simpa using h)
      have e2 : (i + 1) * 3 = i * 3 + 3 := by omega
      have e3 : ∀ j, ia (pfI a ++ pfF l) (i * 3 + 3 + j) = ia (pfF l) (i * 3 + j) := fun j => by
        rw [show i * 3 + 3 + j = (pfI a).length + (i * 3 + j) from by simp [pfI]; omega]; exact ia_app _ _ _
      rw [e, e2]
      exact ⟨(e3 0).trans this.1, (e3 1).trans this.2.1, (e3 2).trans this.2.2⟩
theorem pfA_eq (l : List PfV) (i : Nat) (h : i < l.length) : pfA l i = l[i] := by simp [pfA, List.getD, h]
theorem pf_cells {w : World} {g off : Nat} {l : List PfV} (hc : ∀ i, i < (pfF l).length → w.cell? ⟨g, off + i, none⟩ = some (.int .i64 (ia (pfF l) i))) (i : Nat) (h : i < l.length) :
    w.cell? ⟨g, off + i * 3, none⟩ = some (.int .i64 (pfA l i).addr) ∧ w.cell? ⟨g, off + i * 3 + 1, none⟩ = some (.int .i64 (pfA l i).bits) ∧ w.cell? ⟨g, off + i * 3 + 2, none⟩ = some (.int .i64 (pfA l i).act) := by
  have hl := pfF_len l
  have ha := pfF_at l i h
  refine ⟨?_, ?_, ?_⟩
  · rw [← ha.1]; exact hc (i * 3) (by omega)
  · rw [← ha.2.1, Nat.add_assoc]; exact hc (i * 3 + 1) (by omega)
  · rw [← ha.2.2, Nat.add_assoc]; exact hc (i * 3 + 2) (by omega)
theorem pf_below {w w' : World} {g off i : Nat} {l : List PfV} (hb : Below w.heap.size w w') (hg : g < w.heap.size) (h : w.cell? ⟨g, off + i * 3, none⟩ = some (.int .i64 (pfA l i).addr) ∧ w.cell? ⟨g, off + i * 3 + 1, none⟩ = some (.int .i64 (pfA l i).bits) ∧ w.cell? ⟨g, off + i * 3 + 2, none⟩ = some (.int .i64 (pfA l i).act)) :
    w'.cell? ⟨g, off + i * 3, none⟩ = some (.int .i64 (pfA l i).addr) ∧ w'.cell? ⟨g, off + i * 3 + 1, none⟩ = some (.int .i64 (pfA l i).bits) ∧ w'.cell? ⟨g, off + i * 3 + 2, none⟩ = some (.int .i64 (pfA l i).act) := ⟨(hb.cell (p := ⟨g, off + i * 3, none⟩) hg).trans h.1, (hb.cell (p := ⟨g, off + i * 3 + 1, none⟩) hg).trans h.2.1, (hb.cell (p := ⟨g, off + i * 3 + 2, none⟩) hg).trans h.2.2⟩
theorem pfF_take (l : List PfV) (j : Nat) (h : j < l.length) : pfF (l.take (j + 1)) = pfF (l.take j) ++ pfI (pfA l j) := by
  rw [List.take_succ_eq_append_getElem h, pfA_eq l j h]; simp only [pfF, List.flatMap_append, List.flatMap_cons, List.flatMap_nil, List.append_nil]
theorem pf_fill (l : List PfV) (j : Nat) (h : j < l.length) : ((((pfF (l.take j) ++ List.replicate ((l.length - j) * 3) 0).set (j * 3) (pfA l j).addr).set (j * 3 + 1) (pfA l j).bits).set (j * 3 + 2) (pfA l j).act) = pfF (l.take (j + 1)) ++ List.replicate ((l.length - (j + 1)) * 3) 0 := by
  have e1 : (pfF (l.take j)).length = j * 3 := by rw [pfF_len, List.length_take]; congr 1; omega
  have e2 : (l.length - j) * 3 = (l.length - (j + 1)) * 3 + 3 := by omega
  rw [pfF_take l j h, e2]
  generalize (l.length - (j + 1)) * 3 = m
  have e3 : List.replicate (m + 3) (0 : Int) = 0 :: 0 :: 0 :: List.replicate m 0 := rfl
  rw [e3]
  generalize pfF (l.take j) = a at *
  simp [← e1, pfI]
theorem pfF_app (l m : List PfV) : pfF (l ++ m) = pfF l ++ pfF m := by simp [pfF]
theorem Try.infPrefix : Inf 34 70 3 := ⟨Try.underlying34, by kernel_rfl, by decide, by decide⟩
end Go.Proofs.Ytgcingjcneafpaa
