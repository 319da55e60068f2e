/-
  Rows of the record Tern: what is read of them, what the exact laws do with them.
-/
import Derived.Test.YtnlignfmicincaaRecs
namespace Go.Proofs.Ytnlignfmicincaa
open Go.RowKit Go.PlainAid
structure TnV where
  value : Int
  mask : Int
  pri : Int
  act : Int
def tnL (a : TnV) : Array Value := #[.int .i64 a.value, .int .i64 a.mask, .int .i64 a.pri, .int .i64 a.act]
def tnI (a : TnV) : List Int := [a.value, a.mask, a.pri, a.act]
def tnF (l : List TnV) : List Int := l.flatMap tnI
def tnA (l : List TnV) (i : Nat) : TnV := l.getD i ⟨0, 0, 0, 0⟩
theorem tnF_len (l : List TnV) : (tnF l).length = l.length * 4 := by
  induction l with
  | nil => rfl
  | cons a l ih =>
    have e : tnF (a :: l) = tnI a ++ tnF l := rfl
    rw [e, List.length_append, ih, List.length_cons]
    simp [tnI]; omega
theorem tnF_at (l : List TnV) (i : Nat) (h : i < l.length) : ia (tnF l) (i * 4) = (tnA l i).value ∧ ia (tnF l) (i * 4 + 1) = (tnA l i).mask ∧ ia (tnF l) (i * 4 + 2) = (tnA l i).pri ∧ ia (tnF l) (i * 4 + 3) = (tnA l i).act := by
  induction l generalizing i with
  | nil => simp at h
  | cons a l ih =>
    have e : tnF (a :: l) = tnI a ++ tnF l := rfl
    cases i with
    | zero => simp [e, tnI, ia, tnA]
    | succ i =>
      have := ih i (by simpa using h)
      have e2 : (i + 1) * 4 = i * 4 + 4 := by omega
      have e3 : ∀ j, ia (tnI a ++ tnF l) (i * 4 + 4 + j) = ia (tnF l) (i * 4 + j) := fun j => by
        rw [show i * 4 + 4 + j = (tnI a).length + (i * 4 + j) from by simp [tnI]; omega]; exact ia_app _ _ _
      rw [e, e2]
      exact ⟨(e3 0).trans this.1, (e3 1).trans this.2.1, (e3 2).trans this.2.2.1, (e3 3).trans this.2.2.2⟩
theorem tnA_eq (l : List TnV) (i : Nat) (h : i < l.length) : tnA l i = l[i] := by simp [tnA, List.getD, h]
theorem tn_cells {w : World} {g off : Nat} {l : List TnV} (hc : ∀ i, i < (tnF l).length → w.cell? ⟨g, off + i, none⟩ = some (.int .i64 (ia (tnF l) i))) (i : Nat) (h : i < l.length) :
    w.cell? ⟨g, off + i * 4, none⟩ = some (.int .i64 (tnA l i).value) ∧ w.cell? ⟨g, off + i * 4 + 1, none⟩ = some (.int .i64 (tnA l i).mask) ∧ w.cell? ⟨g, off + i * 4 + 2, none⟩ = some (.int .i64 (tnA l i).pri) ∧ w.cell? ⟨g, off + i * 4 + 3, none⟩ = some (.int .i64 (tnA l i).act) := by
  have hl := tnF_len l
  have ha := tnF_at l i h
  refine ⟨?_, ?_, ?_, ?_⟩
  · rw [← ha.1]; exact hc (i * 4) (by omega)
  · rw [← ha.2.1, Nat.add_assoc]; exact hc (i * 4 + 1) (by omega)
  · rw [← ha.2.2.1, Nat.add_assoc]; exact hc (i * 4 + 2) (by omega)
  · rw [← ha.2.2.2, Nat.add_assoc]; exact hc (i * 4 + 3) (by omega)
theorem tn_below {w w' : World} {g off i : Nat} {l : List TnV} (hb : Below w.heap.size w w') (hg : g < w.heap.size) (h : w.cell? ⟨g, off + i * 4, none⟩ = some (.int .i64 (tnA l i).value) ∧ w.cell? ⟨g, off + i * 4 + 1, none⟩ = some (.int .i64 (tnA l i).mask) ∧ w.cell? ⟨g, off + i * 4 + 2, none⟩ = some (.int .i64 (tnA l i).pri) ∧ w.cell? ⟨g, off + i * 4 + 3, none⟩ = some (.int .i64 (tnA l i).act)) :
    w'.cell? ⟨g, off + i * 4, none⟩ = some (.int .i64 (tnA l i).value) ∧ w'.cell? ⟨g, off + i * 4 + 1, none⟩ = some (.int .i64 (tnA l i).mask) ∧ w'.cell? ⟨g, off + i * 4 + 2, none⟩ = some (.int .i64 (tnA l i).pri) ∧ w'.cell? ⟨g, off + i * 4 + 3, none⟩ = some (.int .i64 (tnA l i).act) := ⟨(hb.cell (p := ⟨g, off + i * 4, none⟩) hg).trans h.1, (hb.cell (p := ⟨g, off + i * 4 + 1, none⟩) hg).trans h.2.1, (hb.cell (p := ⟨g, off + i * 4 + 2, none⟩) hg).trans h.2.2.1, (hb.cell (p := ⟨g, off + i * 4 + 3, none⟩) hg).trans h.2.2.2⟩
theorem tnF_take (l : List TnV) (j : Nat) (h : j < l.length) : tnF (l.take (j + 1)) = tnF (l.take j) ++ tnI (tnA l j) := by
  rw [List.take_succ_eq_append_getElem h, tnA_eq l j h]; simp only [tnF, List.flatMap_append, List.flatMap_cons, List.flatMap_nil, List.append_nil]
theorem tn_fill (l : List TnV) (j : Nat) (h : j < l.length) : (((((tnF (l.take j) ++ List.replicate ((l.length - j) * 4) 0).set (j * 4) (tnA l j).value).set (j * 4 + 1) (tnA l j).mask).set (j * 4 + 2) (tnA l j).pri).set (j * 4 + 3) (tnA l j).act) = tnF (l.take (j + 1)) ++ List.replicate ((l.length - (j + 1)) * 4) 0 := by
  have e1 : (tnF (l.take j)).length = j * 4 := by rw [tnF_len, List.length_take]; congr 1; omega
  have e2 : (l.length - j) * 4 = (l.length - (j + 1)) * 4 + 4 := by omega
  rw [tnF_take l j h, e2]
  generalize (l.length - (j + 1)) * 4 = m
  have e3 : List.replicate (m + 4) (0 : Int) = 0 :: 0 :: 0 :: 0 :: List.replicate m 0 := rfl
  rw [e3]
  generalize tnF (l.take j) = a at *
  simp [← e1, tnI]
theorem tnF_app (l m : List TnV) : tnF (l ++ m) = tnF l ++ tnF m := by simp [tnF]
theorem Try.infTern : Inf 39 75 4 := ⟨Try.underlying39, by kernel_rfl, by decide, by decide⟩
end Go.Proofs.Ytnlignfmicincaa
