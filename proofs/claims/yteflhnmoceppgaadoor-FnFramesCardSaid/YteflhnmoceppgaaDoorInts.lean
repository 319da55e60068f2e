/-
  Slices of int64: what is read of them, rows of the call's own.
-/
import Derived.Test.YteflhnmoceppgaaDoorStrs
namespace Go.Proofs.YteflhnmoceppgaaDoor
open Go.RowKit Go.PlainAid

/-- the i-th number of a list -/
def ia (l : List Int) (i : Nat) : Int := l.getD i 0
theorem ia_eq (l : List Int) (i : Nat) (h : i < l.length) : ia l i = l[i] := by simp [ia, List.getD, h]
/-- all fit int64 -/
abbrev I64s (l : List Int) : Prop := ∀ x ∈ l, -9223372036854775808 ≤ x ∧ x ≤ 9223372036854775807
theorem I64s.at {l : List Int} (h : I64s l) (i : Nat) : -9223372036854775808 ≤ ia l i ∧ ia l i ≤ 9223372036854775807 := by
  by_cases hi : i < l.length
  · rw [ia_eq l i hi]; exact h _ (List.getElem_mem hi)
  · have : ia l i = 0 := by simp [ia, List.getD, List.getElem?_eq_none (Nat.le_of_not_lt hi)]
    omega
/-- the slice at T reads as the numbers l -/
def IntsAt (w : World) (T : Option Addr) (l : List Int) : Prop :=
  l = [] ∨ ∃ g off, T = some ⟨g, off, none⟩ ∧ g < w.heap.size ∧ ∀ i, i < l.length → w.cell? ⟨g, off + i, none⟩ = some (.int .i64 (ia l i))
theorem IntsAt.below {w w' : World} {T : Option Addr} {l : List Int} (h : IntsAt w T l) (hb : Below w.heap.size w w') : IntsAt w' T l := by
  rcases h with h | ⟨g, off, h1, h2, h3⟩
  · exact .inl h
  · exact .inr ⟨g, off, h1, Nat.lt_of_lt_of_le h2 hb.size, fun i hi => (hb.cell (p := ⟨g, off + i, none⟩) h2).trans (h3 i hi)⟩
theorem IntsAt.alloc {w : World} {T : Option Addr} {l : List Int} (h : IntsAt w T l) (o : Obj) : IntsAt (w.alloc o) T l := h.below ((Below.refl _ w).alloc (Nat.le_refl _) o)
theorem IntsAt.drew {w : World} {T : Option Addr} {l : List Int} (h : IntsAt w T l) : IntsAt w.drew T l := h.below (Below.refl _ w).drew

theorem Tryd.infoI : (Tryd.prog.info? 2).map (fun i => (i.zero, i.size, i.bytes)) = some (some (.int .i64 0), 1, 8) := by kernel_rfl
/-- the numbers as cells -/
def icells (l : List Int) : List Value := l.map fun c => Value.int .i64 c
/-- the slice value v owns the numbers l, in a row of the call's own -/
def ownI (w : World) (B : Nat) (v : Value) (l : List Int) : Prop := w.ownsRow B 2 1 v l.length (icells l)
theorem ownI.alloc {w : World} {B : Nat} {v : Value} {l : List Int} (h : ownI w B v l) (o : Obj) : ownI (w.alloc o) B v l := World.ownsRow.alloc h o
theorem ownI.nil (w : World) (B : Nat) : ownI w B (.slice none 0 0) [] := World.ownsRow_nil _ _ _ _
theorem icells_at (l : List Int) (i : Nat) (h : i < l.length) : (icells l)[i]? = some (.int .i64 (ia l i)) := by
  rw [ia_eq l i h]; simp [icells, h]
theorem ownI.shape {w : World} {B : Nat} {v : Value} {l : List Int} (h : ownI w B v l) : (v = .slice none 0 0 ∧ l = []) ∨ ∃ g cap, v = .slice (some ⟨g, 0, none⟩) l.length cap ∧ B ≤ g ∧ g < w.heap.size ∧ l.length ≤ cap ∧ cap ≤ maxLen := by
  obtain ⟨_, h2⟩ := id h
  rcases h2 with ⟨rfl, h0⟩ | ⟨g, cap, cur, rfl, hB, hh, hc, hm, _⟩
  · exact .inl ⟨rfl, List.length_eq_zero_iff.1 h0⟩
  · exact .inr ⟨g, cap, rfl, hB, lt_of_block hh, hc, hm⟩
theorem ownI.cell {w : World} {B g cap n : Nat} {l : List Int} (h : ownI w B (.slice (some ⟨g, 0, none⟩) n cap) l) (hn : l.length = n) (j : Nat) (hj : j < n) : w.cell? ⟨g, j, none⟩ = some (.int .i64 (ia l j)) := by
  subst hn
  rw [World.ownsRow.cellAt h j (by omega)]; exact icells_at l j hj
theorem ownI.frozen {w : World} {B g cap n : Nat} {l : List Int} (h : ownI w B (.slice (some ⟨g, 0, none⟩) n cap) l) (hn : l.length = n) (j : Nat) : w.frozen? ⟨g, j, none⟩ = false := by
  subst hn
  exact World.ownsRow.frozenAt h j
theorem ownI.stored {w : World} {B g cap n : Nat} {l : List Int} (h : ownI w B (.slice (some ⟨g, 0, none⟩) n cap) l) (hn : l.length = n) (j : Nat) (c : Int) :
    ownI (w.setCell ⟨g, j, none⟩ (.int .i64 c)) B (.slice (some ⟨g, 0, none⟩) n cap) (l.set j c) := by
  subst hn
  have := (World.ownsRow.stored h j (.int .i64 c)).1
  unfold ownI
  have e3 : icells (l.set j c) = (icells l).set j (.int .i64 c) := by simp only [icells, List.map_set]
  rw [e3]; simpa using this
theorem ownI.reads {w : World} {B : Nat} {T : Option Addr} {n cap : Nat} {l : List Int} (h : ownI w B (.slice T n cap) l) : l.length = n ∧ IntsAt w T l := by
  rcases h.shape with ⟨hv, rfl⟩ | ⟨g, cap', hv, hB, hg, _⟩
  · simp at hv; exact ⟨by simp [hv.2.1], .inl rfl⟩
  · simp only [Value.slice.injEq] at hv
    obtain ⟨rfl, rfl, rfl⟩ := hv
    exact ⟨rfl, .inr ⟨g, 0, rfl, hg, fun i hi => by rw [Nat.zero_add]; exact h.cell rfl i hi⟩⟩
theorem ownI.far {w w' : World} {B : Nat} {v : Value} {l : List Int} (h : ownI w B v l) (hb : Below w.heap.size w w') : ownI w' B v l := by
  obtain ⟨h1, h2⟩ := h
  refine ⟨h1, ?_⟩
  rcases h2 with h2 | ⟨g, cap, cur, e, hB, hh, r⟩
  · exact .inl h2
  · exact .inr ⟨g, cap, cur, e, hB, (hb.block g (lt_of_block hh)).trans hh, r⟩
theorem ownI.drew {w : World} {B : Nat} {v : Value} {l : List Int} (h : ownI w B v l) : ownI w.drew B v l := h
end Go.Proofs.YteflhnmoceppgaaDoor
