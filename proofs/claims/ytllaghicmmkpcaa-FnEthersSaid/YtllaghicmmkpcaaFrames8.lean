/-
  Contracts of what the exact laws do to a frame's tags: marking them, and asking whether the marks are held.
-/
import Derived.Test.YtllaghicmmkpcaaFrames7
namespace Go.Proofs.Ytllaghicmmkpcaa
open Go.RowKit Go.PlainAid
/-- 1, 2, .. n -/
def ups (n : Nat) : List Int := (List.range n).map fun (i : Nat) => (i : Int) + 1
theorem ups_length (n : Nat) : (ups n).length = n := by simp [ups]
theorem ups_at (n i : Nat) (h : i < n) : ia (ups n) i = (i : Int) + 1 := by rw [ia_eq _ _ (by rw [ups_length]; exact h)]; simp [ups]
def upd (l : List Int) (j : Nat) : List Int := (List.range l.length).map fun i => if i < j then (i : Int) + 1 else ia l i
theorem upd_length (l : List Int) (j : Nat) : (upd l j).length = l.length := by simp [upd]
theorem upd_zero (l : List Int) : upd l 0 = l := by
  refine List.ext_getElem (by rw [upd_length]) fun i h1 h2 => ?_
  simp [upd, ia_eq l i h2]
theorem upd_all (l : List Int) : upd l l.length = ups l.length := by
  unfold upd ups
  refine List.map_congr_left fun i hi => ?_
  rw [List.mem_range] at hi
  rw [if_pos hi]
theorem upd_set (l : List Int) (j : Nat) : (upd l j).set j ((j : Int) + 1) = upd l (j + 1) := by
  refine List.ext_getElem (by rw [List.length_set, upd_length, upd_length]) fun i h1 h2 => ?_
  rw [List.getElem_set]
  by_cases e : j = i
  · subst e; rw [if_pos rfl]; simp [upd]
  · rw [if_neg e]; simp only [upd, List.getElem_map, List.getElem_range]
    by_cases h : i < j
    · rw [if_pos h, if_pos (by omega)]
    · rw [if_neg h, if_neg (by omega)]

theorem grownBy_drewN {w w' : World} {r : Option Nat} (h : w.grownBy w' r) (n : Nat) : w.grownBy (w'.drewN n) r := ⟨h.os, h.tape, h.output, h.size, h.block⟩
theorem grownBy_trans {w w' w'' : World} {r : Option Nat} (h : w.grownBy w' r) (k : w'.grownBy w'' r) : w.grownBy w'' r :=
  ⟨k.os.trans h.os, k.tape.trans h.tape, k.output.trans h.output, Nat.le_trans h.size k.size, fun i hi hr => (k.block i (Nat.lt_of_lt_of_le hi h.size) hr).trans (h.block i hi hr)⟩
theorem Below.by {w w' : World} (h : Below w.heap.size w w') (r : Option Nat) : w.grownBy w' r := ⟨h.os, h.tape, h.output, h.size, fun i hi _ => h.block i hi⟩
theorem grownBy_below {w w' : World} {r : Option Nat} {B : Nat} (h : w.grownBy w' r) (hB : B ≤ w.heap.size) (hr : ∀ k, r = some k → B ≤ k) : Below B w w' :=
  ⟨h.os, h.tape, h.output, h.size, fun i hi => h.block i (Nat.lt_of_lt_of_le hi hB) fun e => by have := hr i e.symm; omega⟩
theorem Box.by {w w' : World} {r : Option Nat} {b : Nat} {vs : List Value} (h : Box w b vs) (k : w.grownBy w' r) (hr : ∀ i, r = some i → i ≠ b) : Box w' b vs :=
  ⟨Nat.lt_of_lt_of_le h.1 k.size, fun i v hi => (World.cell?_of_block (w := w) (k.block b h.1 fun e => hr b e.symm rfl)).trans (h.2 i v hi)⟩
theorem ownI.form {w : World} {B : Nat} {v : Value} {l : List Int} (h : ownI w B v l) : ∃ T c, v = .slice T l.length c := by
  rcases h.shape with ⟨rfl, rfl⟩ | ⟨g, cap, rfl, _⟩
  · exact ⟨none, 0, rfl⟩
  · exact ⟨_, _, rfl⟩
/-- a row of the call's own, and between which blocks -/
structure InI (w : World) (lo hi : Nat) (v : Value) (l : List Int) : Prop where
  own : ownI w lo v l
  at' : ∀ k, v.ownBlock = some k → lo ≤ k ∧ k < hi
  le : hi ≤ w.heap.size
theorem ownI.in {w : World} {B : Nat} {v : Value} {l : List Int} (h : ownI w B v l) : InI w B w.heap.size v l := by
  refine ⟨h, ?_, Nat.le_refl _⟩
  rcases h.shape with ⟨rfl, _⟩ | ⟨g, cap, rfl, h1, h2, _⟩
  · intro k hk; cases hk
  · intro k hk; cases hk; exact ⟨h1, h2⟩
theorem InI.below {w w' : World} {lo hi N : Nat} {v : Value} {l : List Int} (h : InI w lo hi v l) (hb : Below N w w') (hN : hi ≤ N) : InI w' lo hi v l := by
  refine ⟨?_, h.at', Nat.le_trans h.le hb.size⟩
  obtain ⟨h1, h2⟩ := h.own
  refine ⟨h1, ?_⟩
  rcases h2 with h2 | ⟨g, cap, cur, e, hB, hh, r⟩
  · exact .inl h2
  · exact .inr ⟨g, cap, cur, e, hB, (hb.block g (Nat.lt_of_lt_of_le (h.at' g (by rw [e]; rfl)).2 hN)).trans hh, r⟩
theorem InI.by {w w' : World} {lo hi : Nat} {v : Value} {l : List Int} {r : Option Nat} (h : InI w lo hi v l) (hb : w.grownBy w' r) (hr : ∀ k, r = some k → k < lo ∨ hi ≤ k) : InI w' lo hi v l := by
  refine ⟨?_, h.at', Nat.le_trans h.le hb.size⟩
  obtain ⟨h1, h2⟩ := h.own
  refine ⟨h1, ?_⟩
  rcases h2 with h2 | ⟨g, cap, cur, e, hB, hh, r2⟩
  · exact .inl h2
  · have := h.at' g (by rw [e]; rfl)
    refine .inr ⟨g, cap, cur, e, hB, (hb.block g (lt_of_block hh) fun e' => ?_).trans hh, r2⟩
    have := hr g e'.symm
    omega

end Go.Proofs.Ytllaghicmmkpcaa
