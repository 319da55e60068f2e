/-
  Contracts of the reader of bytes: numbers, pieces, the rest.
-/
import Derived.Test.YtgfpoohjbgdcpaaIps3
import Derived.Test.YtgfpoohjbgdcpaaClone
namespace Go.Proofs.Ytgfpoohjbgdcpaa
open Go.RowKit Go.PlainAid
def Fx (W : World) (b : Nat) : Prop := b < W.heap.size ∧ ∀ j, W.frozen? ⟨b, j, none⟩ = false
theorem Fx.below {W W' : World} {b : Nat} (h : Fx W b) (hb : Below W.heap.size W W') : Fx W' b :=
  ⟨Nat.lt_of_lt_of_le h.1 hb.size, fun j => (World.frozen?_of_block (w := W) (a := ⟨b, j, none⟩) (hb.block b h.1)).trans (h.2 j)⟩
theorem Fx.new (W : World) (vs : Array Value) (t : TypeId) : Fx (W.alloc (.cells vs t)) W.heap.size :=
  ⟨by simp, fun j => by simp⟩
theorem Fx.put {W : World} {b : Nat} (h : Fx W b) (p : Addr) (u : Value) : Fx (W.setCell p u) b := ⟨by simpa using h.1, fun j => by simpa using h.2 j⟩
theorem Bx.put {W : World} {b : Nat} {vs : List Value} (h : Bx W b vs) (j : Nat) (u : Value) : Bx (W.setCell ⟨b, j, none⟩ u) b (vs.set j u) := by
  refine ⟨by simpa using h.1, fun i v hi => ?_⟩
  rw [List.getElem?_set] at hi
  by_cases e : j = i
  · subst e
    rw [if_pos rfl] at hi
    by_cases hl : j < vs.length
    · rw [if_pos hl] at hi
      cases hi
      exact World.cell?_setCell_same _ _ _ (h.2 j vs[j] (by simp [hl]))
    · rw [if_neg hl] at hi; cases hi
  · rw [if_neg e] at hi
    exact (World.cell?_setCell_other _ _ _ _ (fun k => e (congrArg Addr.off k))).trans (h.2 i v hi)
/-- block b may be written -/
def Fr (W : World) (b : Nat) : Prop := b < W.heap.size ∧ ∀ j, W.frozen? ⟨b, j, none⟩ = false
theorem gby_trans {w w' w'' : World} {r : Option Nat} (h : w.grownBy w' r) (k : w'.grownBy w'' r) : w.grownBy w'' r :=
  ⟨k.os.trans h.os, k.tape.trans h.tape, k.output.trans h.output, Nat.le_trans h.size k.size, fun i hi hr => (k.block i (Nat.lt_of_lt_of_le hi h.size) hr).trans (h.block i hi hr)⟩
theorem gby_below {w w' : World} (h : Below w.heap.size w w') (r : Option Nat) : w.grownBy w' r := ⟨h.os, h.tape, h.output, h.size, fun i hi _ => h.block i hi⟩
theorem gby_set (w : World) (b j : Nat) (u : Value) : w.grownBy (w.setCell ⟨b, j, none⟩ u) (some b) :=
  ⟨rfl, rfl, rfl, by simp, fun k _ hr => Below.heap_setCell _ _ _ _ fun e => hr (by rw [e])⟩
/-- the reader's cells -/
abbrev rdx (s : ByteArray) (p : Int) (f : Bool) : List Value := [.string s, .int .i64 p, .bool f]
def nxP (s : ByteArray) (p k : Int) : Int := if p + k ≤ s.size then p + k else p
def nxF (s : ByteArray) (p k : Int) (f : Bool) : Bool := if p + k ≤ s.size then f else true
def pieceAt (s : ByteArray) (p k : Int) : ByteArray := if p + k ≤ s.size then s.extract p.toNat (p + k).toNat else ⟨#[]⟩
theorem nxP_in {s : ByteArray} {p k : Int} (h : 0 ≤ p) (h2 : p ≤ s.size) (hk : 0 ≤ k) : 0 ≤ nxP s p k ∧ nxP s p k ≤ s.size := by
  unfold nxP; split <;> omega
structure RxTo (w w' : World) (b : Nat) (s : ByteArray) (p : Int) (f : Bool) : Prop where
  box : Bx w' b (rdx s p f)
  free : Fx w' b
  grown : w.grownBy w' (some b)
theorem RxTo.beyond {w w' W : World} {b : Nat} {s : ByteArray} {p : Int} {f : Bool} {B : Nat} (h : RxTo w w' b s p f) (hb : Below B W w) (hB : B ≤ b) (hw : B ≤ w.heap.size) : Below B W w' :=
  hb.grown h.grown hw (fun k hk => by simp at hk; omega)
end Go.Proofs.Ytgfpoohjbgdcpaa
