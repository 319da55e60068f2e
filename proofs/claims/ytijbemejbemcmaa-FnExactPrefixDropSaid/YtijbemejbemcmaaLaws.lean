/-
  Laws for rows of bytes that a call itself makes: append of one byte, the string of a row.
-/
import Derived.Test.YtijbemejbemcmaaProg
import Derived.Test.YtijbemejbemcmaaPlain
import Derived.WalkKit
import Derived.WalkLawsBesides
import Derived.WalkSpells
import Derived.Laws.BytesArg
import Derived.Laws.IdiomStrings
import Derived.Handy
import Derived.BigRegion
import Derived.Deep.RegionLaw
import Derived.Deep.QuietTactic
import Derived.BigQuiet
import Derived.Outline
namespace Go.Proofs.Ytijbemejbemcmaa
open Go.RowKit

theorem Try.infoB : (Try.prog.info? 5).map (fun i => (i.zero, i.size, i.bytes)) = some (some (.int .u8 0), 1, 1) := by kernel_rfl

/-- the string of bytes -/
abbrev str (l : List UInt8) : ByteArray := ⟨l.toArray⟩
/-- the bytes as cells -/
def bcells (l : List UInt8) : List Value := l.map fun c => Value.int .u8 (c.toNat : Int)
/-- the slice value v owns the bytes l, in a row of the call's own -/
def ownB (w : World) (B : Nat) (v : Value) (l : List UInt8) : Prop := w.ownsRow B 5 1 v l.length (bcells l)
theorem ownB.alloc {w : World} {B : Nat} {v : Value} {l : List UInt8} (h : ownB w B v l) (o : Obj) : ownB (w.alloc o) B v l := World.ownsRow.alloc h o
theorem ownB.drew {w : World} {B : Nat} {v : Value} {l : List UInt8} (h : ownB w B v l) : ownB w.drew B v l := World.ownsRow.drew h
theorem ownB.nil (w : World) (B : Nat) : ownB w B (.slice none 0 0) [] := World.ownsRow_nil _ _ _ _
theorem cells_one {w : World} {g : Nat} {c : Value} (h : w.cell? ⟨g, 0, none⟩ = some c) : ∀ j u, [c][j]? = some u → w.cell? ((⟨g, 0, none⟩ : Addr).add j) = some u := by
  intro j u hj
  match j, hj with
  | 0, hj => simp at hj; subst hj; simpa [Addr.add] using h

/-- a new empty row -/
theorem ownB.empty (w : World) (B : Nat) (hB : B ≤ w.heap.size) : ownB (w.alloc (.cells #[] 5)) B (.slice (some ⟨w.heap.size, 0, none⟩) 0 0) [] :=
  World.ownsRow_lit w #[] 0 hB (by decide) rfl
theorem ownB.stored {w : World} {B g cap n : Nat} {l : List UInt8} (h : ownB w B (.slice (some ⟨g, 0, none⟩) n cap) l) (hn : l.length = n) (j : Nat) (c : Int) (h0 : 0 ≤ c) (h1 : c ≤ 255) :
    ownB (w.setCell ⟨g, j, none⟩ (.int .u8 c)) B (.slice (some ⟨g, 0, none⟩) n cap) (l.set j (UInt8.ofNat c.toNat)) := by
  subst hn
  have := (World.ownsRow.stored h j (.int .u8 c)).1
  have e : (UInt8.ofNat c.toNat).toNat = c.toNat := by simp [UInt8.toNat_ofNat']; omega
  have e2 : ((c.toNat : Nat) : Int) = c := by omega
  unfold ownB
  have e3 : bcells (l.set j (UInt8.ofNat c.toNat)) = (bcells l).set j (.int .u8 c) := by simp only [bcells, List.map_set, e, e2]
  rw [e3]; simpa using this
theorem ownB.cell {w : World} {B g cap n : Nat} {l : List UInt8} (h : ownB w B (.slice (some ⟨g, 0, none⟩) n cap) l) (hn : l.length = n) (j : Nat) (hj : j < n) : ∃ c, w.cell? ⟨g, j, none⟩ = some (.int .u8 c) := by
  subst hn
  have := World.ownsRow.cellAt h j (by omega)
  exact ⟨(l[j].toNat : Int), by rw [this]; simp [bcells, hj]⟩
theorem ownB.frozen {w : World} {B g cap n : Nat} {l : List UInt8} (h : ownB w B (.slice (some ⟨g, 0, none⟩) n cap) l) (hn : l.length = n) (j : Nat) : w.frozen? ⟨g, j, none⟩ = false := by
  subst hn
  exact World.ownsRow.frozenAt h j

/-! A region that draws its order, whose operations only read and whose calls make new memory alone: one walk, in the order of the text. -/
/-- the worlds that are W with new blocks -/
structure BW (W : World) where
  u : World
  le : Below W.heap.size W u
theorem BW.some (W : World) : Nonempty (BW W) := ⟨⟨W, Below.refl _ _⟩⟩
theorem wp_region_below {id : Nat} {Q : Exit → Act → World → Prop} {a : Act} {w : World} {l : List Oper} (hm : Try.prog.follows .mixedOrders = true) (hB : Region.lexB .any l.toArray = true)
    (h : wpQuiet Try.prog l.toArray (fun w' => ∃ u : BW w, w' = u.u) (fun a' => ∀ w', (∃ u : BW w, w' = u.u) → Q .normal a' w') l a) : (Code.region id l.toArray true).wp Try.prog Q a w :=
  wp_region_quiet (C := fun w' => ∃ u : BW w, w' = u.u) hm hB ⟨⟨w.drew, (Below.refl _ _).drew⟩, rfl⟩ (by simpa using h)
theorem Calls.into {f : FuncId} {args : Array Value} {W : World} {u : BW W} {v : Value}
    (h : Calls Try.prog f args u.u fun e w' => e = .returned v ∧ Below u.u.heap.size u.u w') : Calls Try.prog f args u.u fun e w'' => e = .returned v ∧ ∃ m : BW W, w'' = m.u :=
  h.mono fun _ w' ⟨he, hb⟩ => ⟨he, ⟨⟨w', u.le.trans (hb.mono u.le.size)⟩, rfl⟩⟩
theorem Calls.into_same {f : FuncId} {args : Array Value} {W : World} {u : BW W} {v : Value}
    (h : Calls Try.prog f args u.u fun e w' => e = .returned v ∧ w' = u.u) : Calls Try.prog f args u.u fun e w'' => e = .returned v ∧ ∃ m : BW W, w'' = m.u :=
  h.mono fun _ _ ⟨he, hb⟩ => ⟨he, u, hb⟩
theorem lt_of_cell {w : World} {g j : Nat} {v : Value} (h : w.cell? ⟨g, j, none⟩ = some v) : g < w.heap.size := by
  unfold World.cell? at h
  cases hg : w.heap[g]? with
  | none => simp [hg] at h
  | some o => exact lt_of_block hg
end Go.Proofs.Ytijbemejbemcmaa
