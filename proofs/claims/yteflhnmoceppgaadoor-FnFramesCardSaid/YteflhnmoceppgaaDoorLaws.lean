/-
  Laws for rows of bytes that a call itself makes: append of one byte, the string of a row.
-/
import Derived.Test.YteflhnmoceppgaaDoorProg
import Derived.Test.YteflhnmoceppgaaDoorPlain
import Derived.WalkKit
import Derived.WalkLawsBesides
import Derived.WalkSpells
import Derived.Laws.BytesArg
import Derived.Laws.IdiomStrings
import Derived.Handy
import Derived.BigRegion
import Derived.Deep.RegionLaw
import Derived.Deep.QuietTactic
import Derived.BigQuiet
import Derived.Outline
namespace Go.Proofs.YteflhnmoceppgaaDoor
open Go.RowKit

theorem Tryd.infoB : (Tryd.prog.info? 5).map (fun i => (i.zero, i.size, i.bytes)) = some (some (.int .u8 0), 1, 1) := by kernel_rfl

/-- the string of bytes -/
abbrev str (l : List UInt8) : ByteArray := ⟨l.toArray⟩
/-- the bytes as cells -/
def bcells (l : List UInt8) : List Value := l.map fun c => Value.int .u8 (c.toNat : Int)
/-- the slice value v owns the bytes l, in a row of the call's own -/
def ownB (w : World) (B : Nat) (v : Value) (l : List UInt8) : Prop := w.ownsRow B 5 1 v l.length (bcells l)
theorem ownB.alloc {w : World} {B : Nat} {v : Value} {l : List UInt8} (h : ownB w B v l) (o : Obj) : ownB (w.alloc o) B v l := World.ownsRow.alloc h o
theorem ownB.drew {w : World} {B : Nat} {v : Value} {l : List UInt8} (h : ownB w B v l) : ownB w.drew B v l := World.ownsRow.drew h
theorem ownB.nil (w : World) (B : Nat) : ownB w B (.slice none 0 0) [] := World.ownsRow_nil _ _ _ _
theorem cells_one {w : World} {g : Nat} {c : Value} (h : w.cell? ⟨g, 0, none⟩ = some c) : ∀ j u, [c][j]? = some u → w.cell? ((⟨g, 0, none⟩ : Addr).add j) = some u := by
  intro j u hj
  match j, hj with
  | 0, hj => simp at hj; subst hj; simpa [Addr.add] using h

theorem wpList_append_byte {w : World} {ops : Array Oper} {rest : List Oper} {o : Oper} {a : Act} {Q : Exit → Act → World → Prop} (hgd : o.guard = none) (s x : Operand)
    (ho : o.op = .call { callee := .builtin .append, args := #[s, x], argTypes := #[22, 22] })
    (B : Nat) (v : Value) (l : List UInt8) (hs : a.eval s = v) (hown : ownB w B v l)
    (c : Int) (hx : a.eval x = .slice (some ⟨w.heap.size, 0, none⟩) 1 1) (h0 : 0 ≤ c) (h1 : c ≤ 255)
    (hl : l.length ≤ 70368744177664) (hB : B ≤ w.heap.size)
    (h : ∀ v' w', ownB w' B v' (l ++ [UInt8.ofNat c.toNat]) → Below B w w' → wpList Tryd.prog ops Q rest (a.put o.dst v') w') : wpList Tryd.prog ops Q (o :: rest) a (w.alloc (.cells #[.int .u8 c] 5)) := by
  have hcell : (w.alloc (.cells #[.int .u8 c] 5)).cell? ⟨w.heap.size, 0, none⟩ = some (.int .u8 c) := by simp
  obtain ⟨i0, hi, hz0, hz1, hz2⟩ := info_parts Tryd.infoB
  have hB' : B ≤ (w.alloc (.cells #[.int .u8 c] 5)).heap.size := by simp; omega
  refine wpList_append_own _ hgd s x 22 ho B 5 i0 (.int .u8 0) 1 1 Tryd.underlying22 hi hz0 hz1 hz2 rfl (by decide) v l.length (bcells l) hs (ownB.alloc hown _) ⟨w.heap.size, 0, none⟩ 1 1 [.int .u8 c] hx rfl (cells_one hcell) ?_ (by unfold maxLen; omega) (by omega) hB' ?_
  · intro u hu; simp at hu; subst hu; rfl
  · intro v' w' h2 h3 _
    have e : (UInt8.ofNat c.toNat).toNat = c.toNat := by simp [UInt8.toNat_ofNat']; omega
    have e2 : ((c.toNat : Nat) : Int) = c := by omega
    refine h v' w' ?_ (((Below.refl B w).alloc hB _).grown h3 hB' fun k hk => (World.ownsRow.lt hown k hk).1)
    unfold ownB
    have e3 : bcells (l ++ [UInt8.ofNat c.toNat]) = bcells l ++ [.int .u8 c] := by simp only [bcells, List.map_append, List.map_cons, List.map_nil, e, e2]
    rw [e3]; simpa using h2

theorem wpList_append_2 {w : World} {ops : Array Oper} {rest : List Oper} {o : Oper} {a : Act} {Q : Exit → Act → World → Prop} (hgd : o.guard = none) (s x : Operand)
    (ho : o.op = .call { callee := .builtin .append, args := #[s, x], argTypes := #[22, 22] })
    (B : Nat) (v : Value) (l : List UInt8) (hs : a.eval s = v) (hown : ownB w B v l)
    (c d : Int) (hx : a.eval x = .slice (some ⟨w.heap.size, 0, none⟩) 2 2) (h0 : 0 ≤ c) (h1 : c ≤ 255) (k0 : 0 ≤ d) (k1 : d ≤ 255)
    (hl : l.length ≤ 70368744177664) (hB : B ≤ w.heap.size)
    (h : ∀ v' w', ownB w' B v' (l ++ [UInt8.ofNat c.toNat, UInt8.ofNat d.toNat]) → Below B w w' → wpList Tryd.prog ops Q rest (a.put o.dst v') w') : wpList Tryd.prog ops Q (o :: rest) a (w.alloc (.cells #[.int .u8 c, .int .u8 d] 5)) := by
  obtain ⟨i0, hi, hz0, hz1, hz2⟩ := info_parts Tryd.infoB
  have hcs : ∀ j u, [Value.int .u8 c, .int .u8 d][j]? = some u → (w.alloc (.cells #[.int .u8 c, .int .u8 d] 5)).cell? ((⟨w.heap.size, 0, none⟩ : Addr).add j) = some u := by
    intro j u hj
    match j, hj with
    | 0, hj => simp at hj; subst hj; simp [Addr.add]
    | 1, hj => simp at hj; subst hj; simp [Addr.add]
  have hB' : B ≤ (w.alloc (.cells #[.int .u8 c, .int .u8 d] 5)).heap.size := by simp; omega
  refine wpList_append_own _ hgd s x 22 ho B 5 i0 (.int .u8 0) 1 1 Tryd.underlying22 hi hz0 hz1 hz2 rfl (by decide) v l.length (bcells l) hs (ownB.alloc hown _) ⟨w.heap.size, 0, none⟩ 2 2 [.int .u8 c, .int .u8 d] hx rfl hcs ?_ (by unfold maxLen; omega) (by omega) hB' ?_
  · intro u hu; simp at hu; rcases hu with hu | hu <;> subst hu <;> rfl
  · intro v' w' h2 h3 _
    have e : (UInt8.ofNat c.toNat).toNat = c.toNat := by simp [UInt8.toNat_ofNat']; omega
    have f : (UInt8.ofNat d.toNat).toNat = d.toNat := by simp [UInt8.toNat_ofNat']; omega
    have e2 : ((c.toNat : Nat) : Int) = c := by omega
    have f2 : ((d.toNat : Nat) : Int) = d := by omega
    refine h v' w' ?_ (((Below.refl B w).alloc hB _).grown h3 hB' fun k hk => (World.ownsRow.lt hown k hk).1)
    unfold ownB
    have e3 : bcells (l ++ [UInt8.ofNat c.toNat, UInt8.ofNat d.toNat]) = bcells l ++ [.int .u8 c, .int .u8 d] := by simp only [bcells, List.map_append, List.map_cons, List.map_nil, e, e2, f, f2]
    rw [e3]; simpa using h2

theorem run_string_own {w : World} {B : Nat} {v : Value} {l : List UInt8} (h : ownB w B v l) : (convert 22 9 v).run Tryd.prog w = .ok (.string ⟨l.toArray⟩) w := by
  obtain ⟨_, h2⟩ := id h
  rcases h2 with ⟨rfl, h0⟩ | ⟨g, cap, cur, rfl, _⟩
  · have : l = [] := List.length_eq_zero_iff.1 h0
    subst this
    exact run_convert_bytes_nil w 22 5 Tryd.underlying22 Tryd.underlying5 0 0 9 Tryd.underlying9
  · refine run_convert_bytes_back w 22 9 5 ⟨g, 0, none⟩ cap l Tryd.underlying22 Tryd.underlying5 Tryd.underlying9 ?_
    intro j hj
    have := World.ownsRow.cellAt h j (by omega)
    have e : (⟨g, 0, none⟩ : Addr).add j = ⟨g, j, none⟩ := by unfold Addr.add; split <;> simp_all
    rw [e, this]; simp [bcells, hj]

theorem wpList_string {w : World} {ops : Array Oper} {rest : List Oper} {o : Oper} {a : Act} {Q : Exit → Act → World → Prop} (hgd : o.guard = none) (x : Operand)
    (ho : o.op = .convert 22 9 x) (B : Nat) (v : Value) (l : List UInt8) (hs : a.eval x = v) (hown : ownB w B v l)
    (h : wpList Tryd.prog ops Q rest (a.put o.dst (.string ⟨l.toArray⟩)) w) : wpList Tryd.prog ops Q (o :: rest) a w := by
  refine wpList_plain hgd fun K hK' => ?_
  unfold Oper.wp execOp
  simp [ho, hs, run_string_own hown, Result.andThen]
  exact hK' _ _ h
/-- a new empty row -/
theorem ownB.empty (w : World) (B : Nat) (hB : B ≤ w.heap.size) : ownB (w.alloc (.cells #[] 5)) B (.slice (some ⟨w.heap.size, 0, none⟩) 0 0) [] :=
  World.ownsRow_lit w #[] 0 hB (by decide) rfl
/-- make([]byte, n) -/
theorem wpList_make_bytes {w : World} {ops : Array Oper} {rest : List Oper} {o : Oper} {a : Act} {Q : Exit → Act → World → Prop}
    (hg : o.guard = none) (l c : Operand) (hop : o.op = Op.makeSlice 22 l c) (kl kc : IntKind) (L C : Int) (n : Nat) (hl : a.eval l = .int kl L) (hc : a.eval c = .int kc C) (hL : L = (n : Int)) (hC : C = (n : Int)) (hn : n ≤ 70368744177664)
    (hK : ∀ w', ownB w' w.heap.size (.slice (some ⟨w.heap.size, 0, none⟩) n n) (List.replicate n 0) → Below w.heap.size w w' → wpList Tryd.prog ops Q rest (a.put o.dst (.slice (some ⟨w.heap.size, 0, none⟩) n n)) w') :
    wpList Tryd.prog ops Q (o :: rest) a w := by
  obtain ⟨i0, hi, hz0, hz1, hz2⟩ := info_parts Tryd.infoB
  refine wpList_make_full w hg l c 22 hop w.heap.size 5 i0 (.int .u8 0) 1 Tryd.underlying22 hi hz0 hz1 kl kc L C n hl hc hL hC (by rw [hz2]; omega) (by unfold maxLen; omega) (Nat.le_refl _) ?_
  intro w' h1 h2
  refine hK w' ?_ ((Below.refl _ w).grown h2 (Nat.le_refl _) (by simp))
  have e : (madeCells (Value.int .u8 0).cells (n * 1)).toList = bcells (List.replicate n 0) := by
    have := toList_madeCells_one (Value.int .u8 0) n
    simp [bcells, Value.cells] at this ⊢; exact this
  unfold ownB; rw [← e]; simpa using h1
/-- make([]byte, 0, n) -/
theorem wpList_make_room {w : World} {ops : Array Oper} {rest : List Oper} {o : Oper} {a : Act} {Q : Exit → Act → World → Prop}
    (hg : o.guard = none) (l c : Operand) (hop : o.op = Op.makeSlice 22 l c) (kl kc : IntKind) (C : Int) (n : Nat) (hl : a.eval l = .int kl 0) (hc : a.eval c = .int kc C) (hC : C = (n : Int)) (hn : n ≤ 140737488355328)
    (hK : ∀ w', ownB w' w.heap.size (.slice (some ⟨w.heap.size, 0, none⟩) 0 n) [] → Below w.heap.size w w' → wpList Tryd.prog ops Q rest (a.put o.dst (.slice (some ⟨w.heap.size, 0, none⟩) 0 n)) w') :
    wpList Tryd.prog ops Q (o :: rest) a w := by
  obtain ⟨i0, hi, hz0, hz1, hz2⟩ := info_parts Tryd.infoB
  refine wpList_make_own w hg l c 22 hop w.heap.size 5 i0 (.int .u8 0) 1 Tryd.underlying22 hi hz0 hz1 kl kc C n hl hc hC (by rw [hz2]; omega) (by unfold maxLen; omega) (Nat.le_refl _) ?_
  intro w' h1 h2
  exact hK w' h1 ((Below.refl _ w).grown h2 (Nat.le_refl _) (by simp))
theorem ownB.stored {w : World} {B g cap n : Nat} {l : List UInt8} (h : ownB w B (.slice (some ⟨g, 0, none⟩) n cap) l) (hn : l.length = n) (j : Nat) (c : Int) (h0 : 0 ≤ c) (h1 : c ≤ 255) :
    ownB (w.setCell ⟨g, j, none⟩ (.int .u8 c)) B (.slice (some ⟨g, 0, none⟩) n cap) (l.set j (UInt8.ofNat c.toNat)) := by
  subst hn
  have := (World.ownsRow.stored h j (.int .u8 c)).1
  have e : (UInt8.ofNat c.toNat).toNat = c.toNat := by simp [UInt8.toNat_ofNat']; omega
  have e2 : ((c.toNat : Nat) : Int) = c := by omega
  unfold ownB
  have e3 : bcells (l.set j (UInt8.ofNat c.toNat)) = (bcells l).set j (.int .u8 c) := by simp only [bcells, List.map_set, e, e2]
  rw [e3]; simpa using this
theorem ownB.cell {w : World} {B g cap n : Nat} {l : List UInt8} (h : ownB w B (.slice (some ⟨g, 0, none⟩) n cap) l) (hn : l.length = n) (j : Nat) (hj : j < n) : ∃ c, w.cell? ⟨g, j, none⟩ = some (.int .u8 c) := by
  subst hn
  have := World.ownsRow.cellAt h j (by omega)
  exact ⟨(l[j].toNat : Int), by rw [this]; simp [bcells, hj]⟩
theorem ownB.frozen {w : World} {B g cap n : Nat} {l : List UInt8} (h : ownB w B (.slice (some ⟨g, 0, none⟩) n cap) l) (hn : l.length = n) (j : Nat) : w.frozen? ⟨g, j, none⟩ = false := by
  subst hn
  exact World.ownsRow.frozenAt h j

/-- append of two bytes, as one step of a region that draws its order -/
theorem step_append_2 {w : World} {ops : Array Oper} {o : Oper} {a : Act} {K : Act → World → Prop} {Q : Exit → Act → World → Prop} {E : Prop} (hgd : o.guard = none) (s x : Operand)
    (ho : o.op = .call { callee := .builtin .append, args := #[s, x], argTypes := #[22, 22] })
    (B : Nat) (v : Value) (l : List UInt8) (hs : a.eval s = v) (hown : ownB w B v l)
    (c d : Int) (hx : a.eval x = .slice (some ⟨w.heap.size, 0, none⟩) 2 2) (h0 : 0 ≤ c) (h1 : c ≤ 255) (k0 : 0 ≤ d) (k1 : d ≤ 255)
    (hl : l.length ≤ 70368744177664) (hB : B ≤ w.heap.size)
    (h : ∀ v' w', ownB w' B v' (l ++ [UInt8.ofNat c.toNat, UInt8.ofNat d.toNat]) → Below B w w' → K (a.put o.dst v') w') :
    if Region.wanted o (yielded ops a.tmps) = true then Oper.wp Tryd.prog o a ((w.alloc (.cells #[.int .u8 c, .int .u8 d] 5)).drew) K Q else E := by
  have hw : Region.wanted o (yielded ops a.tmps) = true := by simp [Region.wanted, hgd]
  rw [if_pos hw]
  obtain ⟨i0, hi, hz0, hz1, hz2⟩ := info_parts Tryd.infoB
  have hcs : ∀ j u, [Value.int .u8 c, .int .u8 d][j]? = some u → ((w.alloc (.cells #[.int .u8 c, .int .u8 d] 5)).drew).cell? ((⟨w.heap.size, 0, none⟩ : Addr).add j) = some u := by
    intro j u hj
    match j, hj with
    | 0, hj => simp at hj; subst hj; simp [Addr.add]
    | 1, hj => simp at hj; subst hj; simp [Addr.add]
  have hB' : B ≤ ((w.alloc (.cells #[.int .u8 c, .int .u8 d] 5)).drew).heap.size := by simp; omega
  refine wp_append_own _ s x 22 ho B 5 i0 (.int .u8 0) 1 1 Tryd.underlying22 hi hz0 hz1 hz2 rfl (by decide) v l.length (bcells l) hs (ownB.drew (ownB.alloc hown _)) ⟨w.heap.size, 0, none⟩ 2 2 [.int .u8 c, .int .u8 d] hx rfl hcs ?_ (by unfold maxLen; omega) (by omega) hB' ?_
  · intro u hu; simp at hu; rcases hu with hu | hu <;> subst hu <;> rfl
  · intro v' w' h2 h3 _
    have e : (UInt8.ofNat c.toNat).toNat = c.toNat := by simp [UInt8.toNat_ofNat']; omega
    have f : (UInt8.ofNat d.toNat).toNat = d.toNat := by simp [UInt8.toNat_ofNat']; omega
    have e2 : ((c.toNat : Nat) : Int) = c := by omega
    have f2 : ((d.toNat : Nat) : Int) = d := by omega
    refine h v' w' ?_ ((((Below.refl B w).alloc hB _).drew).grown h3 hB' fun k hk => (World.ownsRow.lt hown k hk).1)
    unfold ownB
    have e3 : bcells (l ++ [UInt8.ofNat c.toNat, UInt8.ofNat d.toNat]) = bcells l ++ [.int .u8 c, .int .u8 d] := by simp only [bcells, List.map_append, List.map_cons, List.map_nil, e, e2, f, f2]
    rw [e3]; simpa using h2

/-- append of one byte, its cell's block told by its number -/
theorem wpList_append_byteg {w : World} {ops : Array Oper} {rest : List Oper} {o : Oper} {a : Act} {Q : Exit → Act → World → Prop} (hgd : o.guard = none) (s x : Operand)
    (ho : o.op = .call { callee := .builtin .append, args := #[s, x], argTypes := #[22, 22] })
    (B : Nat) (v : Value) (l : List UInt8) (hs : a.eval s = v) (hown : ownB w B v l)
    (c : Int) (g : Nat) (hx : a.eval x = .slice (some ⟨g, 0, none⟩) 1 1) (hg : g = w.heap.size) (h0 : 0 ≤ c) (h1 : c ≤ 255)
    (hl : l.length ≤ 70368744177664) (hB : B ≤ w.heap.size)
    (h : ∀ v' w', ownB w' B v' (l ++ [UInt8.ofNat c.toNat]) → Below B w w' → wpList Tryd.prog ops Q rest (a.put o.dst v') w') : wpList Tryd.prog ops Q (o :: rest) a (w.alloc (.cells #[.int .u8 c] 5)) := by
  subst hg
  exact wpList_append_byte hgd s x ho B v l hs hown c hx h0 h1 hl hB h

/-! A region that draws its order, whose operations only read and whose calls make new memory alone: one walk, in the order of the text. -/
/-- the worlds that are W with new blocks -/
structure BW (W : World) where
  u : World
  le : Below W.heap.size W u
theorem BW.some (W : World) : Nonempty (BW W) := ⟨⟨W, Below.refl _ _⟩⟩
theorem wp_region_below {id : Nat} {Q : Exit → Act → World → Prop} {a : Act} {w : World} {l : List Oper} (hm : Tryd.prog.follows .mixedOrders = true) (hB : Region.lexB .any l.toArray = true)
    (h : wpQuiet Tryd.prog l.toArray (fun w' => ∃ u : BW w, w' = u.u) (fun a' => ∀ w', (∃ u : BW w, w' = u.u) → Q .normal a' w') l a) : (Code.region id l.toArray true).wp Tryd.prog Q a w :=
  wp_region_quiet (C := fun w' => ∃ u : BW w, w' = u.u) hm hB ⟨⟨w.drew, (Below.refl _ _).drew⟩, rfl⟩ (by simpa using h)
theorem Calls.into {f : FuncId} {args : Array Value} {W : World} {u : BW W} {v : Value}
    (h : Calls Tryd.prog f args u.u fun e w' => e = .returned v ∧ Below u.u.heap.size u.u w') : Calls Tryd.prog f args u.u fun e w'' => e = .returned v ∧ ∃ m : BW W, w'' = m.u :=
  h.mono fun _ w' ⟨he, hb⟩ => ⟨he, ⟨⟨w', u.le.trans (hb.mono u.le.size)⟩, rfl⟩⟩
theorem Calls.into_same {f : FuncId} {args : Array Value} {W : World} {u : BW W} {v : Value}
    (h : Calls Tryd.prog f args u.u fun e w' => e = .returned v ∧ w' = u.u) : Calls Tryd.prog f args u.u fun e w'' => e = .returned v ∧ ∃ m : BW W, w'' = m.u :=
  h.mono fun _ _ ⟨he, hb⟩ => ⟨he, u, hb⟩
theorem lt_of_cell {w : World} {g j : Nat} {v : Value} (h : w.cell? ⟨g, j, none⟩ = some v) : g < w.heap.size := by
  unfold World.cell? at h
  cases hg : w.heap[g]? with
  | none => simp [hg] at h
  | some o => exact lt_of_block hg
end Go.Proofs.YteflhnmoceppgaaDoor
