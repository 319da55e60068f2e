/-
  Rows of records of whatever cells: a row of n records of k cells each is read as one flat list of n * k cells.
-/
import Derived.Test.YteflhnmoceppgaaDoorRecs
namespace Go.Proofs.YteflhnmoceppgaaDoor
open Go.RowKit Go.PlainAid
/-- a row of the call's own: n records of k cells -/
def ownV (w : World) (B : Nat) (E : TypeId) (k : Nat) (v : Value) (n : Nat) (cs : List Value) : Prop := w.ownsRow B E k v n cs
/-- the slice at T reads as the cells cs -/
def CellsAt (w : World) (T : Option Addr) (cs : List Value) : Prop :=
  cs = [] ∨ ∃ g off, T = some ⟨g, off, none⟩ ∧ g < w.heap.size ∧ ∀ i, i < cs.length → w.cell? ⟨g, off + i, none⟩ = cs[i]?
theorem CellsAt.below {w w' : World} {T : Option Addr} {l : List Value} (h : CellsAt w T l) (hb : Below w.heap.size w w') : CellsAt w' T l := by
  rcases h with h | ⟨g, off, h1, h2, h3⟩
  · exact .inl h
  · exact .inr ⟨g, off, h1, Nat.lt_of_lt_of_le h2 hb.size, fun i hi => (hb.cell (p := ⟨g, off + i, none⟩) h2).trans (h3 i hi)⟩
theorem CellsAt.alloc {w : World} {T : Option Addr} {l : List Value} (h : CellsAt w T l) (o : Obj) : CellsAt (w.alloc o) T l := h.below ((Below.refl _ w).alloc (Nat.le_refl _) o)
section
variable {w w' : World} {B : Nat} {E : TypeId} {k : Nat} {v : Value} {n : Nat} {xs : List Value}
theorem ownV.len (h : ownV w B E k v n xs) : xs.length = n * k := h.1
theorem ownV.nil (w : World) (B : Nat) (E : TypeId) (k : Nat) : ownV w B E k (.slice none 0 0) 0 [] := World.ownsRow_nil _ _ _ _
theorem ownV.alloc (h : ownV w B E k v n xs) (o : Obj) : ownV (w.alloc o) B E k v n xs := World.ownsRow.alloc h o
theorem ownV.far (h : ownV w B E k v n xs) (hb : Below w.heap.size w w') : ownV w' B E k v n xs := by
  obtain ⟨h1, h2⟩ := h
  refine ⟨h1, ?_⟩
  rcases h2 with h2 | ⟨g, cap, cur, e, hB, hh, r⟩
  · exact .inl h2
  · exact .inr ⟨g, cap, cur, e, hB, (hb.block g (lt_of_block hh)).trans hh, r⟩
theorem ownV.mono {B' : Nat} (h : ownV w B E k v n xs) (hB : B' ≤ B) : ownV w B' E k v n xs := by
  obtain ⟨h1, h2⟩ := h
  refine ⟨h1, ?_⟩
  rcases h2 with h2 | ⟨g, cap, cur, e, hb, r⟩
  · exact .inl h2
  · exact .inr ⟨g, cap, cur, e, Nat.le_trans hB hb, r⟩
theorem ownV.shape (h : ownV w B E k v n xs) : (v = .slice none 0 0 ∧ n = 0 ∧ xs = []) ∨ ∃ g cap, v = .slice (some ⟨g, 0, none⟩) n cap ∧ B ≤ g ∧ g < w.heap.size ∧ n ≤ cap ∧ cap ≤ maxLen := by
  have hl := h.len
  rcases h.2 with ⟨h1, h2⟩ | ⟨g, cap, cur, e, hb, hh, hn, hm, _⟩
  · left
    subst h2
    exact ⟨h1, rfl, by simpa using hl⟩
  · exact .inr ⟨g, cap, e, hb, lt_of_block hh, hn, hm⟩
theorem ownV.form (h : ownV w B E k v n xs) : ∃ T c, v = .slice T n c := by
  rcases h.shape with ⟨rfl, rfl, _⟩ | ⟨g, cap, rfl, _⟩
  · exact ⟨_, _, rfl⟩
  · exact ⟨_, _, rfl⟩
theorem ownV.cell {g cap : Nat} (h : ownV w B E k (.slice (some ⟨g, 0, none⟩) n cap) n xs) (j : Nat) (hj : j < n * k) : w.cell? ⟨g, j, none⟩ = xs[j]? := World.ownsRow.cellAt h j hj
theorem ownV.has {g cap : Nat} (h : ownV w B E k (.slice (some ⟨g, 0, none⟩) n cap) n xs) (j : Nat) (hj : j < n * k) : ∃ x, w.cell? ⟨g, j, none⟩ = some x := by
  have hl := h.len
  rw [h.cell j hj]
  exact ⟨xs[j]'(by omega), List.getElem?_eq_getElem (by omega)⟩
theorem ownV.frozen {g cap : Nat} (h : ownV w B E k (.slice (some ⟨g, 0, none⟩) n cap) n xs) (j : Nat) : w.frozen? ⟨g, j, none⟩ = false := World.ownsRow.frozenAt h j
theorem ownV.stored {g cap : Nat} (h : ownV w B E k (.slice (some ⟨g, 0, none⟩) n cap) n xs) (j : Nat) (c : Value) :
    ownV (w.setCell ⟨g, j, none⟩ c) B E k (.slice (some ⟨g, 0, none⟩) n cap) n (xs.set j c) := (World.ownsRow.stored h j c).1
theorem ownV.reads {T : Option Addr} {m cap : Nat} (h : ownV w B E k (.slice T m cap) n xs) : m = n ∧ CellsAt w T xs := by
  have hl := h.len
  rcases h.shape with ⟨hv, rfl, rfl⟩ | ⟨g, cap', hv, hB, hg, _⟩
  · simp at hv; exact ⟨hv.2.1, .inl rfl⟩
  · simp only [Value.slice.injEq] at hv
    obtain ⟨rfl, rfl, rfl⟩ := hv
    exact ⟨rfl, .inr ⟨g, 0, rfl, hg, fun i hi => by rw [Nat.zero_add]; exact h.cell i (by omega)⟩⟩
end
section
variable {V : Type} {L : V → List Value} {k : Nat}
def flatV (L : V → List Value) (l : List V) : List Value := l.flatMap L
theorem flatV_len (hL : ∀ a, (L a).length = k) (l : List V) : (flatV L l).length = l.length * k := by
  induction l with
  | nil => simp [flatV]
  | cons a l ih =>
    have e : flatV L (a :: l) = L a ++ flatV L l := rfl
    rw [e, List.length_append, ih, hL, List.length_cons, Nat.add_mul]; omega
theorem flatV_at (hL : ∀ a, (L a).length = k) (l : List V) (i : Nat) (h : i < l.length) (j : Nat) (hj : j < k) : (flatV L l)[i * k + j]? = (L l[i])[j]? := by
  induction l generalizing i with
  | nil => simp at h
  | cons a l ih =>
    have e : flatV L (a :: l) = L a ++ flatV L l := rfl
    rw [e]
    cases i with
    | zero => rw [Nat.zero_mul, Nat.zero_add, List.getElem?_append_left (by rw [hL]; exact hj)]; rfl
    | succ i =>
      rw [show (i + 1) * k + j = (L a).length + (i * k + j) from by rw [hL, Nat.add_mul]; omega, List.getElem?_append_right (by omega), Nat.add_sub_cancel_left]
      exact ih i (by simpa using h)
theorem flatV_take (l : List V) (j : Nat) (h : j < l.length) : flatV L (l.take (j + 1)) = flatV L (l.take j) ++ L l[j] := by
  rw [List.take_succ_eq_append_getElem h]; simp only [flatV, List.flatMap_append, List.flatMap_cons, List.flatMap_nil, List.append_nil]
theorem flat_cells {W : World} {b o : Nat} (hk : 0 < k) (hL : ∀ a, (L a).length = k) (l : List V) (hc : ∀ i, (h : i < l.length) → ∀ j, j < k → W.cell? ⟨b, o + (i * k + j), none⟩ = (L l[i])[j]?) (i : Nat) (h : i < (flatV L l).length) : W.cell? ⟨b, o + i, none⟩ = (flatV L l)[i]? := by
  rw [flatV_len hL] at h
  have hq : i / k < l.length := Nat.div_lt_of_lt_mul (by rw [Nat.mul_comm]; exact h)
  have hm : i % k < k := Nat.mod_lt _ hk
  have e : i = i / k * k + i % k := (Nat.div_add_mod' i k).symm
  have h1 := hc (i / k) hq (i % k) hm
  rw [← flatV_at hL l (i / k) hq (i % k) hm, ← e] at h1
  exact h1
/-- a sum over a list -/
def totV (f : V → Nat) : List V → Nat
  | [] => 0
  | a :: l => f a + totV f l
theorem totV_app (f : V → Nat) (l m : List V) : totV f (l ++ m) = totV f l + totV f m := by
  induction l with
  | nil => simp [totV]
  | cons a l ih => simp only [List.cons_append, totV, ih]; omega
theorem totV_take (f : V → Nat) (l : List V) (j : Nat) (h : j < l.length) : totV f (l.take (j + 1)) = totV f (l.take j) + f l[j] := by
  rw [List.take_succ_eq_append_getElem h, totV_app]; simp [totV]
theorem totV_le (f : V → Nat) (l : List V) (j : Nat) : totV f (l.take j) ≤ totV f l := by
  have e := totV_app f (l.take j) (l.drop j)
  rw [List.take_append_drop] at e
  omega
theorem flatV_app (l m : List V) : flatV L (l ++ m) = flatV L l ++ flatV L m := by simp [flatV]
end
/-- a cell behind those that are right already -/
theorem fill_set (A Z : List Value) (n : Nat) (hA : A.length = n) (h : n < Z.length) (c : Value) : (A ++ Z.drop n).set n c = (A ++ [c]) ++ Z.drop (n + 1) := by
  subst hA
  rw [List.set_append_right _ _ (by omega), Nat.sub_self, List.drop_eq_getElem_cons h, List.set_cons_zero, List.append_assoc]
  rfl
/-- what is known of the record's type E, of the slice's type S: its zero value, its cells, its bytes -/
structure InfV (S E : TypeId) (k b : Nat) (z : Array Value) : Prop where
  und : Tryd.prog.underlying S = some (.slice E)
  inf : (Tryd.prog.info? E).map (fun i => (i.zero, i.size, i.bytes)) = some (some (.agg z), k, b)
  pos : 0 < k
  le : b ≤ 128
  zk : z.size = k
theorem wpList_make_vals {w : World} {ops : Array Oper} {rest : List Oper} {o : Oper} {a : Act} {Q : Exit → Act → World → Prop} {S E : TypeId} {k b : Nat} {z : Array Value} (hi : InfV S E k b z)
    (hg : o.guard = none) (l c : Operand) (hop : o.op = Op.makeSlice S l c) (kl kc : IntKind) (L C : Int) (n : Nat) (hl : a.eval l = .int kl L) (hc : a.eval c = .int kc C) (hL : L = (n : Int)) (hC : C = (n : Int)) (hn : n ≤ 1099511627776)
    (hK : ∀ (Z : List Value) w', ownV w' w.heap.size E k (.slice (some ⟨w.heap.size, 0, none⟩) n n) n Z → Below w.heap.size w w' → wpList Tryd.prog ops Q rest (a.put o.dst (.slice (some ⟨w.heap.size, 0, none⟩) n n)) w') :
    wpList Tryd.prog ops Q (o :: rest) a w := by
  obtain ⟨i0, hi0, hz0, hz1, hz2⟩ := info_parts hi.inf
  have hle := hi.le
  have hpos := hi.pos
  refine wpList_make_full w hg l c S hop w.heap.size E i0 _ k hi.und hi0 hz0 hz1 kl kc L C n hl hc hL hC ?_ (by unfold maxLen; omega) (Nat.le_refl _) ?_
  · rw [hz2]
    calc b * n ≤ 128 * n := Nat.mul_le_mul_right n (by omega)
      _ ≤ 281474976710656 := by omega
  · intro w' h1 h2
    exact hK _ w' h1 ((Below.refl _ w).grown h2 (Nat.le_refl _) (by simp))
/-- append of m records that are read at T -/
theorem wpList_append_vals {w : World} {ops : Array Oper} {rest : List Oper} {o : Oper} {a : Act} {Q : Exit → Act → World → Prop} {S E : TypeId} {k b : Nat} {z : Array Value} (hi : InfV S E k b z) (hgd : o.guard = none) (s x : Operand)
    (ho : o.op = .call { callee := .builtin .append, args := #[s, x], argTypes := #[S, S] })
    (B : Nat) (v : Value) (n : Nat) (xs : List Value) (hs : a.eval s = v) (hown : ownV w B E k v n xs) (T : Option Addr) (m c : Nat) (ys : List Value) (hx : a.eval x = .slice T m c) (hT : T = none → m = 0 ∧ c = 0) (hy : ys.length = m * k) (hone : ∀ u ∈ ys, u.oneCell' = true) (hsrc : CellsAt w T ys)
    (hl : n + m ≤ 1099511627776) (hB : B ≤ w.heap.size)
    (h : ∀ v' w', ownV w' B E k v' (n + m) (xs ++ ys) → Below B w w' → wpList Tryd.prog ops Q rest (a.put o.dst v') w') : wpList Tryd.prog ops Q (o :: rest) a w := by
  obtain ⟨i0, hi0, hz0, hz1, hz2⟩ := info_parts hi.inf
  have hle := hi.le
  have hpos := hi.pos
  cases hTT : T with
  | none =>
    obtain ⟨rfl, rfl⟩ := hT hTT
    subst hTT
    have hys : ys = [] := by simpa using hy
    subst hys
    refine wpList_append_own_none hgd s x S ho B E i0 k hi.und hi0 v n xs hs hown hx ?_
    exact h v w (by simpa using hown) (Below.refl _ _)
  | some ad =>
    subst hTT
    have hmk : (n + m) * b ≤ 140737488355328 := by
      calc (n + m) * b ≤ (n + m) * 128 := Nat.mul_le_mul_left _ (by omega)
        _ ≤ 140737488355328 := by omega
    refine wpList_append_own w hgd s x S ho B E i0 _ k b hi.und hi0 hz0 hz1 hz2 (by simpa [Value.cells] using hi.zk) hpos v n xs hs hown ad m c ys hx hy ?_ hone (by unfold maxLen; omega) hmk hB ?_
    · intro j u hj
      rcases hsrc with hsrc | ⟨g, off, hT2, hg, hc⟩
      · subst hsrc; simp at hj
      · have hj' : j < ys.length := (List.getElem?_eq_some_iff.1 hj).1
        simp only [Option.some.injEq] at hT2
        subst hT2
        rw [plain_add, hc j hj']; exact hj
    · intro v' w' h2 h3 _
      exact h v' w' h2 ((Below.refl B w).grown h3 hB fun k hk => (World.ownsRow.lt hown k hk).1)
end Go.Proofs.YteflhnmoceppgaaDoor
