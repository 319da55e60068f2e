/-
  Rows of records of numbers: a row of n records of k numbers each is read as one flat list of n * k numbers.
-/
import Derived.Test.YteflhnmoceppgaaDoorInts
import Derived.Laws.AppendOwnNone
import Derived.Laws.OwnMore
namespace Go.Proofs.YteflhnmoceppgaaDoor
open Go.RowKit Go.PlainAid
/-- a row of the call's own: n records of k numbers -/
def ownR (w : World) (B : Nat) (E : TypeId) (k : Nat) (v : Value) (n : Nat) (xs : List Int) : Prop := w.ownsRow B E k v n (icells xs)
section
variable {w w' : World} {B : Nat} {E : TypeId} {k : Nat} {v : Value} {n : Nat} {xs : List Int}
theorem ownR.len (h : ownR w B E k v n xs) : xs.length = n * k := by have := h.1; simpa [icells] using this
theorem ownR.nil (w : World) (B : Nat) (E : TypeId) (k : Nat) : ownR w B E k (.slice none 0 0) 0 [] := World.ownsRow_nil _ _ _ _
theorem ownR.alloc (h : ownR w B E k v n xs) (o : Obj) : ownR (w.alloc o) B E k v n xs := World.ownsRow.alloc h o
theorem ownR.far (h : ownR w B E k v n xs) (hb : Below w.heap.size w w') : ownR w' B E k v n xs := by
  obtain ⟨h1, h2⟩ := h
  refine ⟨h1, ?_⟩
  rcases h2 with h2 | ⟨g, cap, cur, e, hB, hh, r⟩
  · exact .inl h2
  · exact .inr ⟨g, cap, cur, e, hB, (hb.block g (lt_of_block hh)).trans hh, r⟩
theorem ownR.mono {B' : Nat} (h : ownR w B E k v n xs) (hB : B' ≤ B) : ownR w B' E k v n xs := by
  obtain ⟨h1, h2⟩ := h
  refine ⟨h1, ?_⟩
  rcases h2 with h2 | ⟨g, cap, cur, e, hb, r⟩
  · exact .inl h2
  · exact .inr ⟨g, cap, cur, e, Nat.le_trans hB hb, r⟩
theorem ownR.shape (h : ownR w B E k v n xs) : (v = .slice none 0 0 ∧ n = 0 ∧ xs = []) ∨ ∃ g cap, v = .slice (some ⟨g, 0, none⟩) n cap ∧ B ≤ g ∧ g < w.heap.size ∧ n ≤ cap ∧ cap ≤ maxLen := by
  have hl := h.len
  rcases h.2 with ⟨h1, h2⟩ | ⟨g, cap, cur, e, hb, hh, hn, hm, _⟩
  · left
    subst h2
    exact ⟨h1, rfl, by simpa using hl⟩
  · exact .inr ⟨g, cap, e, hb, lt_of_block hh, hn, hm⟩
theorem ownR.form (h : ownR w B E k v n xs) : ∃ T c, v = .slice T n c := by
  rcases h.shape with ⟨rfl, rfl, _⟩ | ⟨g, cap, rfl, _⟩
  · exact ⟨_, _, rfl⟩
  · exact ⟨_, _, rfl⟩
theorem ownR.cell {g cap : Nat} (h : ownR w B E k (.slice (some ⟨g, 0, none⟩) n cap) n xs) (j : Nat) (hj : j < n * k) : w.cell? ⟨g, j, none⟩ = some (.int .i64 (ia xs j)) := by
  have hl := h.len
  rw [World.ownsRow.cellAt h j hj]; exact icells_at xs j (by omega)
theorem ownR.frozen {g cap : Nat} (h : ownR w B E k (.slice (some ⟨g, 0, none⟩) n cap) n xs) (j : Nat) : w.frozen? ⟨g, j, none⟩ = false := World.ownsRow.frozenAt h j
theorem ownR.stored {g cap : Nat} (h : ownR w B E k (.slice (some ⟨g, 0, none⟩) n cap) n xs) (j : Nat) (c : Int) :
    ownR (w.setCell ⟨g, j, none⟩ (.int .i64 c)) B E k (.slice (some ⟨g, 0, none⟩) n cap) n (xs.set j c) := by
  have := (World.ownsRow.stored h j (.int .i64 c)).1
  unfold ownR
  have e3 : icells (xs.set j c) = (icells xs).set j (.int .i64 c) := by simp only [icells, List.map_set]
  rw [e3]; exact this
theorem ownR.reads {T : Option Addr} {m cap : Nat} (h : ownR w B E k (.slice T m cap) n xs) : m = n ∧ IntsAt w T xs := by
  have hl := h.len
  rcases h.shape with ⟨hv, rfl, rfl⟩ | ⟨g, cap', hv, hB, hg, _⟩
  · simp at hv; exact ⟨hv.2.1, .inl rfl⟩
  · simp only [Value.slice.injEq] at hv
    obtain ⟨rfl, rfl, rfl⟩ := hv
    exact ⟨rfl, .inr ⟨g, 0, rfl, hg, fun i hi => by rw [Nat.zero_add]; exact h.cell i (by omega)⟩⟩
end
theorem ia_app (a b : List Int) (j : Nat) : ia (a ++ b) (a.length + j) = ia b j := by simp [ia, List.getD, List.getElem?_append_right]
/-- what is known of the record's type E, of the slice's type S -/
structure Inf (S E : TypeId) (k : Nat) : Prop where
  und : Tryd.prog.underlying S = some (.slice E)
  inf : (Tryd.prog.info? E).map (fun i => (i.zero, i.size, i.bytes)) = some (some (.agg (Array.replicate k (.int .i64 0))), k, 8 * k)
  pos : 0 < k
  le : k ≤ 4
theorem madeCells_zero (k n : Nat) (hk : 0 < k) : (madeCells (Array.replicate k (Value.int .i64 0)) n).toList = icells (List.replicate n 0) := by
  unfold madeCells icells
  rw [Array.toList_map, List.map_replicate]
  apply List.ext_getElem
  · simp
  · intro i h1 h2
    have hlt : i % k < k := Nat.mod_lt _ hk
    simp [Array.getElem!_eq_getD, Array.getD, hlt]
theorem wpList_make_recs {w : World} {ops : Array Oper} {rest : List Oper} {o : Oper} {a : Act} {Q : Exit → Act → World → Prop} {S E : TypeId} {k : Nat} (hi : Inf S E k)
    (hg : o.guard = none) (l c : Operand) (hop : o.op = Op.makeSlice S l c) (kl kc : IntKind) (L C : Int) (n : Nat) (hl : a.eval l = .int kl L) (hc : a.eval c = .int kc C) (hL : L = (n : Int)) (hC : C = (n : Int)) (hn : n ≤ 8796093022208)
    (hK : ∀ w', ownR w' w.heap.size E k (.slice (some ⟨w.heap.size, 0, none⟩) n n) n (List.replicate (n * k) 0) → Below w.heap.size w w' → wpList Tryd.prog ops Q rest (a.put o.dst (.slice (some ⟨w.heap.size, 0, none⟩) n n)) w') :
    wpList Tryd.prog ops Q (o :: rest) a w := by
  obtain ⟨i0, hi0, hz0, hz1, hz2⟩ := info_parts hi.inf
  have hle := hi.le
  have hpos := hi.pos
  refine wpList_make_full w hg l c S hop w.heap.size E i0 _ k hi.und hi0 hz0 hz1 kl kc L C n hl hc hL hC ?_ (by unfold maxLen; omega) (Nat.le_refl _) ?_
  · rw [hz2]
    calc 8 * k * n ≤ 8 * 4 * n := by exact Nat.mul_le_mul_right n (by omega)
      _ ≤ 281474976710656 := by omega
  · intro w' h1 h2
    refine hK w' ?_ ((Below.refl _ w).grown h2 (Nat.le_refl _) (by simp))
    have e := madeCells_zero k (n * k) hpos
    unfold ownR; rw [← e]; exact h1
theorem icells_one {k : List Int} : ∀ u ∈ icells k, u.oneCell' = true := by
  intro u hu
  simp [icells] at hu
  obtain ⟨c, _, rfl⟩ := hu
  rfl
theorem plain_add (b o i : Nat) : (⟨b, o, none⟩ : Addr).add i = ⟨b, o + i, none⟩ := by unfold Addr.add; split <;> simp_all
/-- append of m records that are read at T -/
theorem wpList_append_recs {w : World} {ops : Array Oper} {rest : List Oper} {o : Oper} {a : Act} {Q : Exit → Act → World → Prop} {S E : TypeId} {k : Nat} (hi : Inf S E k) (hgd : o.guard = none) (s x : Operand)
    (ho : o.op = .call { callee := .builtin .append, args := #[s, x], argTypes := #[S, S] })
    (B : Nat) (v : Value) (n : Nat) (xs : List Int) (hs : a.eval s = v) (hown : ownR w B E k v n xs) (T : Option Addr) (m c : Nat) (ys : List Int) (hx : a.eval x = .slice T m c) (hT : T = none → m = 0 ∧ c = 0) (hy : ys.length = m * k) (hsrc : IntsAt w T ys)
    (hl : n + m ≤ 1099511627776) (hB : B ≤ w.heap.size)
    (h : ∀ v' w', ownR w' B E k v' (n + m) (xs ++ ys) → Below B w w' → wpList Tryd.prog ops Q rest (a.put o.dst v') w') : wpList Tryd.prog ops Q (o :: rest) a w := by
  obtain ⟨i0, hi0, hz0, hz1, hz2⟩ := info_parts hi.inf
  have hle := hi.le
  have hpos := hi.pos
  have e3 : icells (xs ++ ys) = icells xs ++ icells ys := by simp [icells]
  cases hTT : T with
  | none =>
    obtain ⟨rfl, rfl⟩ := hT hTT
    subst hTT
    have hys : ys = [] := by simpa using hy
    subst hys
    refine wpList_append_own_none hgd s x S ho B E i0 k hi.und hi0 v n (icells xs) hs hown hx ?_
    exact h v w (by simpa using hown) (Below.refl _ _)
  | some ad =>
    subst hTT
    have hmk : (n + m) * (8 * k) ≤ 140737488355328 := by
      calc (n + m) * (8 * k) ≤ (n + m) * (8 * 4) := Nat.mul_le_mul_left _ (by omega)
        _ ≤ 140737488355328 := by omega
    refine wpList_append_own w hgd s x S ho B E i0 _ k (8 * k) hi.und hi0 hz0 hz1 hz2 (by simp [Value.cells]) hpos v n (icells xs) hs hown ad m c (icells ys) hx (by simpa [icells] using hy) ?_ icells_one (by unfold maxLen; omega) hmk hB ?_
    · intro j u hj
      rcases hsrc with hsrc | ⟨g, off, hT2, hg, hc⟩
      · subst hsrc; simp [icells] at hj
      · have hj' : j < ys.length := by
          rcases Nat.lt_or_ge j ys.length with h | h
          · exact h
          · simp [icells, List.getElem?_eq_none (show (ys.map fun c => Value.int .i64 c).length ≤ j by simpa using h)] at hj
        simp only [Option.some.injEq] at hT2
        subst hT2
        rw [icells_at ys j hj'] at hj
        rw [plain_add, hc j hj']; exact hj
    · intro v' w' h2 h3 _
      refine h v' w' ?_ ((Below.refl B w).grown h3 hB fun k hk => (World.ownsRow.lt hown k hk).1)
      unfold ownR
      rw [e3]; exact h2
theorem append_types (P : Program) (w : World) (t u ty e e' : TypeId) (ht : P.underlying t = some (.slice e)) (hu : P.underlying u = some (.slice e')) (i : TypeInfo) (hi : P.info? e = some i) (T : Option Addr) (n c : Nat) (x : Value) :
    (Builtin.append_ #[t, u] ty #[.slice T n c, x]).run P w = (Builtin.append_ #[t, t] ty #[.slice T n c, x]).run P w := by
  simp [Builtin.append_, run_underlying ht, run_underlying hu, sizeOf, typeInfo, hi]
/-- append of m records that are read at an address, by a slice's named type -/
theorem wpList_append_recs2 {w : World} {ops : Array Oper} {rest : List Oper} {o : Oper} {a : Act} {Q : Exit → Act → World → Prop} {S E S2 : TypeId} {k : Nat} (hi : Inf S E k) (hu : Tryd.prog.underlying S2 = some (.slice E)) (hgd : o.guard = none) (s x : Operand)
    (ho : o.op = .call { callee := .builtin .append, args := #[s, x], argTypes := #[S, S2] })
    (B : Nat) (v : Value) (n : Nat) (xs : List Int) (hs : a.eval s = v) (hown : ownR w B E k v n xs) (ad : Addr) (m c : Nat) (ys : List Int) (hx : a.eval x = .slice (some ad) m c) (hy : ys.length = m * k) (hsrc : IntsAt w (some ad) ys)
    (hl : n + m ≤ 1099511627776) (hB : B ≤ w.heap.size)
    (h : ∀ v' w', ownR w' B E k v' (n + m) (xs ++ ys) → Below B w w' → wpList Tryd.prog ops Q rest (a.put o.dst v') w') : wpList Tryd.prog ops Q (o :: rest) a w := by
  obtain ⟨i0, hi0, hz0, hz1, hz2⟩ := info_parts hi.inf
  have hle := hi.le
  have hpos := hi.pos
  have e3 : icells (xs ++ ys) = icells xs ++ icells ys := by simp [icells]
  have hmk : (n + m) * (8 * k) ≤ 140737488355328 := by
    calc (n + m) * (8 * k) ≤ (n + m) * (8 * 4) := Nat.mul_le_mul_left _ (by omega)
      _ ≤ 140737488355328 := by omega
  have hnews : ∀ j u, (icells ys)[j]? = some u → w.cell? (ad.add j) = some u := by
    intro j u hj
    rcases hsrc with hsrc | ⟨g, off, hT2, hg, hc⟩
    · subst hsrc; simp [icells] at hj
    · have hj' : j < ys.length := by
        rcases Nat.lt_or_ge j ys.length with h | h
        · exact h
        · simp [icells, List.getElem?_eq_none (show (ys.map fun c => Value.int .i64 c).length ≤ j by simpa using h)] at hj
      simp only [Option.some.injEq] at hT2
      subst hT2
      rw [icells_at ys j hj'] at hj
      rw [plain_add, hc j hj']; exact hj
  obtain ⟨v', w', hr, h2, h3, _⟩ := run_append_own (P := Tryd.prog) w B S o.type E i0 _ k (8 * k) hi.und hi0 hz0 hz1 hz2 (by simp [Value.cells]) hpos v n (icells xs) hown ad m c (icells ys) (by simpa [icells] using hy) hnews icells_one (by unfold maxLen; omega) hmk hB
  refine wpList_plain hgd fun K hK => ?_
  obtain ⟨T, nn, cc, rfl⟩ : ∃ T nn cc, v = .slice T nn cc := by
    rcases hown.shape with ⟨rfl, _⟩ | ⟨g, cap, rfl, _⟩
    · exact ⟨_, _, _, rfl⟩
    · exact ⟨_, _, _, rfl⟩
  have hr2 := (append_types Tryd.prog w S S2 o.type E E hi.und hu i0 hi0 T nn cc (.slice (some ad) m c)).trans hr
  unfold Oper.wp execOp
  simp only [ho, resolve, invoke, builtin, Sem.run_bind, Sem.run_pure, Result.andThen_ok, List.map_toArray, List.map_cons, List.map_nil, hs, hx, hr2]
  refine hK _ _ (h v' w' ?_ ((Below.refl B w).grown h3 hB fun k hk => (World.ownsRow.lt hown k hk).1))
  unfold ownR
  rw [e3]; exact h2
theorem ints_new (w : World) (E : TypeId) (ys : List Int) : IntsAt (w.alloc (.cells (icells ys).toArray E)) (some ⟨w.heap.size, 0, none⟩) ys := by
  refine .inr ⟨w.heap.size, 0, rfl, by simp, fun i hi => ?_⟩
  rw [Nat.zero_add, cell_of_row _ _ _ _ E (0, 0) (heap_alloc_new w _)]
  simpa using icells_at ys i hi
theorem ints_take {w : World} {T : Option Addr} {xs : List Int} (h : IntsAt w T xs) (j : Nat) : IntsAt w T (xs.take j) := by
  rcases h with rfl | ⟨g, off, h1, h2, h3⟩
  · left; simp
  · refine .inr ⟨g, off, h1, h2, fun i hi => ?_⟩
    have hi' : i < xs.length ∧ i < j := by simp at hi; omega
    rw [h3 i hi'.1, ia_eq _ i hi, ia_eq _ i hi'.1]; simp
theorem ints_drop {w : World} {g off : Nat} {xs : List Int} (h : IntsAt w (some ⟨g, off, none⟩) xs) (j : Nat) : IntsAt w (some ⟨g, off + j, none⟩) (xs.drop j) := by
  rcases h with rfl | ⟨g', off', h1, h2, h3⟩
  · left; simp
  · simp only [Option.some.injEq, Addr.mk.injEq, and_true] at h1
    obtain ⟨rfl, rfl⟩ := h1
    refine .inr ⟨g, off + j, rfl, h2, fun i hi => ?_⟩
    have hi' : j + i < xs.length := by simp at hi; omega
    rw [Nat.add_assoc, h3 (j + i) hi', ia_eq _ i hi, ia_eq _ _ hi']; simp
theorem set_app (a b : List Int) (i : Nat) (c : Int) : (a ++ b).set (a.length + i) c = a ++ b.set i c := by
  rw [List.set_append_right _ _ (by omega)]; simp
theorem set_app0 (a b : List Int) (c : Int) : (a ++ b).set a.length c = a ++ b.set 0 c := set_app a b 0 c
/-- the marks that are laid: 1, 2, .. -/
def marks (n : Nat) : List Int := (List.range n).map fun i : Nat => ((i : Int) + 1)
theorem marks_len (n : Nat) : (marks n).length = n := by simp [marks]
theorem ia_marks (n i : Nat) (h : i < n) : ia (marks n) i = (i : Int) + 1 := by rw [ia_eq _ _ (by rw [marks_len]; exact h)]; simp [marks]
theorem marks_succ (n : Nat) : marks (n + 1) = marks n ++ [(n : Int) + 1] := by simp [marks, List.range_succ]
theorem marks_set (n : Nat) (xs : List Int) (h : n < xs.length) (c : Int) (hc : c = (n : Int) + 1) : (marks n ++ xs.drop n).set n c = marks (n + 1) ++ xs.drop (n + 1) := by
  have e := set_app0 (marks n) (xs.drop n) c
  rw [marks_len] at e
  rw [e, List.drop_eq_getElem_cons h, marks_succ, hc]
  simp only [List.set_cons_zero, List.append_assoc, List.cons_append, List.nil_append]
theorem marks_fill2 (xs : List Int) (j : Nat) (h : j * 2 + 2 ≤ xs.length) : (((marks (j * 2) ++ xs.drop (j * 2)).set (j * 2) (1 + (j : Int) * 2)).set (j * 2 + 1) (1 + (j : Int) * 2 + 1)) = marks ((j + 1) * 2) ++ xs.drop ((j + 1) * 2) := by
  rw [marks_set _ _ (by omega) _ (by omega), marks_set _ _ (by omega) _ (by omega)]
  simp only [Nat.add_mul, Nat.add_assoc, Nat.one_mul, Nat.reduceAdd]
theorem marks_fill3 (xs : List Int) (j : Nat) (h : j * 3 + 3 ≤ xs.length) : ((((marks (j * 3) ++ xs.drop (j * 3)).set (j * 3) (1 + (j : Int) * 3)).set (j * 3 + 1) (1 + (j : Int) * 3 + 1)).set (j * 3 + 2) (1 + (j : Int) * 3 + 2)) = marks ((j + 1) * 3) ++ xs.drop ((j + 1) * 3) := by
  rw [marks_set _ _ (by omega) _ (by omega), marks_set _ _ (by omega) _ (by omega), marks_set _ _ (by omega) _ (by omega)]
  simp only [Nat.add_mul, Nat.add_assoc, Nat.one_mul, Nat.reduceAdd]
theorem marks_fill4 (xs : List Int) (j : Nat) (h : j * 4 + 4 ≤ xs.length) : (((((marks (j * 4) ++ xs.drop (j * 4)).set (j * 4) (1 + (j : Int) * 4)).set (j * 4 + 1) (1 + (j : Int) * 4 + 1)).set (j * 4 + 2) (1 + (j : Int) * 4 + 2)).set (j * 4 + 3) (1 + (j : Int) * 4 + 3)) = marks ((j + 1) * 4) ++ xs.drop ((j + 1) * 4) := by
  rw [marks_set _ _ (by omega) _ (by omega), marks_set _ _ (by omega) _ (by omega), marks_set _ _ (by omega) _ (by omega), marks_set _ _ (by omega) _ (by omega)]
  simp only [Nat.add_mul, Nat.add_assoc, Nat.one_mul, Nat.reduceAdd]
theorem grownBy_refl (w : World) (r : Option Nat) : w.grownBy w r := ⟨rfl, rfl, rfl, Nat.le_refl _, fun _ _ _ => rfl⟩
theorem grown_set {w w' : World} {r : Option Nat} (h : w.grownBy w' r) (a : Addr) (v : Value) (hr : r = some a.block) : w.grownBy (w'.setCell a v) r :=
  ⟨h.os, h.tape, h.output, by simpa using h.size, fun k hk hne => (heap_setCell_other w' a k v (fun e => hne (by rw [hr, e]))).trans (h.block k hk hne)⟩
theorem below_set {B : Nat} {w w' : World} (h : Below B w w') (a : Addr) (v : Value) (hB : B ≤ a.block) : Below B w (w'.setCell a v) :=
  ⟨h.os, h.tape, h.output, by simpa using h.size, fun k hk => (heap_setCell_other w' a k v (fun e => by omega)).trans (h.block k hk)⟩
end Go.Proofs.YteflhnmoceppgaaDoor
