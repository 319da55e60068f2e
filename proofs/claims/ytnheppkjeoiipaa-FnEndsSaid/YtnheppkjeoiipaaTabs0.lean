/-
  Tables, plainly: lists that rise, where a rule stands in one, what comes of putting and dropping.
-/
import Derived.Test.YtnheppkjeoiipaaRecs
namespace Go.Proofs.Ytnheppkjeoiipaa
section
variable {α : Type} (ok : α → Bool) (lt : α → α → Bool) (A : Nat → α)
def stepB (i : Nat) : Bool := ok (A i) && (i == 0 || lt (A (i - 1)) (A i))
def tblB (n : Nat) : Bool := decide (n ≤ 32) && (List.range n).all (stepB ok lt A)
variable {ok lt A}
theorem tblB_yes {n : Nat} (hn : n ≤ 32) (h : ∀ i, i < n → stepB ok lt A i = true) : tblB ok lt A n = true := by
  unfold tblB
  simp only [hn, decide_true, Bool.true_and, List.all_eq_true, List.mem_range]
  exact h
theorem tblB_no {n i : Nat} (hi : i < n) (h : stepB ok lt A i = false) : tblB ok lt A n = false := by
  unfold tblB
  rw [Bool.and_eq_false_iff]; right
  rw [List.all_eq_false]
  exact ⟨i, List.mem_range.2 hi, by simp [h]⟩
theorem tblB_long {n : Nat} (h : 32 < n) : tblB ok lt A n = false := by
  unfold tblB; simp; omega
theorem tblB_le {n : Nat} (h : tblB ok lt A n = true) : n ≤ 32 := by
  unfold tblB at h; simp at h; exact h.1
theorem tblB_step {n i : Nat} (h : tblB ok lt A n = true) (hi : i < n) : stepB ok lt A i = true := by
  unfold tblB at h; simp at h; exact h.2 i hi
theorem tblB_ok {n i : Nat} (h : tblB ok lt A n = true) (hi : i < n) : ok (A i) = true := by
  have := tblB_step h hi
  unfold stepB at this; simp at this; exact this.1
theorem tblB_lt {n i : Nat} (h : tblB ok lt A n = true) (hi : i + 1 < n) : lt (A i) (A (i + 1)) = true := by
  have := tblB_step h hi
  unfold stepB at this; simp at this; exact this.2
theorem step_bad {i : Nat} (h : ok (A i) = false) : stepB ok lt A i = false := by unfold stepB; simp [h]
theorem step_first (h : ok (A 0) = true) : stepB ok lt A 0 = true := by unfold stepB; simp [h]
theorem step_next {i : Nat} (h0 : 0 < i) (h : ok (A i) = true) : stepB ok lt A i = lt (A (i - 1)) (A i) := by
  unfold stepB
  have : (i == 0) = false := by simp; omega
  simp [h, this]
end
/-- a strict order of rules -/
structure Ord {α : Type} (lt : α → α → Bool) : Prop where
  irr : ∀ a, lt a a = false
  tr : ∀ a b c, lt a b = true → lt b c = true → lt a c = true
  weak : ∀ a b c, lt a c = true → lt a b = true ∨ lt b c = true
section
variable {α : Type} {ok : α → Bool} {lt : α → α → Bool}
theorem getD_at (l : List α) (i : Nat) (d : α) (h : i < l.length) : l.getD i d = l[i] := by simp [List.getD, h]
/-- how many stand ahead of r -/
def place (lt : α → α → Bool) (l : List α) (r : α) : Nat := (l.takeWhile fun a => lt a r).length
theorem place_le (l : List α) (r : α) : place lt l r ≤ l.length := List.Sublist.length_le (List.takeWhile_sublist _)
theorem place_eq (l : List α) (r d : α) (j : Nat) (hj : j ≤ l.length) (h : ∀ i, i < j → lt (l.getD i d) r = true) (h2 : j < l.length → lt (l.getD j d) r = false) : place lt l r = j := by
  unfold place
  induction l generalizing j with
  | nil => simp at hj; simp [hj]
  | cons a l ih =>
    cases j with
    | zero =>
      have := h2 (by simp)
      simp at this
      simp [this]
    | succ j =>
      have h0 := h 0 (by omega)
      simp at h0
      simp only [List.takeWhile_cons, h0, if_true, List.length_cons]
      rw [ih j (by simpa using hj) (fun i hi => by simpa using h (i + 1) (by omega)) (fun hl => by simpa using h2 (by simpa using hl))]
theorem place_below (l : List α) (r d : α) (i : Nat) (h : i < place lt l r) : lt (l.getD i d) r = true := by
  have hle := place_le (lt := lt) l r
  unfold place at *
  have hm : (l.takeWhile fun a => lt a r)[i] ∈ l.takeWhile fun a => lt a r := List.getElem_mem h
  have e : (l.takeWhile fun a => lt a r)[i] = l.getD i d := by
    rw [getD_at _ _ _ (by omega)]
    exact (List.IsPrefix.getElem (List.takeWhile_prefix _) h)
  have := List.all_takeWhile (p := fun a => lt a r) (l := l)
  rw [List.all_eq_true] at this
  rw [← e]
  exact this _ hm
theorem place_at (l : List α) (r d : α) (h : place lt l r < l.length) : lt (l.getD (place lt l r) d) r = false := by
  unfold place at *
  induction l with
  | nil => simp at h
  | cons a l ih =>
    cases hc : lt a r with
    | false => simp [hc]
    | true =>
      simp only [List.takeWhile_cons, hc, if_true, List.length_cons] at h ⊢
      rw [List.getD_cons_succ]
      exact ih (by simpa using h)
/-- is r itself there? -/
def there (lt : α → α → Bool) (d : α) (l : List α) (r : α) : Bool := decide (place lt l r < l.length) && !lt r (l.getD (place lt l r) d)
def behind (lt : α → α → Bool) (d : α) (l : List α) (r : α) : Nat := place lt l r + (if there lt d l r then 1 else 0)
def replL (l : List α) (f t : Nat) (o : List α) : List α := l.take f ++ o ++ l.drop t
def putL (lt : α → α → Bool) (d : α) (l : List α) (r : α) : List α := replL l (place lt l r) (behind lt d l r) [r]
def dropL (lt : α → α → Bool) (d : α) (l : List α) (r : α) : List α := replL l (place lt l r) (behind lt d l r) []
def ne (lt : α → α → Bool) (a r : α) : Bool := lt a r || lt r a
theorem sorted_lt (o : Ord lt) (l : List α) (d : α) (h : ∀ i, i + 1 < l.length → lt (l.getD i d) (l.getD (i + 1) d) = true) (i j : Nat) (hij : i < j) (hj : j < l.length) : lt (l.getD i d) (l.getD j d) = true := by
  induction j with
  | zero => omega
  | succ j ih =>
    by_cases hi : i = j
    · subst hi; exact h i hj
    · exact o.tr _ _ _ (ih (by omega) (by omega)) (h j hj)
theorem there_iff (d : α) (l : List α) (r : α) : there lt d l r = true ↔ place lt l r < l.length ∧ lt r (l.getD (place lt l r) d) = false := by
  unfold there
  rw [Bool.and_eq_true, decide_eq_true_iff, Bool.not_eq_true']
theorem there_no (d : α) (l : List α) (r : α) (h : there lt d l r = false) (hp : place lt l r < l.length) : lt r (l.getD (place lt l r) d) = true := by
  cases hc : lt r (l.getD (place lt l r) d) with
  | true => rfl
  | false => rw [(there_iff d l r).2 ⟨hp, hc⟩] at h; cases h
/-- what stands behind r in a table that rises -/
theorem behind_lt (o : Ord lt) (l : List α) (r d : α) (h : ∀ i, i + 1 < l.length → lt (l.getD i d) (l.getD (i + 1) d) = true) (i : Nat) (hi : behind lt d l r ≤ i) (hl : i < l.length) : lt r (l.getD i d) = true := by
  have hp : place lt l r < l.length := by unfold behind at hi; omega
  unfold behind at hi
  cases ht : there lt d l r with
  | false =>
    have h1 := there_no d l r ht hp
    by_cases e : i = place lt l r
    · rw [e]; exact h1
    · exact o.tr _ _ _ h1 (sorted_lt o l d h _ i (by omega) hl)
  | true =>
    rw [ht] at hi
    obtain ⟨_, h1⟩ := (there_iff d l r).1 ht
    have h2 := place_at l r d hp
    have h3 := sorted_lt o l d h (place lt l r) i (by simp at hi; omega) hl
    rcases o.weak _ r _ h3 with h4 | h4
    · rw [h2] at h4; cases h4
    · exact h4
theorem filter_behind (o : Ord lt) (l : List α) (r d : α) (h : ∀ i, i + 1 < l.length → lt (l.getD i d) (l.getD (i + 1) d) = true) : (l.drop (behind lt d l r)).filter (fun a => ne lt a r) = l.drop (behind lt d l r) := by
  rw [List.filter_eq_self]
  intro a ha
  obtain ⟨i, hi, rfl⟩ := List.mem_iff_getElem.1 ha
  rw [List.getElem_drop]
  have hi' : behind lt d l r + i < l.length := by simp at hi; omega
  have := behind_lt o l r d h (behind lt d l r + i) (by omega) hi'
  rw [getD_at _ _ _ hi'] at this
  simp [ne, this]
theorem filter_place (o : Ord lt) (l : List α) (r d : α) (h : ∀ i, i + 1 < l.length → lt (l.getD i d) (l.getD (i + 1) d) = true) : (l.drop (place lt l r)).filter (fun a => ne lt a r) = l.drop (behind lt d l r) := by
  have hf := filter_behind o l r d h
  cases ht : there lt d l r with
  | false =>
    have e : behind lt d l r = place lt l r := by unfold behind; simp [ht]
    rw [e] at hf ⊢; exact hf
  | true =>
    have e : behind lt d l r = place lt l r + 1 := by unfold behind; simp [ht]
    obtain ⟨hp, h1⟩ := (there_iff d l r).1 ht
    have h2 := place_at l r d hp
    rw [e] at hf ⊢
    rw [List.drop_eq_getElem_cons hp, List.filter_cons, hf]
    rw [getD_at _ _ _ hp] at h1 h2
    simp [ne, h1, h2]
theorem filter_take (l : List α) (r d : α) (j : Nat) (hj : j ≤ place lt l r) : (l.take j).filter (fun a => ne lt a r) = l.take j := by
  have hle := place_le (lt := lt) l r
  rw [List.filter_eq_self]
  intro a ha
  obtain ⟨i, hi, rfl⟩ := List.mem_iff_getElem.1 ha
  rw [List.getElem_take]
  have hi' : i < j ∧ i < l.length := by simp at hi; omega
  have := place_below l r d i (lt := lt) (by omega)
  rw [getD_at _ _ _ hi'.2] at this
  simp [ne, this]
theorem drop_filter (o : Ord lt) (l : List α) (r d : α) (h : ∀ i, i + 1 < l.length → lt (l.getD i d) (l.getD (i + 1) d) = true) : l.filter (fun a => ne lt a r) = dropL lt d l r := by
  conv => lhs; rw [← List.take_append_drop (place lt l r) l]
  rw [List.filter_append, filter_take l r d _ (Nat.le_refl _), filter_place o l r d h]
  simp [dropL, replL]
/-- what the model has put behind j rounds -/
def putJ (lt : α → α → Bool) (l : List α) (r : α) (j : Nat) : List α := if j ≤ place lt l r then l.take j else l.take (place lt l r) ++ [r] ++ ((l.take j).drop (place lt l r)).filter (fun a => ne lt a r)
theorem putJ_end (o : Ord lt) (l : List α) (r d : α) (h : ∀ i, i + 1 < l.length → lt (l.getD i d) (l.getD (i + 1) d) = true) : (if place lt l r < l.length then putJ lt l r l.length else putJ lt l r l.length ++ [r]) = putL lt d l r := by
  have hle := place_le (lt := lt) l r
  unfold putJ putL replL
  by_cases hp : place lt l r < l.length
  · rw [if_pos hp, if_neg (by omega), List.take_length, filter_place o l r d h]
  · have e : place lt l r = l.length := by omega
    have hb : l.length ≤ behind lt d l r := by unfold behind; omega
    rw [if_neg hp, if_pos (by omega), e, List.drop_eq_nil_of_le hb, List.take_length, List.append_nil]
theorem putJ_0 (l : List α) (r : α) : putJ lt l r 0 = [] := by unfold putJ; simp
theorem putJ_ahead (l : List α) (r d : α) (j : Nat) (h : j < place lt l r) : putJ lt l r (j + 1) = putJ lt l r j ++ [l.getD j d] := by
  have hle := place_le (lt := lt) l r
  unfold putJ
  rw [if_pos (by omega), if_pos (by omega), List.take_succ_eq_append_getElem (by omega), getD_at _ _ _ (by omega)]
theorem putJ_at (l : List α) (r d : α) (h : place lt l r < l.length) : putJ lt l r (place lt l r + 1) = putJ lt l r (place lt l r) ++ [r] ++ (if ne lt (l.getD (place lt l r) d) r then [l.getD (place lt l r) d] else []) := by
  unfold putJ
  rw [if_neg (by omega), if_pos (Nat.le_refl _), List.take_succ_eq_append_getElem h, getD_at _ _ _ h, List.drop_append, List.drop_eq_nil_of_le (by simp; omega)]
  have e : place lt l r - (List.take (place lt l r) l).length = 0 := by rw [List.length_take]; omega
  rw [e]
  simp [List.filter_cons]
theorem putJ_behind (l : List α) (r d : α) (j : Nat) (h : place lt l r < j) (hl : j < l.length) : putJ lt l r (j + 1) = putJ lt l r j ++ (if ne lt (l.getD j d) r then [l.getD j d] else []) := by
  unfold putJ
  rw [if_neg (by omega), if_neg (by omega), List.take_succ_eq_append_getElem hl, getD_at _ _ _ hl, List.drop_append, List.filter_append]
  have e : place lt l r - (List.take j l).length = 0 := by rw [List.length_take]; omega
  rw [e]
  simp [List.filter_cons]
theorem putJ_len (l : List α) (r : α) (j : Nat) (hj : j ≤ l.length) : (putJ lt l r j).length ≤ j + 1 := by
  unfold putJ; split
  · simp; omega
  · simp only [List.length_append, List.length_take, List.length_cons, List.length_nil]
    have := List.length_filter_le (fun a => ne lt a r) ((l.take j).drop (place lt l r))
    simp at this; omega
theorem putL_length (d : α) (l : List α) (r : α) : (putL lt d l r).length = l.length + (if there lt d l r then 0 else 1) := by
  have hle := place_le (lt := lt) l r
  unfold putL replL behind
  cases ht : there lt d l r with
  | true =>
    obtain ⟨hp, _⟩ := (there_iff d l r).1 ht
    simp; omega
  | false => simp; omega
theorem filter_first (l : List α) (q : α → Bool) (d : α) (j : Nat) (hj : j < l.length) (h : ∀ i, i < j → q (l.getD i d) = false) (hq : q (l.getD j d) = true) : (l.filter q).head? = some (l.getD j d) := by
  induction l generalizing j with
  | nil => simp at hj
  | cons a l ih =>
    cases j with
    | zero =>
      simp at hq
      simp [hq]
    | succ j =>
      have h0 := h 0 (by omega)
      simp only [List.getD_cons_zero] at h0
      rw [List.getD_cons_succ] at hq ⊢
      rw [List.filter_cons, h0]
      exact ih j (by simpa using hj) (fun i hi => by simpa using h (i + 1) (by omega)) hq
theorem filter_none (l : List α) (q : α → Bool) (d : α) (h : ∀ i, i < l.length → q (l.getD i d) = false) : l.filter q = [] := by
  rw [List.filter_eq_nil_iff]
  intro a ha
  obtain ⟨i, hi, rfl⟩ := List.mem_iff_getElem.1 ha
  have := h i hi
  rw [getD_at _ _ _ hi] at this
  simp [this]
theorem filter_last (l : List α) (q : α → Bool) (d : α) (j : Nat) (hj : j < l.length) (h : ∀ i, j < i → i < l.length → q (l.getD i d) = false) (hq : q (l.getD j d) = true) : (l.filter q).getLast? = some (l.getD j d) := by
  have e : l = l.take j ++ l[j] :: l.drop (j + 1) := by rw [← List.drop_eq_getElem_cons hj, List.take_append_drop]
  have hn : (l.drop (j + 1)).filter q = [] := by
    refine filter_none _ q d fun i hi => ?_
    have := h (j + 1 + i) (by omega) (by simp at hi; omega)
    have e2 : (l.drop (j + 1)).getD i d = l.getD (j + 1 + i) d := by simp [List.getD, List.getElem?_drop]
    rw [e2]; exact this
  rw [getD_at _ _ _ hj] at hq ⊢
  conv => lhs; rw [e]
  rw [List.filter_append, List.filter_cons, hn, if_pos hq]
  simp
theorem dropL_le (d : α) (l : List α) (r : α) : (dropL lt d l r).length ≤ l.length := by
  have hle := place_le (lt := lt) l r
  unfold dropL replL behind
  simp
  omega
theorem own_kept {w w' : World} {B : Nat} {E : TypeId} {k : Nat} {v : Value} {n : Nat} {xs : List Int} {row : Option Nat} (h : ownR w B E k v n xs) (hg : w.grownBy w' row) (hne : ∀ b, v.ownBlock = some b → ¬ row = some b) : ownR w' B E k v n xs := by
  refine World.ownsRow.kept h hg ?_
  cases hv : v.ownBlock with
  | none => exact .inl rfl
  | some b => exact .inr fun e => hne b hv e.symm
end
end Go.Proofs.Ytnheppkjeoiipaa
