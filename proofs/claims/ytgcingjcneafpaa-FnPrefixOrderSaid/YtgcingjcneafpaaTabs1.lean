/-
  Tables, plainly: what is put stays a table; its parts ahead of a rule and behind it.
-/
import Derived.Test.YtgcingjcneafpaaTabs0
namespace Go.Proofs.Ytgcingjcneafpaa
section
variable {α : Type} {ok : α → Bool} {lt : α → α → Bool}
theorem tb_iff (o : Ord lt) (l : List α) (d : α) : tblB ok lt (fun i => l.getD i d) l.length = true ↔ l.length ≤ 32 ∧ (∀ a ∈ l, ok a = true) ∧ l.Pairwise (fun a b => lt a b = true) := by
  constructor
  · intro h
    refine ⟨tblB_le h, fun a ha => ?_, ?_⟩
    · obtain ⟨i, hi, rfl⟩ := List.getElem_of_mem ha
      have h2 : ok (l.getD i d) = true := tblB_ok h hi
      rw [getD_at _ _ _ hi] at h2; exact h2
    · rw [List.pairwise_iff_getElem]
      intro i j hi hj hij
      have := sorted_lt o l d (fun i hi => tblB_lt h hi) i j hij hj
      rw [getD_at _ _ _ hi, getD_at _ _ _ hj] at this; exact this
  · rintro ⟨h1, h2, h3⟩
    refine tblB_yes h1 fun i hi => ?_
    unfold stepB
    have e : ok (l.getD i d) = true := by rw [getD_at _ _ _ hi]; exact h2 _ (List.getElem_mem hi)
    rw [e]
    by_cases h0 : i = 0
    · simp [h0]
    · have := List.pairwise_iff_getElem.1 h3 (i - 1) i (by omega) hi (by omega)
      have e2 : lt (l.getD (i - 1) d) (l.getD i d) = true := by rw [getD_at _ _ _ (show i - 1 < l.length by omega), getD_at _ _ _ hi]; exact this
      rw [e2]; simp
def pP (lt : α → α → Bool) (l : List α) (r : α) : List α := l.take (place lt l r)
def pM (lt : α → α → Bool) (d : α) (l : List α) (r : α) : List α := (l.drop (place lt l r)).take (if there lt d l r then 1 else 0)
def pB (lt : α → α → Bool) (d : α) (l : List α) (r : α) : List α := l.drop (behind lt d l r)
theorem parts (d : α) (l : List α) (r : α) : l = pP lt l r ++ (pM lt d l r ++ pB lt d l r) := by
  unfold pP pM pB behind
  have e : (l.drop (place lt l r)).take (if there lt d l r = true then 1 else 0) ++ l.drop (place lt l r + if there lt d l r = true then 1 else 0) = l.drop (place lt l r) := by
    rw [← List.drop_drop]; exact List.take_append_drop _ _
  rw [e, List.take_append_drop]
theorem put_parts (d : α) (l : List α) (r : α) : putL lt d l r = pP lt l r ++ ([r] ++ pB lt d l r) := by unfold putL replL pP pB; rw [List.append_assoc]
theorem drop_parts (d : α) (l : List α) (r : α) : dropL lt d l r = pP lt l r ++ pB lt d l r := by unfold dropL replL pP pB; rw [List.append_nil]
theorem mem_pP {l : List α} {r a : α} (h : a ∈ pP lt l r) : lt a r = true := by
  unfold pP at h
  obtain ⟨i, hi, rfl⟩ := List.getElem_of_mem h
  have hi2 : i < place lt l r := by simp at hi; omega
  have := place_below (lt := lt) l r r i hi2
  have hl : i < l.length := by simp at hi; omega
  rw [getD_at _ _ _ hl] at this
  simpa using this
theorem mem_pM {d : α} {l : List α} {r a : α} (h : a ∈ pM lt d l r) : lt a r = false ∧ lt r a = false := by
  unfold pM at h
  cases ht : there lt d l r with
  | false => rw [ht] at h; simp at h
  | true =>
    obtain ⟨h1, h2⟩ := (there_iff d l r).1 ht
    have h3 := place_at l r d h1
    rw [ht, if_pos rfl, List.drop_eq_getElem_cons h1, List.take_succ_cons, List.take_zero, List.mem_singleton] at h
    subst h
    rw [getD_at _ _ _ h1] at h2 h3
    exact ⟨h3, h2⟩
theorem mem_pB (o : Ord lt) {d : α} {l : List α} {r a : α} (hs : l.Pairwise (fun a b => lt a b = true)) (h : a ∈ pB lt d l r) : lt r a = true := by
  unfold pB at h
  obtain ⟨i, hi, rfl⟩ := List.getElem_of_mem h
  have hi2 : behind lt d l r + i < l.length := by simp at hi; omega
  have := behind_lt o l r d (fun j hj => by
    rw [getD_at _ _ _ (show j < l.length by omega), getD_at _ _ _ hj]
    exact List.pairwise_iff_getElem.1 hs j (j + 1) (by omega) hj (by omega)) (behind lt d l r + i) (by omega) hi2
  rw [getD_at _ _ _ hi2] at this
  simpa using this
theorem sub_drop (d : α) (l : List α) (r : α) : (dropL lt d l r).Sublist l := by
  rw [drop_parts]
  conv => rhs; rw [parts (lt := lt) d l r]
  exact List.Sublist.append_left (List.sublist_append_right _ _) _
theorem tb_put (o : Ord lt) (d : α) (l : List α) (r : α) (hok : ok r = true) (h2 : ∀ a ∈ l, ok a = true) (h3 : l.Pairwise (fun a b => lt a b = true)) : (∀ a ∈ putL lt d l r, ok a = true) ∧ (putL lt d l r).Pairwise (fun a b => lt a b = true) := by
  have hd := sub_drop (lt := lt) d l r
  rw [drop_parts] at hd
  have hp := h3.sublist hd
  rw [List.pairwise_append] at hp
  obtain ⟨p1, p2, p3⟩ := hp
  rw [put_parts]
  constructor
  · intro a ha
    rw [List.mem_append, List.mem_append] at ha
    rcases ha with ha | ha | ha
    · exact h2 a (hd.subset (List.mem_append_left _ ha))
    · simp at ha; rw [ha]; exact hok
    · exact h2 a (hd.subset (List.mem_append_right _ ha))
  · rw [List.pairwise_append]
    refine ⟨p1, ?_, ?_⟩
    · rw [List.singleton_append, List.pairwise_cons]
      exact ⟨fun a ha => mem_pB o h3 ha, p2⟩
    · intro a ha b hb
      rw [List.mem_append] at hb
      rcases hb with hb | hb
      · simp at hb; rw [hb]; exact mem_pP ha
      · exact p3 a ha b hb
end
end Go.Proofs.Ytgcingjcneafpaa
