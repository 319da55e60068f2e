/-
  Rules that are put in either order: plain facts for every kind of rule.
-/
import Derived.Test.YtgcingjcneafpaaTabs1
namespace Go.Proofs.Ytgcingjcneafpaa
section
variable {α : Type} {lt : α → α → Bool} {ok : α → Bool}
theorem sorted_ext (hi : ∀ a, lt a a = false) (ht : ∀ a b c, lt a b = true → lt b c = true → lt a c = true) : ∀ l m : List α, l.Pairwise (fun a b => lt a b = true) → m.Pairwise (fun a b => lt a b = true) → (∀ a, a ∈ l ↔ a ∈ m) → l = m
  | [], [], _, _, _ => rfl
  | [], b :: m, _, _, h => by have := (h b).2 (by simp); simp at this
  | a :: l, [], _, _, h => by have := (h a).1 (by simp); simp at this
  | a :: l, b :: m, hl, hm, h => by
    rw [List.pairwise_cons] at hl hm
    have hab : a = b := by
      have h1 := (h a).1 (by simp)
      have h2 := (h b).2 (by simp)
      rw [List.mem_cons] at h1 h2
      rcases h1 with h1 | h1
      · exact h1
      · rcases h2 with h2 | h2
        · exact h2.symm
        · have := ht _ _ _ (hm.1 a h1) (hl.1 b h2)
          rw [hi] at this; cases this
    subst hab
    have := sorted_ext hi ht l m hl.2 hm.2 (fun x => by
      constructor
      · intro hx
        have h1 := (h x).1 (by simp [hx])
        rw [List.mem_cons] at h1
        rcases h1 with rfl | h1
        · have := hl.1 x hx; rw [hi] at this; cases this
        · exact h1
      · intro hx
        have h1 := (h x).2 (by simp [hx])
        rw [List.mem_cons] at h1
        rcases h1 with rfl | h1
        · have := hm.1 x hx; rw [hi] at this; cases this
        · exact h1)
    rw [this]
theorem mem_put (o : Ord lt) (d : α) (l : List α) (r : α) (hs : l.Pairwise (fun a b => lt a b = true)) (a : α) : a ∈ putL lt d l r ↔ a = r ∨ (a ∈ l ∧ (lt a r = true ∨ lt r a = true)) := by
  rw [put_parts]
  have hp := parts (lt := lt) d l r
  constructor
  · intro h
    simp only [List.mem_append, List.mem_singleton] at h
    rcases h with h | h | h
    · exact .inr ⟨by rw [hp]; simp [h], .inl (mem_pP h)⟩
    · exact .inl h
    · exact .inr ⟨by rw [hp]; simp [h], .inr (mem_pB o hs h)⟩
  · rintro (rfl | ⟨h, hn⟩)
    · simp
    · rw [hp] at h
      simp only [List.mem_append] at h
      rcases h with h | h | h
      · simp [h]
      · obtain ⟨q1, q2⟩ := mem_pM h
        rcases hn with hn | hn
        · rw [q1] at hn; cases hn
        · rw [q2] at hn; cases hn
      · simp [h]
theorem put_comm (o : Ord lt) (hi : ∀ a, lt a a = false) (ht : ∀ a b c, lt a b = true → lt b c = true → lt a c = true) (d : α) (l : List α) (x y : α) (hx : ok x = true) (hy : ok y = true) (h2 : ∀ a ∈ l, ok a = true) (hs : l.Pairwise (fun a b => lt a b = true)) (hne : lt x y = true ∨ lt y x = true) :
    putL lt d (putL lt d l x) y = putL lt d (putL lt d l y) x := by
  obtain ⟨k1, s1⟩ := tb_put o d l x hx h2 hs
  obtain ⟨k2, s2⟩ := tb_put o d l y hy h2 hs
  obtain ⟨_, s3⟩ := tb_put o d _ y hy k1 s1
  obtain ⟨_, s4⟩ := tb_put o d _ x hx k2 s2
  refine sorted_ext hi ht _ _ s3 s4 fun a => ?_
  rw [mem_put o d _ y s1, mem_put o d _ x s2, mem_put o d l x hs, mem_put o d l y hs]
  constructor
  · rintro (rfl | ⟨rfl | ⟨h, hn⟩, hm⟩)
    · exact .inr ⟨.inl rfl, hne.symm⟩
    · exact .inl rfl
    · exact .inr ⟨.inr ⟨h, hm⟩, hn⟩
  · rintro (rfl | ⟨rfl | ⟨h, hn⟩, hm⟩)
    · exact .inr ⟨.inl rfl, hne⟩
    · exact .inl rfl
    · exact .inr ⟨.inr ⟨h, hm⟩, hn⟩
end
end Go.Proofs.Ytgcingjcneafpaa
