/-
  Frames glued together and taken off again; by the model.
-/
import Derived.Test.YteflhnmoceppgaaDoorTkf6
namespace Go.Proofs.YteflhnmoceppgaaDoor
open Go.RowKit Go.PlainAid
/-- frames of all these texts, one behind the other -/
def frCat : List ByteArray → List UInt8
  | [] => []
  | d :: l => frOf (bl d) ++ frCat l
theorem frCat_app (l m : List ByteArray) : frCat (l ++ m) = frCat l ++ frCat m := by
  induction l with
  | nil => rfl
  | cons d l ih => simp [frCat, ih]
theorem tkF_all : ∀ f s a, a ≤ s.size → a ≤ (tkF f s a).2 ∧ (tkF f s a).2 ≤ s.size ∧ frCat (tkF f s a).1 = bl (s.extract a (tkF f s a).2) := by
  intro f
  induction f with
  | zero => intro s a h; exact ⟨Nat.le_refl _, h, by simp [tkF, frCat]⟩
  | succ f ih =>
    intro s a h
    unfold tkF
    cases hok : tkOk s a
    · exact ⟨Nat.le_refl _, h, by simp [frCat]⟩
    · have hi := tkOk_in hok
      obtain ⟨h1, h2, h3⟩ := ih s (a + 8 + tkN s a) hi.2.2
      have he := tk_same hi.2.2
      rw [hok, beq_iff_eq] at he
      have e1 : (s.extract a (a + 8 + tkN s a)).toList = bl (s.extract a (a + 8 + tkN s a)) := ByteArray.toList_eq _
      rw [e1] at he
      refine ⟨by simp; omega, by simpa using h2, ?_⟩
      simp only [if_true, frCat]
      rw [he, h3, bl_extractT, bl_extractT, bl_extractT]
      generalize (tkF f s (a + 8 + tkN s a)).2 = z at *
      rw [show z - a = (a + 8 + tkN s a - a) + (z - (a + 8 + tkN s a)) by omega, List.take_add, List.drop_drop]
      rw [show a + (a + 8 + tkN s a - a) = a + 8 + tkN s a by omega]
theorem tkR_all (s : ByteArray) : (tkR s 0).2 ≤ s.size ∧ frCat (tkR s 0).1 = (bl s).take (tkR s 0).2 := by
  obtain ⟨_, h2, h3⟩ := tkF_all (s.size + 1) s 0 (Nat.zero_le _)
  refine ⟨h2, ?_⟩
  rw [bl_extractT] at h3
  exact h3
/-- each text that is taken off fits a frame -/
theorem tkF_fit : ∀ f s a, a ≤ s.size → ∀ d ∈ (tkF f s a).1, d.size ≤ 100000 := by
  intro f
  induction f with
  | zero => intro s a h d hd; simp [tkF] at hd
  | succ f ih =>
    intro s a h d hd
    unfold tkF at hd
    cases hok : tkOk s a
    · rw [hok] at hd; simp at hd
    · have hi := tkOk_in hok
      rw [hok] at hd
      simp only [if_true, List.mem_cons] at hd
      rcases hd with rfl | hd
      · have := tkD_len hi.2.2; rw [bl_length] at this; omega
      · exact ih s _ hi.2.2 d hd
/-- a frame that is there is taken off -/
theorem tk_here {s d : ByteArray} {a : Nat} {post : List UInt8} (ha : a ≤ s.size) (hd : d.size ≤ 100000) (h : (bl s).drop a = frOf (bl d) ++ post) : tkOk s a = true ∧ tkN s a = d.size ∧ tkD s a = d := by
  have hl := bl_length d
  have hf : frOf (bl d) = be 4 (d.size : Int) ++ (le4 (crcOf (bl d)) ++ bl d) := by
    unfold frOf; rw [hl, if_neg (by omega), List.append_assoc]
  rw [hf] at h
  have h4 : (be 4 (d.size : Int)).length = 4 := be_length _ _
  have h44 : (le4 (crcOf (bl d))).length = 4 := rfl
  have hN : tkN s a = d.size := by
    unfold tkN
    rw [h, List.append_assoc, List.take_left' h4, num_be 4 _ (by omega) (by rw [show (256 : Int) ^ 4 = 4294967296 from (by decide)]; omega)]
    omega
  have hsz : s.size - a = 8 + d.size + post.length := by
    have := congrArg List.length h
    simp only [List.length_drop, List.length_append, h4, h44, bl_length] at this
    omega
  have hD : tkD s a = d := by
    rw [← str_bl (tkD s a), ← str_bl d]
    congr 1
    unfold tkD
    rw [bl_extractT, hN, show a + 8 + d.size - (a + 8) = d.size by omega, ← List.drop_drop, h]
    rw [show be 4 (d.size : Int) ++ (le4 (crcOf (bl d)) ++ bl d) ++ post = (be 4 (d.size : Int) ++ le4 (crcOf (bl d))) ++ (bl d ++ post) by simp]
    rw [List.drop_left' (by rw [List.length_append, h4, h44]), List.take_left' hl]
  refine ⟨?_, hN, hD⟩
  have hfit : a + 8 + tkN s a ≤ s.size := by omega
  rw [← tk_same hfit, beq_iff_eq, hD]
  have e1 : (s.extract a (a + 8 + tkN s a)).toList = bl (s.extract a (a + 8 + tkN s a)) := ByteArray.toList_eq _
  rw [e1, bl_extractT, h, hN, show a + 8 + d.size - a = 8 + d.size by omega, hf]
  exact (List.take_left' (by rw [List.length_append, List.length_append, h4, h44, hl]; omega)).symm
theorem tkF_cat : ∀ (l : List ByteArray) (s : ByteArray) (a f : Nat), a ≤ s.size → s.size < f + a → (∀ d ∈ l, d.size ≤ 100000) → (bl s).drop a = frCat l → tkF f s a = (l, s.size) := by
  intro l
  induction l with
  | nil =>
    intro s a f ha hf _ h
    have hz : s.size = a := by
      have := congrArg List.length h
      rw [List.length_drop, bl_length] at this
      simp [frCat] at this; omega
    have hn : tkOk s a = false := by
      cases e : tkOk s a
      · rfl
      · have := tkOk_in e; omega
    cases f with
    | zero => omega
    | succ f => unfold tkF; rw [hn, hz]; rfl
  | cons d l ih =>
    intro s a f ha hf hl h
    obtain ⟨hk, hN, hD⟩ := tk_here ha (hl d (by simp)) h
    have hi := tkOk_in hk
    cases f with
    | zero => omega
    | succ f =>
      unfold tkF
      rw [hk, hD]
      have hlen : (frOf (bl d)).length = 8 + d.size := by
        have hfl := hl d (by simp)
        unfold frOf; rw [bl_length, if_neg (by omega)]
        rw [List.length_append, List.length_append, be_length, bl_length]; rfl
      have hrest : (bl s).drop (a + 8 + tkN s a) = frCat l := by
        rw [show a + 8 + tkN s a = a + (8 + d.size) by omega, ← List.drop_drop, h]
        exact List.drop_left' hlen
      rw [ih s _ f hi.2.2 (by omega) (fun d hd => hl d (by simp [hd])) hrest]
      rfl
theorem tkR_cat (l : List ByteArray) (hl : ∀ d ∈ l, d.size ≤ 100000) : tkR (str (frCat l)) 0 = (l, (frCat l).length) := by
  have h := tkF_cat l (str (frCat l)) 0 ((str (frCat l)).size + 1) (Nat.zero_le _) (by omega) hl (by rw [bl_str]; rfl)
  rw [← bl_length, bl_str] at h
  unfold tkR
  rw [← bl_length, bl_str]
  exact h
theorem tk_short {p s : ByteArray} (k : Nat) (h : bl p = (bl s).take k) {a : Nat} (hk : tkOk p a = true) : tkOk s a = true ∧ tkN s a = tkN p a ∧ tkD s a = tkD p a := by
  have hi := tkOk_in hk
  have hp : p.size ≤ k ∧ p.size ≤ s.size := by
    have := congrArg List.length h
    rw [List.length_take, bl_length, bl_length] at this
    omega
  have he := tk_same hi.2.2
  rw [hk, beq_iff_eq, show (p.extract a (a + 8 + tkN p a)).toList = bl (p.extract a (a + 8 + tkN p a)) from ByteArray.toList_eq _, bl_extractT, h, List.drop_take, List.take_take, show min (a + 8 + tkN p a - a) (k - a) = a + 8 + tkN p a - a by omega] at he
  have hs : (bl s).drop a = frOf (bl (tkD p a)) ++ ((bl s).drop a).drop (a + 8 + tkN p a - a) := by rw [he, List.take_append_drop]
  have hz := tkD_len hi.2.2
  rw [bl_length] at hz
  obtain ⟨h1, h2, h3⟩ := tk_here (by omega) (by omega) hs
  exact ⟨h1, h2.trans hz, h3⟩
theorem tkF_short : ∀ (f : Nat) (p s : ByteArray) (k a : Nat), bl p = (bl s).take k → (tkF f p a).1 <+: (tkF f s a).1 := by
  intro f
  induction f with
  | zero => intro p s k a h; exact List.nil_prefix
  | succ f ih =>
    intro p s k a h
    cases hk : tkOk p a
    · have : (tkF (f + 1) p a).1 = [] := by unfold tkF; rw [hk]; rfl
      rw [this]; exact List.nil_prefix
    · obtain ⟨h1, h2, h3⟩ := tk_short k h hk
      unfold tkF
      rw [hk, h1, h2, h3]
      obtain ⟨r, hr⟩ := ih p s k (a + 8 + tkN p a) h
      exact ⟨r, by simp [hr]⟩
theorem tkR_short (p s : ByteArray) (k : Nat) (h : bl p = (bl s).take k) : (tkR p 0).1 <+: (tkR s 0).1 := by
  have hp : p.size ≤ s.size := by
    have := congrArg List.length h
    rw [List.length_take, bl_length, bl_length] at this
    omega
  have := tkF_short (s.size + 1) p s k 0 h
  unfold tkR
  rw [tkF_fuel (p.size + 1) (s.size + 1) p 0 (by omega) (by omega)]
  exact this
end Go.Proofs.YteflhnmoceppgaaDoor
