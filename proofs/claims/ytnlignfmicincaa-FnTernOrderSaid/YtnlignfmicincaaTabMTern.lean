/-
  Rules by a mask: what may be, what stands ahead, what fits.
-/
import Derived.Test.YtnlignfmicincaaTabM0
import Derived.Test.YtnlignfmicincaaTabTern
namespace Go.Proofs.Ytnlignfmicincaa
open Go.RowKit Go.PlainAid
def land (a b : Int) : Int := bits .and .i64 a b
def tnOk (a : TnV) : Bool := keyB a.value && keyB a.mask && decide (land a.value a.mask = a.value) && decide (0 ≤ a.pri) && decide (a.pri ≤ 1000) && actB a.act
def tnLt (a b : TnV) : Bool := decide (b.pri < a.pri ∨ a.pri = b.pri ∧ (a.mask < b.mask ∨ a.mask = b.mask ∧ a.value < b.value))
def tnFit (a : TnV) (key : Int) : Bool := keyB key && decide (land key a.mask = a.value)
theorem tnOrd : Ord tnLt := by
  refine ⟨fun a => ?_, fun a b c => ?_, fun a b c => ?_⟩
  · simp [tnLt]
  · simp only [tnLt, decide_eq_true_iff]; omega
  · simp only [tnLt, decide_eq_true_iff]; omega

set_option maxRecDepth 100000 in
set_option maxHeartbeats 1600000 in
theorem i_tnRight (a : TnV) (w : World) : Calls Try.prog 88 #[.agg (tnL a)] w fun e w' => e = .returned (.bool (tnOk a)) ∧ Below w.heap.size w w' := by
  have HK : Hid (tnOk a = (keyB a.value && keyB a.mask && decide (land a.value a.mask = a.value) && decide (0 ≤ a.pri) && decide (a.pri ≤ 1000) && actB a.act)) := rfl
  obtain ⟨value, mask, pri, act⟩ := a
  simp only [tnL] at *
  have CK : Hid (∀ (n : Int) (b : Bool) (u : World), keyB n = b → Calls Try.prog 46 #[.int .i64 n] u fun e w' => e = .returned (.bool b) ∧ w' = u) := fun n b u h => by subst h; exact i_isKey n u
  generalize tnOk _ = t at *
  cases h0 : keyB value
  · go_enter Try.func88, Try.ntmps88
    go_wp2_with (first | (go_at_call 46; refine (CK.out _ _ _ (by assumption)).mono ?_; rintro e wz ⟨rfl, hz⟩; rw [hz]; clear hz wz) | (go_at_call 83; refine (i_isAct _ _).mono ?_; rintro e wz ⟨rfl, hz⟩; rw [hz]; clear hz wz))
    go_ret
    exact ⟨ret_bool (by rw [HK.out]; rw [h0]; simp), (Below.refl _ w).alloc (Nat.le_refl _) _⟩
  · cases h1 : keyB mask
    · go_enter Try.func88, Try.ntmps88
      go_wp2_with (first | (go_at_call 46; refine (CK.out _ _ _ (by assumption)).mono ?_; rintro e wz ⟨rfl, hz⟩; rw [hz]; clear hz wz) | (go_at_call 83; refine (i_isAct _ _).mono ?_; rintro e wz ⟨rfl, hz⟩; rw [hz]; clear hz wz))
      go_ret
      exact ⟨ret_bool (by rw [HK.out]; rw [h0, h1]; simp), (Below.refl _ w).alloc (Nat.le_refl _) _⟩
    · by_cases h2 : land value mask = value
      · have h2a : bits .and .i64 value mask = value := h2
        by_cases h3 : 0 ≤ pri
        · by_cases h4 : pri ≤ 1000
          · go_enter Try.func88, Try.ntmps88
            go_wp2_with (first | (go_at_call 46; refine (CK.out _ _ _ (by assumption)).mono ?_; rintro e wz ⟨rfl, hz⟩; rw [hz]; clear hz wz) | (go_at_call 83; refine (i_isAct _ _).mono ?_; rintro e wz ⟨rfl, hz⟩; rw [hz]; clear hz wz))
            go_ret
            exact ⟨ret_bool (by rw [HK.out]; rw [h0, h1]; simp [h2, h3, h4]), (Below.refl _ w).alloc (Nat.le_refl _) _⟩
          · go_enter Try.func88, Try.ntmps88
            go_wp2_with (first | (go_at_call 46; refine (CK.out _ _ _ (by assumption)).mono ?_; rintro e wz ⟨rfl, hz⟩; rw [hz]; clear hz wz) | (go_at_call 83; refine (i_isAct _ _).mono ?_; rintro e wz ⟨rfl, hz⟩; rw [hz]; clear hz wz))
            go_ret
            exact ⟨ret_bool (by rw [HK.out]; rw [decide_eq_false (show ¬ pri ≤ 1000 by omega)]; simp), (Below.refl _ w).alloc (Nat.le_refl _) _⟩
        · go_enter Try.func88, Try.ntmps88
          go_wp2_with (first | (go_at_call 46; refine (CK.out _ _ _ (by assumption)).mono ?_; rintro e wz ⟨rfl, hz⟩; rw [hz]; clear hz wz) | (go_at_call 83; refine (i_isAct _ _).mono ?_; rintro e wz ⟨rfl, hz⟩; rw [hz]; clear hz wz))
          go_ret
          exact ⟨ret_bool (by rw [HK.out]; rw [decide_eq_false (show ¬ 0 ≤ pri by omega)]; simp), (Below.refl _ w).alloc (Nat.le_refl _) _⟩
      · have h2a : ¬ bits .and .i64 value mask = value := h2
        have h2b : (bits .and .i64 value mask == value) = false := by simpa using h2a
        go_enter Try.func88, Try.ntmps88
        go_wp2_with (first | (go_at_call 46; refine (CK.out _ _ _ (by assumption)).mono ?_; rintro e wz ⟨rfl, hz⟩; rw [hz]; clear hz wz) | (go_at_call 83; refine (i_isAct _ _).mono ?_; rintro e wz ⟨rfl, hz⟩; rw [hz]; clear hz wz))
        go_ret
        exact ⟨ret_bool (by rw [HK.out]; simp [h2]), (Below.refl _ w).alloc (Nat.le_refl _) _⟩
set_option maxRecDepth 100000 in
set_option maxHeartbeats 1600000 in
theorem i_tnAhead (a b : TnV) (w : World) : Calls Try.prog 89 #[.agg (tnL a), .agg (tnL b)] w fun e w' => e = .returned (.bool (tnLt a b)) ∧ Below w.heap.size w w' := by
  obtain ⟨v0, m0, p0, a0⟩ := a
  obtain ⟨v1, m1, p1, a1⟩ := b
  simp only [tnL, tnLt] at *
  have h : p0 < p1 ∨ p1 < p0 ∨ p0 = p1 ∧ m0 < m1 ∨ p0 = p1 ∧ m1 < m0 ∨ p0 = p1 ∧ m0 = m1 := by omega
  rcases h with h | h | ⟨rfl, h⟩ | ⟨rfl, h⟩ | ⟨rfl, rfl⟩
  · have hn : (p0 != p1) = true := by simp; omega
    have hn2 : ¬ p0 = p1 := by omega
    go_enter Try.func89, Try.ntmps89
    go_wp2
    go_ret
    exact ⟨ret_bool (by rw [Bool.eq_iff_iff]; first | (simp; done) | (simp; omega)), ((Below.refl _ w).alloc (Nat.le_refl _) _).alloc (by simp) _⟩
  · have hn : (p0 != p1) = true := by simp; omega
    have hn2 : ¬ p0 = p1 := by omega
    go_enter Try.func89, Try.ntmps89
    go_wp2
    go_ret
    exact ⟨ret_bool (by rw [Bool.eq_iff_iff]; first | (simp; done) | (simp; omega)), ((Below.refl _ w).alloc (Nat.le_refl _) _).alloc (by simp) _⟩
  · have hn : (m0 != m1) = true := by simp; omega
    have hn2 : ¬ m0 = m1 := by omega
    go_enter Try.func89, Try.ntmps89
    go_wp2
    go_ret
    exact ⟨ret_bool (by rw [Bool.eq_iff_iff]; first | (simp; done) | (simp; omega)), ((Below.refl _ w).alloc (Nat.le_refl _) _).alloc (by simp) _⟩
  · have hn : (m0 != m1) = true := by simp; omega
    have hn2 : ¬ m0 = m1 := by omega
    have hn3 : (m0 == m1) = false := by simp; omega
    go_enter Try.func89, Try.ntmps89
    go_wp2
    go_ret
    exact ⟨ret_bool (by rw [Bool.eq_iff_iff]; first | (simp; done) | (simp; omega)), ((Below.refl _ w).alloc (Nat.le_refl _) _).alloc (by simp) _⟩
  · go_enter Try.func89, Try.ntmps89
    go_wp2
    go_ret
    exact ⟨ret_bool (by rw [Bool.eq_iff_iff]; first | (simp; done) | (simp; omega)), ((Below.refl _ w).alloc (Nat.le_refl _) _).alloc (by simp) _⟩
set_option maxRecDepth 100000 in
set_option maxHeartbeats 1600000 in
theorem s_tnAhead (a b : TnV) (w : World) : Calls Try.prog 49 #[.agg (tnL a), .agg (tnL b)] w fun e w' => e = .returned (.bool (tnLt a b)) ∧ Below w.heap.size w w' := by
  obtain ⟨v0, m0, p0, a0⟩ := a
  obtain ⟨v1, m1, p1, a1⟩ := b
  simp only [tnL, tnLt] at *
  have h : p0 < p1 ∨ p1 < p0 ∨ p0 = p1 ∧ m0 < m1 ∨ p0 = p1 ∧ m1 < m0 ∨ p0 = p1 ∧ m0 = m1 := by omega
  rcases h with h | h | ⟨rfl, h⟩ | ⟨rfl, h⟩ | ⟨rfl, rfl⟩
  · have hn : (p0 != p1) = true := by simp; omega
    have hn2 : ¬ p0 = p1 := by omega
    go_enter Try.func49, Try.ntmps49
    go_wp2
    go_ret
    exact ⟨ret_bool (by rw [Bool.eq_iff_iff]; first | (simp; done) | (simp; omega)), ((Below.refl _ w).alloc (Nat.le_refl _) _).alloc (by simp) _⟩
  · have hn : (p0 != p1) = true := by simp; omega
    have hn2 : ¬ p0 = p1 := by omega
    go_enter Try.func49, Try.ntmps49
    go_wp2
    go_ret
    exact ⟨ret_bool (by rw [Bool.eq_iff_iff]; first | (simp; done) | (simp; omega)), ((Below.refl _ w).alloc (Nat.le_refl _) _).alloc (by simp) _⟩
  · have hn : (m0 != m1) = true := by simp; omega
    have hn2 : ¬ m0 = m1 := by omega
    go_enter Try.func49, Try.ntmps49
    go_wp2
    go_ret
    exact ⟨ret_bool (by rw [Bool.eq_iff_iff]; first | (simp; done) | (simp; omega)), ((Below.refl _ w).alloc (Nat.le_refl _) _).alloc (by simp) _⟩
  · have hn : (m0 != m1) = true := by simp; omega
    have hn2 : ¬ m0 = m1 := by omega
    have hn3 : (m0 == m1) = false := by simp; omega
    go_enter Try.func49, Try.ntmps49
    go_wp2
    go_ret
    exact ⟨ret_bool (by rw [Bool.eq_iff_iff]; first | (simp; done) | (simp; omega)), ((Below.refl _ w).alloc (Nat.le_refl _) _).alloc (by simp) _⟩
  · go_enter Try.func49, Try.ntmps49
    go_wp2
    go_ret
    exact ⟨ret_bool (by rw [Bool.eq_iff_iff]; first | (simp; done) | (simp; omega)), ((Below.refl _ w).alloc (Nat.le_refl _) _).alloc (by simp) _⟩
end Go.Proofs.Ytnlignfmicincaa
