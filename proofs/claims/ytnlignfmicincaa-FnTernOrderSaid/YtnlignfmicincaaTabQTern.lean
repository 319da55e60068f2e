/-
  What the program and the model put into a table by masks.
-/
import Derived.Test.YtnlignfmicincaaTabPTern
namespace Go.Proofs.Ytnlignfmicincaa
open Go.RowKit Go.PlainAid
theorem bits_and_nat (a b : Nat) (ha : a < 2 ^ 62) (hb : b < 2 ^ 62) : bits .and .i64 (a : Int) (b : Int) = ((a &&& b : Nat) : Int) := by
  simp only [bits, BitVec.ofInt_natCast, BitVec.toNat_and, BitVec.toNat_ofNat]
  have q1 : a % 2 ^ IntKind.bits .i64 = a := Nat.mod_eq_of_lt (Nat.lt_of_lt_of_le ha (by decide))
  have q2 : b % 2 ^ IntKind.bits .i64 = b := Nat.mod_eq_of_lt (Nat.lt_of_lt_of_le hb (by decide))
  rw [q1, q2]
  have : a &&& b ≤ a := Nat.and_le_left
  exact wraps_i64 _ (by omega) (by omega)
theorem land_key {a b : Int} (ha : keyB a = true) (hb : keyB b = true) : keyB (land a b) = true ∧ land (land a b) b = land a b := by
  obtain ⟨a0, a1⟩ := of_inB ha
  obtain ⟨b0, b1⟩ := of_inB hb
  obtain ⟨x, rfl⟩ := Int.eq_ofNat_of_zero_le a0
  obtain ⟨y, rfl⟩ := Int.eq_ofNat_of_zero_le b0
  have hx : x < 2 ^ 62 := by omega
  have hy : y < 2 ^ 62 := by omega
  have hle : x &&& y ≤ x := Nat.and_le_left
  have e1 : land (x : Int) (y : Int) = ((x &&& y : Nat) : Int) := bits_and_nat x y hx hy
  have e2 : land ((x &&& y : Nat) : Int) (y : Int) = ((x &&& y &&& y : Nat) : Int) := bits_and_nat (x &&& y) y (by omega) hy
  rw [e1, e2]
  refine ⟨inB_true (by omega) (by omega), ?_⟩
  rw [Nat.and_assoc, Nat.and_self]
def tnLC (l : List TnV) (a0 a1 a2 a3 : Int) : Int := if keyB a0 then tnPutC l ⟨land a0 a1, a1, a2, a3⟩ else 1
def tnLR (l : List TnV) (a0 a1 a2 a3 : Int) : List TnV := if keyB a0 then tnPutR l ⟨land a0 a1, a1, a2, a3⟩ else []
theorem tnLC_eq (l : List TnV) (a0 a1 a2 a3 : Int) : tnLC l a0 a1 a2 a3 = if !(tnTab l && keyB a0 && keyB a1 && inB a2 0 1000 && actB a3) then 1 else if there tnLt (⟨0, 0, 0, 0⟩ : TnV) l ⟨bits .and .i64 a0 a1, a1, a2, a3⟩ then 0 else if l.length = 32 then 2 else 0 := by
  have e : bits .and .i64 a0 a1 = land a0 a1 := rfl
  rw [e]
  unfold tnLC
  cases h0 : keyB a0
  · simp
  · rw [if_pos rfl]
    unfold tnPutC
    rw [tnOk_iff]
    simp only []
    cases h1 : keyB a1
    · simp
    · obtain ⟨k1, k2⟩ := land_key h0 h1
      rw [k1, k2]
      cases tnTab l <;> cases inB a2 0 1000 <;> cases actB a3 <;> simp
theorem tnLR_yes (l : List TnV) (a0 a1 a2 a3 : Int) (h : tnLC l a0 a1 a2 a3 = 0) : tnLR l a0 a1 a2 a3 = putL tnLt (⟨0, 0, 0, 0⟩ : TnV) l ⟨bits .and .i64 a0 a1, a1, a2, a3⟩ := by
  have e : bits .and .i64 a0 a1 = land a0 a1 := rfl
  rw [e]
  unfold tnLC at h
  unfold tnLR
  cases h0 : keyB a0
  · rw [h0] at h; simp at h
  · rw [h0, if_pos rfl] at h
    rw [if_pos rfl]
    unfold tnPutR
    rw [if_pos h]
theorem tnLR_no (l : List TnV) (a0 a1 a2 a3 : Int) (h : ¬ tnLC l a0 a1 a2 a3 = 0) : tnLR l a0 a1 a2 a3 = [] := by
  unfold tnLC at h
  unfold tnLR
  cases h0 : keyB a0
  · rfl
  · rw [h0, if_pos rfl] at h
    rw [if_pos rfl]
    unfold tnPutR
    rw [if_neg h]
theorem tnPut_len (l : List TnV) (a0 a1 a2 a3 : Int) : (tnLR l a0 a1 a2 a3).length ≤ l.length + 1 := by
  by_cases h : tnLC l a0 a1 a2 a3 = 0
  · rw [tnLR_yes l _ _ _ _ h, putL_length]; split <;> omega
  · rw [tnLR_no l _ _ _ _ h]; simp
set_option maxRecDepth 100000 in
set_option maxHeartbeats 1600000 in
theorem i_TernPut (g off c : Nat) (l : List TnV) (a0 a1 a2 a3 : Int) (w : World) (h : IntsAt w (some ⟨g, off, none⟩) (tnF l)) (hc : l.length ≤ c) (hl : l.length ≤ 1048576) :
    Calls Try.prog 19 #[.slice (some ⟨g, off, none⟩) l.length c, .int .i64 a0, .int .i64 a1, .int .i64 a2, .int .i64 a3] w fun e w' => ∃ v, e = .returned (.tuple #[v, .int .i64 (tnLC l a0 a1 a2 a3)]) ∧ ownR w' w.heap.size 75 4 v (tnLR l a0 a1 a2 a3).length (tnF (tnLR l a0 a1 a2 a3)) ∧ Below w.heap.size w w' := by
  have CK : Hid (∀ u : World, Calls Try.prog 46 #[.int .i64 a0] u fun e w' => e = .returned (.bool (keyB a0)) ∧ w' = u) := fun u => i_isKey a0 u
  unfold tnLC tnLR
  cases hk : keyB a0
  · rw [hk] at CK
    go_enter Try.func19, Try.ntmps19
    go_wp2_with (go_at_call 46; refine (CK.out _).mono ?_; rintro e wz ⟨rfl, hz⟩; rw [hz]; clear hz wz)
    go_ret2
    exact ⟨_, rfl, ownR.nil _ _ _ _, Below.refl _ _⟩
  · rw [hk] at CK
    rw [if_pos rfl, if_pos rfl]
    have C : Hid (∀ u : World, u = w → Calls Try.prog 47 #[.slice (some ⟨g, off, none⟩) l.length c, .agg (tnL ⟨land a0 a1, a1, a2, a3⟩)] u fun e w' => ∃ v, e = .returned (.tuple #[v, .int .i64 (tnPutC l ⟨land a0 a1, a1, a2, a3⟩)]) ∧ ownR w' u.heap.size 75 4 v (tnPutR l ⟨land a0 a1, a1, a2, a3⟩).length (tnF (tnPutR l ⟨land a0 a1, a1, a2, a3⟩)) ∧ Below u.heap.size u w') := by
      rintro u rfl; exact i_tnPut g off c l _ u h hc hl
    generalize tnPutC l _ = pc at *
    generalize tnPutR l _ = pr at *
    go_enter Try.func19, Try.ntmps19
    go_wp2_with fail
    go_at_call 46
    refine (CK.out _).mono ?_
    rintro e wz ⟨rfl, hz⟩
    rw [hz]
    clear hz wz
    go_wp2_with fail
    go_at_call 47
    refine (C.out _ rfl).mono ?_
    rintro e w1 ⟨v, rfl, ho, hb⟩
    go_wp2
    go_ret2
    exact ⟨_, rfl, ho, hb⟩
set_option maxRecDepth 100000 in
set_option maxHeartbeats 12800000 in
theorem s_TernPut (T : Option Addr) (c : Nat) (l : List TnV) (a0 a1 a2 a3 : Int) (w : World) (h : IntsAt w T (tnF l)) (hl : l.length ≤ 1048576) :
    Calls Try.prog 20 #[.slice T l.length c, .int .i64 a0, .int .i64 a1, .int .i64 a2, .int .i64 a3] w fun e w' => ∃ v, e = .returned (.tuple #[v, .int .i64 (tnLC l a0 a1 a2 a3)]) ∧ ownR w' w.heap.size 75 4 v (tnLR l a0 a1 a2 a3).length (tnF (tnLR l a0 a1 a2 a3)) ∧ Below w.heap.size w w' := by
  have CT : Hid (∀ u : World, Below w.heap.size w u → Calls Try.prog 48 #[.slice T l.length c] u fun e w' => e = .returned (.bool (tnTab l)) ∧ Below u.heap.size u w') := fun u hu => s_tnTab T c l u (h.below hu) (by omega)
  have CF0 : Hid (∀ u : World, Calls Try.prog 31 #[.int .i64 a0] u fun e w' => e = .returned (.bool (keyB a0)) ∧ w' = u) := fun u => s_Key a0 u
  have CF1 : Hid (∀ u : World, Calls Try.prog 31 #[.int .i64 a1] u fun e w' => e = .returned (.bool (keyB a1)) ∧ w' = u) := fun u => s_Key a1 u
  have CF2 : Hid (∀ u : World, Calls Try.prog 39 #[.int .i64 a2, .int .i64 0, .int .i64 1000] u fun e w' => e = .returned (.bool (inB a2 0 1000)) ∧ w' = u) := fun u => s_In a2 0 1000 u
  have CF3 : Hid (∀ u : World, Calls Try.prog 32 #[.int .i64 a3] u fun e w' => e = .returned (.bool (actB a3)) ∧ w' = u) := fun u => s_Act a3 u
  have HCc : Hid ((tnLC l a0 a1 a2 a3) = if !(tnTab l && keyB a0 && keyB a1 && inB a2 0 1000 && actB a3) then 1 else if there tnLt (⟨0, 0, 0, 0⟩ : TnV) l ⟨bits .and .i64 a0 a1, a1, a2, a3⟩ then 0 else if l.length = 32 then 2 else 0) := tnLC_eq l a0 a1 a2 a3
  have HR1 : Hid (¬ (tnLC l a0 a1 a2 a3) = 0 → (tnLR l a0 a1 a2 a3) = []) := fun h => tnLR_no l a0 a1 a2 a3 h
  have HR0 : Hid ((tnLC l a0 a1 a2 a3) = 0 → (tnLR l a0 a1 a2 a3) = putL tnLt (⟨0, 0, 0, 0⟩ : TnV) l ⟨bits .and .i64 a0 a1, a1, a2, a3⟩) := fun h => tnLR_yes l a0 a1 a2 a3 h
  cases hf0 : tnTab l
  · rw [hf0] at CT
    have e0 : (tnLC l a0 a1 a2 a3) = 1 := by rw [HCc.out, hf0]; simp
    have e1 : (tnLR l a0 a1 a2 a3) = [] := HR1.out (by rw [e0]; decide)
    rw [e0, e1]
    clear HCc HR0 HR1
    go_enter Try.func20, Try.ntmps20
    go_wp2_with (first | (go_at_call 48; refine (CT.out _ (Below.refl _ _)).mono ?_; rintro e w1 ⟨rfl, hb1⟩) | (go_at_call 31; refine (CF0.out _).mono ?_; rintro e wz ⟨rfl, hz⟩; rw [hz]; clear hz wz) | (go_at_call 31; refine (CF1.out _).mono ?_; rintro e wz ⟨rfl, hz⟩; rw [hz]; clear hz wz) | (go_at_call 39; refine (CF2.out _).mono ?_; rintro e wz ⟨rfl, hz⟩; rw [hz]; clear hz wz) | (go_at_call 32; refine (CF3.out _).mono ?_; rintro e wz ⟨rfl, hz⟩; rw [hz]; clear hz wz))
    go_ret2
    exact ⟨_, rfl, ownR.nil _ _ _ _, hb1⟩
  · rw [hf0] at CT
    cases hf1 : keyB a0
    · rw [hf1] at CF0
      have e0 : (tnLC l a0 a1 a2 a3) = 1 := by rw [HCc.out, hf0, hf1]; simp
      have e1 : (tnLR l a0 a1 a2 a3) = [] := HR1.out (by rw [e0]; decide)
      rw [e0, e1]
      clear HCc HR0 HR1
      go_enter Try.func20, Try.ntmps20
      go_wp2_with (first | (go_at_call 48; refine (CT.out _ (Below.refl _ _)).mono ?_; rintro e w1 ⟨rfl, hb1⟩) | (go_at_call 31; refine (CF0.out _).mono ?_; rintro e wz ⟨rfl, hz⟩; rw [hz]; clear hz wz) | (go_at_call 31; refine (CF1.out _).mono ?_; rintro e wz ⟨rfl, hz⟩; rw [hz]; clear hz wz) | (go_at_call 39; refine (CF2.out _).mono ?_; rintro e wz ⟨rfl, hz⟩; rw [hz]; clear hz wz) | (go_at_call 32; refine (CF3.out _).mono ?_; rintro e wz ⟨rfl, hz⟩; rw [hz]; clear hz wz))
      go_ret2
      exact ⟨_, rfl, ownR.nil _ _ _ _, hb1⟩
    · rw [hf1] at CF0
      cases hf2 : keyB a1
      · rw [hf2] at CF1
        have e0 : (tnLC l a0 a1 a2 a3) = 1 := by rw [HCc.out, hf0, hf1, hf2]; simp
        have e1 : (tnLR l a0 a1 a2 a3) = [] := HR1.out (by rw [e0]; decide)
        rw [e0, e1]
        clear HCc HR0 HR1
        go_enter Try.func20, Try.ntmps20
        go_wp2_with (first | (go_at_call 48; refine (CT.out _ (Below.refl _ _)).mono ?_; rintro e w1 ⟨rfl, hb1⟩) | (go_at_call 31; refine (CF0.out _).mono ?_; rintro e wz ⟨rfl, hz⟩; rw [hz]; clear hz wz) | (go_at_call 31; refine (CF1.out _).mono ?_; rintro e wz ⟨rfl, hz⟩; rw [hz]; clear hz wz) | (go_at_call 39; refine (CF2.out _).mono ?_; rintro e wz ⟨rfl, hz⟩; rw [hz]; clear hz wz) | (go_at_call 32; refine (CF3.out _).mono ?_; rintro e wz ⟨rfl, hz⟩; rw [hz]; clear hz wz))
        go_ret2
        exact ⟨_, rfl, ownR.nil _ _ _ _, hb1⟩
      · rw [hf2] at CF1
        cases hf3 : inB a2 0 1000
        · rw [hf3] at CF2
          have e0 : (tnLC l a0 a1 a2 a3) = 1 := by rw [HCc.out, hf0, hf1, hf2, hf3]; simp
          have e1 : (tnLR l a0 a1 a2 a3) = [] := HR1.out (by rw [e0]; decide)
          rw [e0, e1]
          clear HCc HR0 HR1
          go_enter Try.func20, Try.ntmps20
          go_wp2_with (first | (go_at_call 48; refine (CT.out _ (Below.refl _ _)).mono ?_; rintro e w1 ⟨rfl, hb1⟩) | (go_at_call 31; refine (CF0.out _).mono ?_; rintro e wz ⟨rfl, hz⟩; rw [hz]; clear hz wz) | (go_at_call 31; refine (CF1.out _).mono ?_; rintro e wz ⟨rfl, hz⟩; rw [hz]; clear hz wz) | (go_at_call 39; refine (CF2.out _).mono ?_; rintro e wz ⟨rfl, hz⟩; rw [hz]; clear hz wz) | (go_at_call 32; refine (CF3.out _).mono ?_; rintro e wz ⟨rfl, hz⟩; rw [hz]; clear hz wz))
          go_ret2
          exact ⟨_, rfl, ownR.nil _ _ _ _, hb1⟩
        · rw [hf3] at CF2
          cases hf4 : actB a3
          · rw [hf4] at CF3
            have e0 : (tnLC l a0 a1 a2 a3) = 1 := by rw [HCc.out, hf0, hf1, hf2, hf3, hf4]; simp
            have e1 : (tnLR l a0 a1 a2 a3) = [] := HR1.out (by rw [e0]; decide)
            rw [e0, e1]
            clear HCc HR0 HR1
            go_enter Try.func20, Try.ntmps20
            go_wp2_with (first | (go_at_call 48; refine (CT.out _ (Below.refl _ _)).mono ?_; rintro e w1 ⟨rfl, hb1⟩) | (go_at_call 31; refine (CF0.out _).mono ?_; rintro e wz ⟨rfl, hz⟩; rw [hz]; clear hz wz) | (go_at_call 31; refine (CF1.out _).mono ?_; rintro e wz ⟨rfl, hz⟩; rw [hz]; clear hz wz) | (go_at_call 39; refine (CF2.out _).mono ?_; rintro e wz ⟨rfl, hz⟩; rw [hz]; clear hz wz) | (go_at_call 32; refine (CF3.out _).mono ?_; rintro e wz ⟨rfl, hz⟩; rw [hz]; clear hz wz))
            go_ret2
            exact ⟨_, rfl, ownR.nil _ _ _ _, hb1⟩
          · rw [hf4] at CF3
            rw [hf0, hf1, hf2, hf3, hf4] at HCc
            have hpl := place_le (lt := tnLt) l ⟨bits .and .i64 a0 a1, a1, a2, a3⟩
            have h32 : l.length ≤ 32 := tblB_le hf0
            have HS := tnSorted hf0
            have HE2 : Hid ((if place tnLt l ⟨bits .and .i64 a0 a1, a1, a2, a3⟩ < l.length then putJ tnLt l ⟨bits .and .i64 a0 a1, a1, a2, a3⟩ l.length else putJ tnLt l ⟨bits .and .i64 a0 a1, a1, a2, a3⟩ l.length ++ [⟨bits .and .i64 a0 a1, a1, a2, a3⟩]) = putL tnLt (⟨0, 0, 0, 0⟩ : TnV) l ⟨bits .and .i64 a0 a1, a1, a2, a3⟩) := putJ_end tnOrd l _ _ HS
            have HL2 : Hid ((putL tnLt (⟨0, 0, 0, 0⟩ : TnV) l ⟨bits .and .i64 a0 a1, a1, a2, a3⟩).length = l.length + (if there tnLt (⟨0, 0, 0, 0⟩ : TnV) l ⟨bits .and .i64 a0 a1, a1, a2, a3⟩ then 0 else 1)) := putL_length _ l _
            have HJ0 : Hid (∀ j, j < place tnLt l ⟨bits .and .i64 a0 a1, a1, a2, a3⟩ → tnLt (tnA l j) ⟨bits .and .i64 a0 a1, a1, a2, a3⟩ = true ∧ putJ tnLt l ⟨bits .and .i64 a0 a1, a1, a2, a3⟩ (j + 1) = putJ tnLt l ⟨bits .and .i64 a0 a1, a1, a2, a3⟩ j ++ [tnA l j]) := fun j hj => ⟨place_below l _ _ j hj, putJ_ahead l _ _ j hj⟩
            have HJ1 : Hid (place tnLt l ⟨bits .and .i64 a0 a1, a1, a2, a3⟩ < l.length → tnLt (tnA l (place tnLt l ⟨bits .and .i64 a0 a1, a1, a2, a3⟩)) ⟨bits .and .i64 a0 a1, a1, a2, a3⟩ = false ∧ putJ tnLt l ⟨bits .and .i64 a0 a1, a1, a2, a3⟩ (place tnLt l ⟨bits .and .i64 a0 a1, a1, a2, a3⟩ + 1) = putJ tnLt l ⟨bits .and .i64 a0 a1, a1, a2, a3⟩ (place tnLt l ⟨bits .and .i64 a0 a1, a1, a2, a3⟩) ++ [⟨bits .and .i64 a0 a1, a1, a2, a3⟩] ++ (if ne tnLt (tnA l (place tnLt l ⟨bits .and .i64 a0 a1, a1, a2, a3⟩)) ⟨bits .and .i64 a0 a1, a1, a2, a3⟩ then [tnA l (place tnLt l ⟨bits .and .i64 a0 a1, a1, a2, a3⟩)] else [])) := fun hj => ⟨place_at l _ _ hj, putJ_at l _ _ hj⟩
            have HJ2 : Hid (∀ j, place tnLt l ⟨bits .and .i64 a0 a1, a1, a2, a3⟩ < j → j < l.length → putJ tnLt l ⟨bits .and .i64 a0 a1, a1, a2, a3⟩ (j + 1) = putJ tnLt l ⟨bits .and .i64 a0 a1, a1, a2, a3⟩ j ++ (if ne tnLt (tnA l j) ⟨bits .and .i64 a0 a1, a1, a2, a3⟩ then [tnA l j] else [])) := fun j hj hj2 => putJ_behind l _ _ j hj hj2
            have HJl : Hid (∀ j, j ≤ l.length → (putJ tnLt l ⟨bits .and .i64 a0 a1, a1, a2, a3⟩ j).length ≤ j + 1) := fun j hj => putJ_len l _ j hj
            have HJz := putJ_0 (lt := tnLt) l ⟨bits .and .i64 a0 a1, a1, a2, a3⟩
            have HX : Hid ((there tnLt (⟨0, 0, 0, 0⟩ : TnV) l ⟨bits .and .i64 a0 a1, a1, a2, a3⟩ = true ∨ ¬ l.length = 32 → (tnLC l a0 a1 a2 a3) = 0 ∧ (tnLR l a0 a1 a2 a3) = putL tnLt (⟨0, 0, 0, 0⟩ : TnV) l ⟨bits .and .i64 a0 a1, a1, a2, a3⟩) ∧ (there tnLt (⟨0, 0, 0, 0⟩ : TnV) l ⟨bits .and .i64 a0 a1, a1, a2, a3⟩ = false ∧ l.length = 32 → (tnLC l a0 a1 a2 a3) = 2 ∧ (tnLR l a0 a1 a2 a3) = [])) := by
              refine ⟨fun hh => ?_, fun hh => ?_⟩
              · have e0 : (tnLC l a0 a1 a2 a3) = 0 := by
                  rw [HCc.out]
                  rcases hh with hh | hh
                  · simp [hh]
                  · simp [hh]
                exact ⟨e0, HR0.out e0⟩
              · have e0 : (tnLC l a0 a1 a2 a3) = 2 := by rw [HCc.out, hh.1, hh.2]; rfl
                exact ⟨e0, HR1.out (by rw [e0]; decide)⟩
            clear HCc HR0 HR1 HS
            have CB : Hid (∀ (a b : TnV) (u : World), Calls Try.prog 49 #[.agg (tnL a), .agg (tnL b)] u fun e w' => e = .returned (.bool (tnLt a b)) ∧ Below u.heap.size u w') := fun a b u => s_tnAhead a b u
            generalize (tnLC l a0 a1 a2 a3) = pc at *
            generalize (tnLR l a0 a1 a2 a3) = pr at *
            generalize hlm : bits .and .i64 a0 a1 = lm at *
            generalize place tnLt l (⟨lm, a1, a2, a3⟩ : TnV) = pl at *
            generalize putL tnLt (⟨0, 0, 0, 0⟩ : TnV) l (⟨lm, a1, a2, a3⟩ : TnV) = pu at *
            generalize there tnLt (⟨0, 0, 0, 0⟩ : TnV) l (⟨lm, a1, a2, a3⟩ : TnV) = th at *
            generalize putJ tnLt l (⟨lm, a1, a2, a3⟩ : TnV) = PJ at *
            go_enter Try.func20, Try.ntmps20
            go_wp2_with (first | (go_at_call 48; refine (CT.out _ (Below.refl _ _)).mono ?_; rintro e w1 ⟨rfl, hb1⟩) | (go_at_call 31; refine (CF0.out _).mono ?_; rintro e wz ⟨rfl, hz⟩; rw [hz]; clear hz wz) | (go_at_call 31; refine (CF1.out _).mono ?_; rintro e wz ⟨rfl, hz⟩; rw [hz]; clear hz wz) | (go_at_call 39; refine (CF2.out _).mono ?_; rintro e wz ⟨rfl, hz⟩; rw [hz]; clear hz wz) | (go_at_call 32; refine (CF3.out _).mono ?_; rintro e wz ⟨rfl, hz⟩; rw [hz]; clear hz wz))
            have hW00 : Below w.heap.size w (w1.alloc (.cells #[.int .i64 lm, .int .i64 a1, .int .i64 a2, .int .i64 a3] 75)) := hb1.alloc hb1.size _
            have hbz : w1.heap.size < (w1.alloc (.cells #[.int .i64 lm, .int .i64 a1, .int .i64 a2, .int .i64 a3] 75)).heap.size := by simp
            have hx0 : (w1.alloc (.cells #[.int .i64 lm, .int .i64 a1, .int .i64 a2, .int .i64 a3] 75)).cell? ⟨w1.heap.size, 0, none⟩ = some (.int .i64 lm) := by simp
            have hx1 : (w1.alloc (.cells #[.int .i64 lm, .int .i64 a1, .int .i64 a2, .int .i64 a3] 75)).cell? ⟨w1.heap.size, 1, none⟩ = some (.int .i64 a1) := by simp
            have hx2 : (w1.alloc (.cells #[.int .i64 lm, .int .i64 a1, .int .i64 a2, .int .i64 a3] 75)).cell? ⟨w1.heap.size, 2, none⟩ = some (.int .i64 a2) := by simp
            have hx3 : (w1.alloc (.cells #[.int .i64 lm, .int .i64 a1, .int .i64 a2, .int .i64 a3] 75)).cell? ⟨w1.heap.size, 3, none⟩ = some (.int .i64 a3) := by simp
            have HSZ : Hid ((w1.alloc (.cells #[.int .i64 lm, .int .i64 a1, .int .i64 a2, .int .i64 a3] 75)).heap.size = w1.heap.size + 1) := by show _ = _; simp
            generalize hWq : w1.alloc (.cells #[.int .i64 lm, .int .i64 a1, .int .i64 a2, .int .i64 a3] 75) = w0 at *
            clear hWq
            have hW0 : Below w0.heap.size w0 (w0.alloc (.cells #[] 75)) := (Below.refl _ w0).alloc (Nat.le_refl _) _
            have HO0 : Hid (ownR (w0.alloc (.cells #[] 75)) w0.heap.size 75 4 (.slice (some ⟨w1.heap.size + 1, 0, none⟩) 0 0) 0 []) := by
              have hm : ownR (w0.alloc (.cells #[] 75)) w0.heap.size 75 4 (.slice (some ⟨w0.heap.size, 0, none⟩) 0 0) 0 [] := World.ownsRow_made w0 #[] 0 (Nat.le_refl _) (by decide) rfl
              show ownR _ _ _ _ _ _ _
              rw [← HSZ.out]; exact hm
            generalize hWr : w0.alloc _ = w00 at *
            clear hWr
            go_loopw [15, 13, 14] (fun i v dn wr => ∃ j : Nat, j ≤ l.length ∧ i = .int .i64 (j : Int) ∧ dn = .bool (decide (pl < j)) ∧ ownR wr w0.heap.size 75 4 v (PJ j).length (tnF (PJ j)) ∧ Below w0.heap.size w0 wr) (fun i _ _ _ => ((l.length : Int) - intOf i).toNat)
            case atStart => exact ⟨0, by omega, rfl, by simp, by rw [HJz]; exact HO0.out, hW0⟩
            case round =>
              obtain ⟨j, hj, rfl, rfl, ho, hB⟩ := hrel
              have HBx : Hid (∀ u : World, Below w0.heap.size w0 u → u.cell? ⟨w1.heap.size, 0, none⟩ = some (.int .i64 lm) ∧ u.cell? ⟨w1.heap.size, 1, none⟩ = some (.int .i64 a1) ∧ u.cell? ⟨w1.heap.size, 2, none⟩ = some (.int .i64 a2) ∧ u.cell? ⟨w1.heap.size, 3, none⟩ = some (.int .i64 a3)) := fun u hu => ⟨(hu.cell (p := ⟨w1.heap.size, 0, none⟩) hbz).trans hx0, (hu.cell (p := ⟨w1.heap.size, 1, none⟩) hbz).trans hx1, (hu.cell (p := ⟨w1.heap.size, 2, none⟩) hbz).trans hx2, (hu.cell (p := ⟨w1.heap.size, 3, none⟩) hbz).trans hx3⟩
              by_cases hlt : j < l.length
              · have hj1 : (j : Int) < (l.length : Int) := by omega
                have hjl := HJl.out j hj
                rcases h with h | ⟨g, off, rfl, hg, hc⟩
                · have := tnF_len l; rw [h] at this; simp at this; omega
                · have hcw := tn_cells hc j hlt
                  have HC3 : Hid (∀ u : World, Below w0.heap.size w0 u → u.cell? ⟨g, off + j * 4, none⟩ = some (.int .i64 (tnA l j).value) ∧ u.cell? ⟨g, off + j * 4 + 1, none⟩ = some (.int .i64 (tnA l j).mask) ∧ u.cell? ⟨g, off + j * 4 + 2, none⟩ = some (.int .i64 (tnA l j).pri) ∧ u.cell? ⟨g, off + j * 4 + 3, none⟩ = some (.int .i64 (tnA l j).act)) := fun u hu => tn_below (hW00.trans (hu.mono hW00.size)) hg hcw
                  clear hc hcw
                  have CB1 : Bef 49 #[.agg (tnL (tnA l j)), .agg (tnL ⟨lm, a1, a2, a3⟩)] (tnLt (tnA l j) (⟨lm, a1, a2, a3⟩ : TnV)) := ⟨fun u => CB.out _ _ u⟩
                  have CB2 : Bef 49 #[.agg (tnL ⟨lm, a1, a2, a3⟩), .agg (tnL (tnA l j))] (tnLt (⟨lm, a1, a2, a3⟩ : TnV) (tnA l j)) := ⟨fun u => CB.out _ _ u⟩
                  rcases Nat.lt_trichotomy j pl with hjp | hjp | hjp
                  · obtain ⟨q1, q3⟩ := HJ0.out j hjp
                    have Q3 : Hid (PJ (j + 1) = PJ j ++ [tnA l j]) := q3
                    have hd : decide (pl < j) = false := by simp; omega
                    have HD : Hid (decide (pl < j + 1) = false) := by show _ = _; simp; omega
                    rw [hd]
                    rw [q1] at CB1
                    clear q3 hd q1
                    generalize tnA l j = b at *
                    obtain ⟨x0, x1, x2, x3⟩ := b
                    simp only [tnL] at *
                    go_wp2_with fail
                    have hne := BW.some wr
                    have s0 := fun u : BW wr => (HC3.out u.u (hB.trans (u.le.mono hB.size))).1
                    have b0 := fun u : BW wr => (HBx.out u.u (hB.trans (u.le.mono hB.size))).1
                    have s1 := fun u : BW wr => (HC3.out u.u (hB.trans (u.le.mono hB.size))).2.1
                    have b1 := fun u : BW wr => (HBx.out u.u (hB.trans (u.le.mono hB.size))).2.1
                    have s2 := fun u : BW wr => (HC3.out u.u (hB.trans (u.le.mono hB.size))).2.2.1
                    have b2 := fun u : BW wr => (HBx.out u.u (hB.trans (u.le.mono hB.size))).2.2.1
                    have s3 := fun u : BW wr => (HC3.out u.u (hB.trans (u.le.mono hB.size))).2.2.2
                    have b3 := fun u : BW wr => (HBx.out u.u (hB.trans (u.le.mono hB.size))).2.2.2
                    refine wp_region_below (by kernel_rfl) (by kernel_rfl) ?_
                    repeat (go_big_quiet_step (first | (go_at_call 49; exact Bef.into CB1)))
                    refine wpQuiet_nil ?_
                    intro _ hw'
                    obtain ⟨u, hw''⟩ := hw'
                    subst hw''
                    replace ho := ho.far u.le
                    replace hB := hB.trans (u.le.mono hB.size)
                    clear s0 b0 s1 b1 s2 b2 s3 b3 hne
                    generalize u.u = wa at *
                    clear u
                    go_wp2_with fail
                    have hne := BW.some wa
                    have s0 := fun u : BW wa => (HC3.out u.u (hB.trans (u.le.mono hB.size))).1
                    have b0 := fun u : BW wa => (HBx.out u.u (hB.trans (u.le.mono hB.size))).1
                    have s1 := fun u : BW wa => (HC3.out u.u (hB.trans (u.le.mono hB.size))).2.1
                    have b1 := fun u : BW wa => (HBx.out u.u (hB.trans (u.le.mono hB.size))).2.1
                    have s2 := fun u : BW wa => (HC3.out u.u (hB.trans (u.le.mono hB.size))).2.2.1
                    have b2 := fun u : BW wa => (HBx.out u.u (hB.trans (u.le.mono hB.size))).2.2.1
                    have s3 := fun u : BW wa => (HC3.out u.u (hB.trans (u.le.mono hB.size))).2.2.2
                    have b3 := fun u : BW wa => (HBx.out u.u (hB.trans (u.le.mono hB.size))).2.2.2
                    refine wp_region_below (by kernel_rfl) (by kernel_rfl) ?_
                    repeat (go_big_quiet_step (first | (go_at_call 49; exact Bef.into CB1)))
                    refine wpQuiet_nil ?_
                    intro _ hw'
                    obtain ⟨u, hw''⟩ := hw'
                    subst hw''
                    replace ho := ho.far u.le
                    replace hB := hB.trans (u.le.mono hB.size)
                    clear s0 b0 s1 b1 s2 b2 s3 b3 hne
                    generalize u.u = wb at *
                    clear u
                    have hcs := HC3.out _ hB
                    go_wp2_with (at_builtin; refine wpList_append_recs Try.infTern rfl (.tmp 82) (.tmp 87) rfl w0.heap.size _ _ _ rfl (ho.alloc _) _ 1 1 [x0, x1, x2, x3] rfl (by simp) (by simp) (ints_new wb 75 [x0, x1, x2, x3]) (by simp; omega) (by have := hB.size; simp; omega) ?_; intro v' w3 ho3 hb3)
                    go_roundw
                    case rel =>
                      refine ⟨j + 1, by omega, by go_num, by rw [HD.out], ?_, (hB.alloc hB.size _).trans hb3⟩
                      rw [Q3.out, tnF_app, List.length_append]; exact ho3
                    case measure => simp [intOf]; omega
                  · subst hjp
                    obtain ⟨q1, q3⟩ := HJ1.out hlt
                    have hd : decide (j < j) = false := by simp
                    have HD : Hid (decide (j < j + 1) = true) := by show _ = _; simp
                    rw [hd]
                    rw [q1] at CB1
                    have hne1 : ne tnLt (tnA l j) (⟨lm, a1, a2, a3⟩ : TnV) = tnLt (⟨lm, a1, a2, a3⟩ : TnV) (tnA l j) := by unfold ne; rw [q1, Bool.false_or]
                    rw [hne1] at q3
                    have Q3 : Hid (PJ (j + 1) = PJ j ++ [(⟨lm, a1, a2, a3⟩ : TnV)] ++ (if tnLt (⟨lm, a1, a2, a3⟩ : TnV) (tnA l j) = true then [tnA l j] else [])) := q3
                    clear hd q3 hne1 q1
                    cases hq : tnLt (⟨lm, a1, a2, a3⟩ : TnV) (tnA l j)
                    · rw [hq] at CB2 Q3
                      rw [if_neg (by decide), List.append_nil] at Q3
                      clear hq
                      generalize tnA l j = b at *
                      obtain ⟨x0, x1, x2, x3⟩ := b
                      simp only [tnL] at *
                      go_wp2_with fail
                      have hne := BW.some wr
                      have s0 := fun u : BW wr => (HC3.out u.u (hB.trans (u.le.mono hB.size))).1
                      have b0 := fun u : BW wr => (HBx.out u.u (hB.trans (u.le.mono hB.size))).1
                      have s1 := fun u : BW wr => (HC3.out u.u (hB.trans (u.le.mono hB.size))).2.1
                      have b1 := fun u : BW wr => (HBx.out u.u (hB.trans (u.le.mono hB.size))).2.1
                      have s2 := fun u : BW wr => (HC3.out u.u (hB.trans (u.le.mono hB.size))).2.2.1
                      have b2 := fun u : BW wr => (HBx.out u.u (hB.trans (u.le.mono hB.size))).2.2.1
                      have s3 := fun u : BW wr => (HC3.out u.u (hB.trans (u.le.mono hB.size))).2.2.2
                      have b3 := fun u : BW wr => (HBx.out u.u (hB.trans (u.le.mono hB.size))).2.2.2
                      refine wp_region_below (by kernel_rfl) (by kernel_rfl) ?_
                      repeat (go_big_quiet_step (first | (go_at_call 49; exact Bef.into CB1)))
                      refine wpQuiet_nil ?_
                      intro _ hw'
                      obtain ⟨u, hw''⟩ := hw'
                      subst hw''
                      replace ho := ho.far u.le
                      replace hB := hB.trans (u.le.mono hB.size)
                      clear s0 b0 s1 b1 s2 b2 s3 b3 hne
                      generalize u.u = wa at *
                      clear u
                      have hbx := HBx.out _ hB
                      go_wp2_with (at_builtin; refine wpList_append_recs Try.infTern rfl (.tmp 64) (.tmp 66) rfl w0.heap.size _ _ _ rfl (ho.alloc _) _ 1 1 [lm, a1, a2, a3] rfl (by simp) (by simp) (ints_new wa 75 [lm, a1, a2, a3]) (by simp; omega) (by have := hB.size; simp; omega) ?_; intro v' w3 ho3 hb3)
                      clear hbx
                      replace hB := (hB.alloc hB.size _).trans hb3
                      replace ho := ho3
                      clear ho3 hb3
                      go_wp2_with fail
                      have hne := BW.some w3
                      have s0 := fun u : BW w3 => (HC3.out u.u (hB.trans (u.le.mono hB.size))).1
                      have b0 := fun u : BW w3 => (HBx.out u.u (hB.trans (u.le.mono hB.size))).1
                      have s1 := fun u : BW w3 => (HC3.out u.u (hB.trans (u.le.mono hB.size))).2.1
                      have b1 := fun u : BW w3 => (HBx.out u.u (hB.trans (u.le.mono hB.size))).2.1
                      have s2 := fun u : BW w3 => (HC3.out u.u (hB.trans (u.le.mono hB.size))).2.2.1
                      have b2 := fun u : BW w3 => (HBx.out u.u (hB.trans (u.le.mono hB.size))).2.2.1
                      have s3 := fun u : BW w3 => (HC3.out u.u (hB.trans (u.le.mono hB.size))).2.2.2
                      have b3 := fun u : BW w3 => (HBx.out u.u (hB.trans (u.le.mono hB.size))).2.2.2
                      refine wp_region_below (by kernel_rfl) (by kernel_rfl) ?_
                      repeat (go_big_quiet_step (first | (go_at_call 49; first | exact Bef.into CB1 | exact Bef.into CB2)))
                      refine wpQuiet_nil ?_
                      intro _ hw'
                      obtain ⟨u, hw''⟩ := hw'
                      subst hw''
                      replace ho := ho.far u.le
                      replace hB := hB.trans (u.le.mono hB.size)
                      clear s0 b0 s1 b1 s2 b2 s3 b3 hne
                      generalize u.u = wb at *
                      clear u
                      go_wp2
                      go_roundw
                      case rel =>
                        refine ⟨j + 1, by omega, by go_num, by rw [HD.out], ?_, hB⟩
                        rw [Q3.out, tnF_app, List.length_append]; exact ho
                      case measure => simp [intOf]; omega
                    · rw [hq] at CB2 Q3
                      rw [if_pos rfl] at Q3
                      clear hq
                      generalize tnA l j = b at *
                      obtain ⟨x0, x1, x2, x3⟩ := b
                      simp only [tnL] at *
                      go_wp2_with fail
                      have hne := BW.some wr
                      have s0 := fun u : BW wr => (HC3.out u.u (hB.trans (u.le.mono hB.size))).1
                      have b0 := fun u : BW wr => (HBx.out u.u (hB.trans (u.le.mono hB.size))).1
                      have s1 := fun u : BW wr => (HC3.out u.u (hB.trans (u.le.mono hB.size))).2.1
                      have b1 := fun u : BW wr => (HBx.out u.u (hB.trans (u.le.mono hB.size))).2.1
                      have s2 := fun u : BW wr => (HC3.out u.u (hB.trans (u.le.mono hB.size))).2.2.1
                      have b2 := fun u : BW wr => (HBx.out u.u (hB.trans (u.le.mono hB.size))).2.2.1
                      have s3 := fun u : BW wr => (HC3.out u.u (hB.trans (u.le.mono hB.size))).2.2.2
                      have b3 := fun u : BW wr => (HBx.out u.u (hB.trans (u.le.mono hB.size))).2.2.2
                      refine wp_region_below (by kernel_rfl) (by kernel_rfl) ?_
                      repeat (go_big_quiet_step (first | (go_at_call 49; exact Bef.into CB1)))
                      refine wpQuiet_nil ?_
                      intro _ hw'
                      obtain ⟨u, hw''⟩ := hw'
                      subst hw''
                      replace ho := ho.far u.le
                      replace hB := hB.trans (u.le.mono hB.size)
                      clear s0 b0 s1 b1 s2 b2 s3 b3 hne
                      generalize u.u = wa at *
                      clear u
                      have hbx := HBx.out _ hB
                      go_wp2_with (at_builtin; refine wpList_append_recs Try.infTern rfl (.tmp 64) (.tmp 66) rfl w0.heap.size _ _ _ rfl (ho.alloc _) _ 1 1 [lm, a1, a2, a3] rfl (by simp) (by simp) (ints_new wa 75 [lm, a1, a2, a3]) (by simp; omega) (by have := hB.size; simp; omega) ?_; intro v' w3 ho3 hb3)
                      clear hbx
                      replace hB := (hB.alloc hB.size _).trans hb3
                      replace ho := ho3
                      clear ho3 hb3
                      go_wp2_with fail
                      have hne := BW.some w3
                      have s0 := fun u : BW w3 => (HC3.out u.u (hB.trans (u.le.mono hB.size))).1
                      have b0 := fun u : BW w3 => (HBx.out u.u (hB.trans (u.le.mono hB.size))).1
                      have s1 := fun u : BW w3 => (HC3.out u.u (hB.trans (u.le.mono hB.size))).2.1
                      have b1 := fun u : BW w3 => (HBx.out u.u (hB.trans (u.le.mono hB.size))).2.1
                      have s2 := fun u : BW w3 => (HC3.out u.u (hB.trans (u.le.mono hB.size))).2.2.1
                      have b2 := fun u : BW w3 => (HBx.out u.u (hB.trans (u.le.mono hB.size))).2.2.1
                      have s3 := fun u : BW w3 => (HC3.out u.u (hB.trans (u.le.mono hB.size))).2.2.2
                      have b3 := fun u : BW w3 => (HBx.out u.u (hB.trans (u.le.mono hB.size))).2.2.2
                      refine wp_region_below (by kernel_rfl) (by kernel_rfl) ?_
                      repeat (go_big_quiet_step (first | (go_at_call 49; first | exact Bef.into CB1 | exact Bef.into CB2)))
                      refine wpQuiet_nil ?_
                      intro _ hw'
                      obtain ⟨u, hw''⟩ := hw'
                      subst hw''
                      replace ho := ho.far u.le
                      replace hB := hB.trans (u.le.mono hB.size)
                      clear s0 b0 s1 b1 s2 b2 s3 b3 hne
                      generalize u.u = wb at *
                      clear u
                      have hcs := HC3.out _ hB
                      go_wp2_with (at_builtin; refine wpList_append_recs Try.infTern rfl (.tmp 82) (.tmp 87) rfl w0.heap.size _ _ _ rfl (ho.alloc _) _ 1 1 [x0, x1, x2, x3] rfl (by simp) (by simp) (ints_new wb 75 [x0, x1, x2, x3]) (by simp; omega) (by have := hB.size; simp; omega) ?_; intro v4 w4 ho4 hb4)
                      go_roundw
                      case rel =>
                        refine ⟨j + 1, by omega, by go_num, by rw [HD.out], ?_, (hB.alloc hB.size _).trans hb4⟩
                        rw [Q3.out, tnF_app, tnF_app, List.length_append, List.length_append]; exact ho4
                      case measure => simp [intOf]; omega
                  · have q3 := HJ2.out j hjp hlt
                    have hd : decide (pl < j) = true := by simp; omega
                    have HD : Hid (decide (pl < j + 1) = true) := by show _ = _; simp; omega
                    rw [hd]
                    have Q3 : Hid (PJ (j + 1) = PJ j ++ (if (tnLt (tnA l j) (⟨lm, a1, a2, a3⟩ : TnV) || tnLt (⟨lm, a1, a2, a3⟩ : TnV) (tnA l j)) = true then [tnA l j] else [])) := q3
                    clear hd q3
                    cases hq1 : tnLt (tnA l j) (⟨lm, a1, a2, a3⟩ : TnV)
                    · rw [hq1] at CB1 Q3
                      cases hq2 : tnLt (⟨lm, a1, a2, a3⟩ : TnV) (tnA l j)
                      · rw [hq2] at CB2 Q3
                        rw [if_neg (by decide), List.append_nil] at Q3
                        clear hq1 hq2
                        generalize tnA l j = b at *
                        obtain ⟨x0, x1, x2, x3⟩ := b
                        simp only [tnL] at *
                        go_wp2_with fail
                        have hne := BW.some wr
                        have s0 := fun u : BW wr => (HC3.out u.u (hB.trans (u.le.mono hB.size))).1
                        have b0 := fun u : BW wr => (HBx.out u.u (hB.trans (u.le.mono hB.size))).1
                        have s1 := fun u : BW wr => (HC3.out u.u (hB.trans (u.le.mono hB.size))).2.1
                        have b1 := fun u : BW wr => (HBx.out u.u (hB.trans (u.le.mono hB.size))).2.1
                        have s2 := fun u : BW wr => (HC3.out u.u (hB.trans (u.le.mono hB.size))).2.2.1
                        have b2 := fun u : BW wr => (HBx.out u.u (hB.trans (u.le.mono hB.size))).2.2.1
                        have s3 := fun u : BW wr => (HC3.out u.u (hB.trans (u.le.mono hB.size))).2.2.2
                        have b3 := fun u : BW wr => (HBx.out u.u (hB.trans (u.le.mono hB.size))).2.2.2
                        refine wp_region_below (by kernel_rfl) (by kernel_rfl) ?_
                        repeat (go_big_quiet_step (fail))
                        refine wpQuiet_nil ?_
                        intro _ hw'
                        obtain ⟨u, hw''⟩ := hw'
                        subst hw''
                        replace ho := ho.far u.le
                        replace hB := hB.trans (u.le.mono hB.size)
                        clear s0 b0 s1 b1 s2 b2 s3 b3 hne
                        generalize u.u = wa at *
                        clear u
                        go_wp2_with fail
                        have hne := BW.some wa
                        have s0 := fun u : BW wa => (HC3.out u.u (hB.trans (u.le.mono hB.size))).1
                        have b0 := fun u : BW wa => (HBx.out u.u (hB.trans (u.le.mono hB.size))).1
                        have s1 := fun u : BW wa => (HC3.out u.u (hB.trans (u.le.mono hB.size))).2.1
                        have b1 := fun u : BW wa => (HBx.out u.u (hB.trans (u.le.mono hB.size))).2.1
                        have s2 := fun u : BW wa => (HC3.out u.u (hB.trans (u.le.mono hB.size))).2.2.1
                        have b2 := fun u : BW wa => (HBx.out u.u (hB.trans (u.le.mono hB.size))).2.2.1
                        have s3 := fun u : BW wa => (HC3.out u.u (hB.trans (u.le.mono hB.size))).2.2.2
                        have b3 := fun u : BW wa => (HBx.out u.u (hB.trans (u.le.mono hB.size))).2.2.2
                        refine wp_region_below (by kernel_rfl) (by kernel_rfl) ?_
                        repeat (go_big_quiet_step (first | (go_at_call 49; first | exact Bef.into CB1 | exact Bef.into CB2)))
                        refine wpQuiet_nil ?_
                        intro _ hw'
                        obtain ⟨u, hw''⟩ := hw'
                        subst hw''
                        replace ho := ho.far u.le
                        replace hB := hB.trans (u.le.mono hB.size)
                        clear s0 b0 s1 b1 s2 b2 s3 b3 hne
                        generalize u.u = wb at *
                        clear u
                        go_wp2
                        go_roundw
                        case rel => exact ⟨j + 1, by omega, by go_num, by rw [HD.out], by rw [Q3.out]; exact ho, hB⟩
                        case measure => simp [intOf]; omega
                      · rw [hq2] at CB2 Q3
                        rw [if_pos (by decide)] at Q3
                        clear hq1 hq2
                        generalize tnA l j = b at *
                        obtain ⟨x0, x1, x2, x3⟩ := b
                        simp only [tnL] at *
                        go_wp2_with fail
                        have hne := BW.some wr
                        have s0 := fun u : BW wr => (HC3.out u.u (hB.trans (u.le.mono hB.size))).1
                        have b0 := fun u : BW wr => (HBx.out u.u (hB.trans (u.le.mono hB.size))).1
                        have s1 := fun u : BW wr => (HC3.out u.u (hB.trans (u.le.mono hB.size))).2.1
                        have b1 := fun u : BW wr => (HBx.out u.u (hB.trans (u.le.mono hB.size))).2.1
                        have s2 := fun u : BW wr => (HC3.out u.u (hB.trans (u.le.mono hB.size))).2.2.1
                        have b2 := fun u : BW wr => (HBx.out u.u (hB.trans (u.le.mono hB.size))).2.2.1
                        have s3 := fun u : BW wr => (HC3.out u.u (hB.trans (u.le.mono hB.size))).2.2.2
                        have b3 := fun u : BW wr => (HBx.out u.u (hB.trans (u.le.mono hB.size))).2.2.2
                        refine wp_region_below (by kernel_rfl) (by kernel_rfl) ?_
                        repeat (go_big_quiet_step (fail))
                        refine wpQuiet_nil ?_
                        intro _ hw'
                        obtain ⟨u, hw''⟩ := hw'
                        subst hw''
                        replace ho := ho.far u.le
                        replace hB := hB.trans (u.le.mono hB.size)
                        clear s0 b0 s1 b1 s2 b2 s3 b3 hne
                        generalize u.u = wa at *
                        clear u
                        go_wp2_with fail
                        have hne := BW.some wa
                        have s0 := fun u : BW wa => (HC3.out u.u (hB.trans (u.le.mono hB.size))).1
                        have b0 := fun u : BW wa => (HBx.out u.u (hB.trans (u.le.mono hB.size))).1
                        have s1 := fun u : BW wa => (HC3.out u.u (hB.trans (u.le.mono hB.size))).2.1
                        have b1 := fun u : BW wa => (HBx.out u.u (hB.trans (u.le.mono hB.size))).2.1
                        have s2 := fun u : BW wa => (HC3.out u.u (hB.trans (u.le.mono hB.size))).2.2.1
                        have b2 := fun u : BW wa => (HBx.out u.u (hB.trans (u.le.mono hB.size))).2.2.1
                        have s3 := fun u : BW wa => (HC3.out u.u (hB.trans (u.le.mono hB.size))).2.2.2
                        have b3 := fun u : BW wa => (HBx.out u.u (hB.trans (u.le.mono hB.size))).2.2.2
                        refine wp_region_below (by kernel_rfl) (by kernel_rfl) ?_
                        repeat (go_big_quiet_step (first | (go_at_call 49; first | exact Bef.into CB1 | exact Bef.into CB2)))
                        refine wpQuiet_nil ?_
                        intro _ hw'
                        obtain ⟨u, hw''⟩ := hw'
                        subst hw''
                        replace ho := ho.far u.le
                        replace hB := hB.trans (u.le.mono hB.size)
                        clear s0 b0 s1 b1 s2 b2 s3 b3 hne
                        generalize u.u = wb at *
                        clear u
                        have hcs := HC3.out _ hB
                        go_wp2_with (at_builtin; refine wpList_append_recs Try.infTern rfl (.tmp 82) (.tmp 87) rfl w0.heap.size _ _ _ rfl (ho.alloc _) _ 1 1 [x0, x1, x2, x3] rfl (by simp) (by simp) (ints_new wb 75 [x0, x1, x2, x3]) (by simp; omega) (by have := hB.size; simp; omega) ?_; intro v' w3 ho3 hb3)
                        go_roundw
                        case rel =>
                          refine ⟨j + 1, by omega, by go_num, by rw [HD.out], ?_, (hB.alloc hB.size _).trans hb3⟩
                          rw [Q3.out, tnF_app, List.length_append]; exact ho3
                        case measure => simp [intOf]; omega
                    · rw [hq1] at CB1 Q3
                      rw [if_pos (by simp)] at Q3
                      clear hq1
                      generalize tnA l j = b at *
                      obtain ⟨x0, x1, x2, x3⟩ := b
                      simp only [tnL] at *
                      go_wp2_with fail
                      have hne := BW.some wr
                      have s0 := fun u : BW wr => (HC3.out u.u (hB.trans (u.le.mono hB.size))).1
                      have b0 := fun u : BW wr => (HBx.out u.u (hB.trans (u.le.mono hB.size))).1
                      have s1 := fun u : BW wr => (HC3.out u.u (hB.trans (u.le.mono hB.size))).2.1
                      have b1 := fun u : BW wr => (HBx.out u.u (hB.trans (u.le.mono hB.size))).2.1
                      have s2 := fun u : BW wr => (HC3.out u.u (hB.trans (u.le.mono hB.size))).2.2.1
                      have b2 := fun u : BW wr => (HBx.out u.u (hB.trans (u.le.mono hB.size))).2.2.1
                      have s3 := fun u : BW wr => (HC3.out u.u (hB.trans (u.le.mono hB.size))).2.2.2
                      have b3 := fun u : BW wr => (HBx.out u.u (hB.trans (u.le.mono hB.size))).2.2.2
                      refine wp_region_below (by kernel_rfl) (by kernel_rfl) ?_
                      repeat (go_big_quiet_step (fail))
                      refine wpQuiet_nil ?_
                      intro _ hw'
                      obtain ⟨u, hw''⟩ := hw'
                      subst hw''
                      replace ho := ho.far u.le
                      replace hB := hB.trans (u.le.mono hB.size)
                      clear s0 b0 s1 b1 s2 b2 s3 b3 hne
                      generalize u.u = wa at *
                      clear u
                      go_wp2_with fail
                      have hne := BW.some wa
                      have s0 := fun u : BW wa => (HC3.out u.u (hB.trans (u.le.mono hB.size))).1
                      have b0 := fun u : BW wa => (HBx.out u.u (hB.trans (u.le.mono hB.size))).1
                      have s1 := fun u : BW wa => (HC3.out u.u (hB.trans (u.le.mono hB.size))).2.1
                      have b1 := fun u : BW wa => (HBx.out u.u (hB.trans (u.le.mono hB.size))).2.1
                      have s2 := fun u : BW wa => (HC3.out u.u (hB.trans (u.le.mono hB.size))).2.2.1
                      have b2 := fun u : BW wa => (HBx.out u.u (hB.trans (u.le.mono hB.size))).2.2.1
                      have s3 := fun u : BW wa => (HC3.out u.u (hB.trans (u.le.mono hB.size))).2.2.2
                      have b3 := fun u : BW wa => (HBx.out u.u (hB.trans (u.le.mono hB.size))).2.2.2
                      refine wp_region_below (by kernel_rfl) (by kernel_rfl) ?_
                      repeat (go_big_quiet_step (first | (go_at_call 49; exact Bef.into CB1)))
                      refine wpQuiet_nil ?_
                      intro _ hw'
                      obtain ⟨u, hw''⟩ := hw'
                      subst hw''
                      replace ho := ho.far u.le
                      replace hB := hB.trans (u.le.mono hB.size)
                      clear s0 b0 s1 b1 s2 b2 s3 b3 hne
                      generalize u.u = wb at *
                      clear u
                      have hcs := HC3.out _ hB
                      go_wp2_with (at_builtin; refine wpList_append_recs Try.infTern rfl (.tmp 82) (.tmp 87) rfl w0.heap.size _ _ _ rfl (ho.alloc _) _ 1 1 [x0, x1, x2, x3] rfl (by simp) (by simp) (ints_new wb 75 [x0, x1, x2, x3]) (by simp; omega) (by have := hB.size; simp; omega) ?_; intro v' w3 ho3 hb3)
                      go_roundw
                      case rel =>
                        refine ⟨j + 1, by omega, by go_num, by rw [HD.out], ?_, (hB.alloc hB.size _).trans hb3⟩
                        rw [Q3.out, tnF_app, List.length_append]; exact ho3
                      case measure => simp [intOf]; omega
              · have e : j = l.length := by omega
                subst e
                clear HJ0 HJ1 HJ2
                have hjl := HJl.out l.length (Nat.le_refl _)
                have HY : Hid ((¬ 32 < pu.length → pc = 0 ∧ pr = pu) ∧ (32 < pu.length → pc = 2 ∧ pr = [])) := by
                  have hL := HL2.out
                  refine ⟨fun hh => HX.out.1 ?_, fun hh => HX.out.2 ?_⟩
                  · cases th
                    · right; simp at hL; omega
                    · exact .inl rfl
                  · cases th
                    · simp at hL; exact ⟨rfl, by omega⟩
                    · simp at hL; omega
                clear HX HL2
                have hWW := hW00.size
                by_cases hpn : pl < l.length
                · have hd : decide (pl < l.length) = true := by simp; omega
                  rw [hd]
                  have he := HE2.out
                  rw [if_pos hpn] at he
                  rw [he] at ho
                  clear he hd
                  by_cases h33 : 32 < pu.length
                  · obtain ⟨e0, e1⟩ := HY.out.2 h33
                    subst e0 e1
                    have h34 : (32 : Int) < (pu.length : Int) := by omega
                    obtain ⟨T3, c3, rfl⟩ := ho.form
                    go_wp2
                    go_ret2
                    exact ⟨_, rfl, ownR.nil _ _ _ _, hW00.trans (hB.mono hWW)⟩
                  · obtain ⟨e0, e1⟩ := HY.out.1 h33
                    subst e0 e1
                    have h34 : ¬ (32 : Int) < (pr.length : Int) := by omega
                    obtain ⟨T3, c3, rfl⟩ := ho.form
                    go_wp2
                    go_ret2
                    exact ⟨_, rfl, ho.mono hWW, hW00.trans (hB.mono hWW)⟩
                · have hd : decide (pl < l.length) = false := by simp; omega
                  rw [hd]
                  have he := HE2.out
                  rw [if_neg hpn] at he
                  have HE3 : Hid (PJ l.length ++ [(⟨lm, a1, a2, a3⟩ : TnV)] = pu) := he
                  clear he hd
                  have hbx := HBx.out _ hB
                  by_cases h33 : 32 < pu.length
                  · obtain ⟨e0, e1⟩ := HY.out.2 h33
                    subst e0 e1
                    have h34 : (32 : Int) < (pu.length : Int) := by omega
                    go_wp2_with (at_builtin; refine wpList_append_recs Try.infTern rfl (.tmp 91) (.tmp 93) rfl w0.heap.size _ _ _ rfl (ho.alloc _) _ 1 1 [lm, a1, a2, a3] rfl (by simp) (by simp) (ints_new wr 75 [lm, a1, a2, a3]) (by simp; omega) (by have := hB.size; simp; omega) ?_; intro v' w3 ho3 hb3; have hB3 := (hB.alloc hB.size _).trans hb3; have ho4 : ownR w3 w0.heap.size 75 4 v' (PJ l.length ++ [(⟨lm, a1, a2, a3⟩ : TnV)]).length (tnF (PJ l.length ++ [(⟨lm, a1, a2, a3⟩ : TnV)])) := (by rw [tnF_app, List.length_append]; exact ho3); rw [HE3.out] at ho4; obtain ⟨T3, c3, rfl⟩ := ho4.form; clear ho3 hb3)
                    go_ret2
                    exact ⟨_, rfl, ownR.nil _ _ _ _, hW00.trans (hB3.mono hWW)⟩
                  · obtain ⟨e0, e1⟩ := HY.out.1 h33
                    subst e0 e1
                    have h34 : ¬ (32 : Int) < (pr.length : Int) := by omega
                    go_wp2_with (at_builtin; refine wpList_append_recs Try.infTern rfl (.tmp 91) (.tmp 93) rfl w0.heap.size _ _ _ rfl (ho.alloc _) _ 1 1 [lm, a1, a2, a3] rfl (by simp) (by simp) (ints_new wr 75 [lm, a1, a2, a3]) (by simp; omega) (by have := hB.size; simp; omega) ?_; intro v' w3 ho3 hb3; have hB3 := (hB.alloc hB.size _).trans hb3; have ho4 : ownR w3 w0.heap.size 75 4 v' (PJ l.length ++ [(⟨lm, a1, a2, a3⟩ : TnV)]).length (tnF (PJ l.length ++ [(⟨lm, a1, a2, a3⟩ : TnV)])) := (by rw [tnF_app, List.length_append]; exact ho3); rw [HE3.out] at ho4; obtain ⟨T3, c3, rfl⟩ := ho4.form; clear ho3 hb3)
                    go_ret2
                    exact ⟨_, rfl, ho4.mono hWW, hW00.trans (hB3.mono hWW)⟩
end Go.Proofs.Ytnlignfmicincaa
