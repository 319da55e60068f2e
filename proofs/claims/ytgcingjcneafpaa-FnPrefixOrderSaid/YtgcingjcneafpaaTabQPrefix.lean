/-
  What the program and the model put into a table by the first bits of an address.
-/
import Derived.Test.YtgcingjcneafpaaTabPPrefix
namespace Go.Proofs.Ytgcingjcneafpaa
open Go.RowKit Go.PlainAid
def pfLC (l : List PfV) (a0 a1 a2 : Int) : Int := pfPutC l (pfR a0 a1 a2)
def pfLR (l : List PfV) (a0 a1 a2 : Int) : List PfV := pfPutR l (pfR a0 a1 a2)
theorem pfOk_R (a0 a1 a2 : Int) : pfOk (pfR a0 a1 a2) = (inB a1 0 32 && addrB a0 && actB a2) := by
  unfold pfOk pfR
  simp only []
  cases h1 : inB a1 0 32
  · simp
  · cases h0 : addrB a0
    · simp [h0]
    · obtain ⟨q0, q1⟩ := of_inB h1
      obtain ⟨q2, q3⟩ := of_inB h0
      obtain ⟨q4, q5⟩ := top_bd (b := a1) q0 q2
      have e : addrB (top a0 a1) = true := inB_true (by omega) (by omega)
      simp [e, top_top q0]
theorem pfLC_eq (l : List PfV) (a0 a1 a2 : Int) : pfLC l a0 a1 a2 = if !(pfTab l && inB a1 0 32 && addrB a0 && actB a2) then 1 else if there pfLt (⟨0, 0, 0⟩ : PfV) l ⟨top a0 a1, a1, a2⟩ then 0 else if l.length = 32 then 2 else 0 := by
  unfold pfLC pfPutC
  rw [pfOk_R]
  unfold pfR
  cases h1 : inB a1 0 32
  · simp
  · cases h0 : addrB a0
    · simp
    · cases pfTab l <;> cases actB a2 <;> simp
theorem pfLR_yes (l : List PfV) (a0 a1 a2 : Int) (h : pfLC l a0 a1 a2 = 0) : pfLR l a0 a1 a2 = putL pfLt (⟨0, 0, 0⟩ : PfV) l ⟨top a0 a1, a1, a2⟩ := by
  have h2 := h
  rw [pfLC_eq] at h2
  unfold pfLC at h
  unfold pfLR pfPutR
  rw [if_pos h]
  unfold pfR
  cases h1 : inB a1 0 32
  · rw [h1] at h2; simp at h2
  · cases h0 : addrB a0
    · rw [h0] at h2; simp at h2
    · rfl
theorem pfLR_no (l : List PfV) (a0 a1 a2 : Int) (h : ¬ pfLC l a0 a1 a2 = 0) : pfLR l a0 a1 a2 = [] := by
  unfold pfLC at h
  unfold pfLR pfPutR
  rw [if_neg h]
theorem pfPut_len (l : List PfV) (a0 a1 a2 : Int) : (pfLR l a0 a1 a2).length ≤ l.length + 1 := by
  by_cases h : pfLC l a0 a1 a2 = 0
  · rw [pfLR_yes l _ _ _ h, putL_length]; split <;> omega
  · rw [pfLR_no l _ _ _ h]; simp
set_option maxRecDepth 100000 in
set_option maxHeartbeats 1600000 in
theorem i_PrefixPut (g off c : Nat) (l : List PfV) (a0 a1 a2 : Int) (w : World) (h : IntsAt w (some ⟨g, off, none⟩) (pfF l)) (hc : l.length ≤ c) (hl : l.length ≤ 1048576) :
    Calls Try.prog 15 #[.slice (some ⟨g, off, none⟩) l.length c, .int .i64 a0, .int .i64 a1, .int .i64 a2] w fun e w' => ∃ v, e = .returned (.tuple #[v, .int .i64 (pfLC l a0 a1 a2)]) ∧ ownR w' w.heap.size 70 3 v (pfLR l a0 a1 a2).length (pfF (pfLR l a0 a1 a2)) ∧ Below w.heap.size w w' := by
  have CP : Hid (∀ u : World, Calls Try.prog 42 #[.int .i64 a0, .int .i64 a1, .int .i64 a2] u fun e w' => e = .returned (.agg (pfL (pfR a0 a1 a2))) ∧ Below u.heap.size u w') := fun u => i_prefixOf a0 a1 a2 u
  have C : Hid (∀ u : World, Below w.heap.size w u → Calls Try.prog 41 #[.slice (some ⟨g, off, none⟩) l.length c, .agg (pfL (pfR a0 a1 a2))] u fun e w' => ∃ v, e = .returned (.tuple #[v, .int .i64 (pfLC l a0 a1 a2)]) ∧ ownR w' u.heap.size 70 3 v (pfLR l a0 a1 a2).length (pfF (pfLR l a0 a1 a2)) ∧ Below u.heap.size u w') := by
    intro u hu; exact i_pfPut g off c l _ u (h.below hu) hc hl
  generalize pfLC l a0 a1 a2 = pc at *
  generalize pfLR l a0 a1 a2 = pr at *
  go_enter Try.func15, Try.ntmps15
  go_wp2_with fail
  go_at_call 42
  refine (CP.out _).mono ?_
  rintro e w1 ⟨rfl, hb1⟩
  go_wp2_with fail
  go_at_call 41
  refine (C.out _ hb1).mono ?_
  rintro e w2 ⟨v, rfl, ho, hb⟩
  go_wp2
  go_ret2
  exact ⟨_, rfl, ho.mono hb1.size, hb1.trans (hb.mono hb1.size)⟩
set_option maxRecDepth 100000 in
set_option maxHeartbeats 12800000 in
theorem s_PrefixPut (T : Option Addr) (c : Nat) (l : List PfV) (a0 a1 a2 : Int) (w : World) (h : IntsAt w T (pfF l)) (hl : l.length ≤ 1048576) :
    Calls Try.prog 16 #[.slice T l.length c, .int .i64 a0, .int .i64 a1, .int .i64 a2] w fun e w' => ∃ v, e = .returned (.tuple #[v, .int .i64 (pfLC l a0 a1 a2)]) ∧ ownR w' w.heap.size 70 3 v (pfLR l a0 a1 a2).length (pfF (pfLR l a0 a1 a2)) ∧ Below w.heap.size w w' := by
  have CT : Hid (∀ u : World, Below w.heap.size w u → Calls Try.prog 43 #[.slice T l.length c] u fun e w' => e = .returned (.bool (pfTab l)) ∧ Below u.heap.size u w') := fun u hu => s_pfTab T c l u (h.below hu) (by omega)
  have CF0 : Hid (∀ u : World, Calls Try.prog 44 #[.int .i64 a1, .int .i64 0, .int .i64 32] u fun e w' => e = .returned (.bool (inB a1 0 32)) ∧ w' = u) := fun u => s_In a1 0 32 u
  have CF1 : Hid (∀ u : World, Calls Try.prog 45 #[.int .i64 a0] u fun e w' => e = .returned (.bool (addrB a0)) ∧ w' = u) := fun u => s_Addr a0 u
  have CF2 : Hid (∀ u : World, Calls Try.prog 46 #[.int .i64 a2] u fun e w' => e = .returned (.bool (actB a2)) ∧ w' = u) := fun u => s_Act a2 u
  have HCc : Hid ((pfLC l a0 a1 a2) = if !(pfTab l && inB a1 0 32 && addrB a0 && actB a2) then 1 else if there pfLt (⟨0, 0, 0⟩ : PfV) l ⟨top a0 a1, a1, a2⟩ then 0 else if l.length = 32 then 2 else 0) := pfLC_eq l a0 a1 a2
  have HR1 : Hid (¬ (pfLC l a0 a1 a2) = 0 → (pfLR l a0 a1 a2) = []) := fun h => pfLR_no l a0 a1 a2 h
  have HR0 : Hid ((pfLC l a0 a1 a2) = 0 → (pfLR l a0 a1 a2) = putL pfLt (⟨0, 0, 0⟩ : PfV) l ⟨top a0 a1, a1, a2⟩) := fun h => pfLR_yes l a0 a1 a2 h
  cases hf0 : pfTab l
  · rw [hf0] at CT
    have e0 : (pfLC l a0 a1 a2) = 1 := by rw [HCc.out, hf0]; simp
    have e1 : (pfLR l a0 a1 a2) = [] := HR1.out (by rw [e0]; decide)
    rw [e0, e1]
    clear HCc HR0 HR1
    go_enter Try.func16, Try.ntmps16
    go_wp2_with (first | (go_at_call 43; refine (CT.out _ (Below.refl _ _)).mono ?_; rintro e w1 ⟨rfl, hb1⟩) | (go_at_call 44; refine (CF0.out _).mono ?_; rintro e wz ⟨rfl, hz⟩; rw [hz]; clear hz wz) | (go_at_call 45; refine (CF1.out _).mono ?_; rintro e wz ⟨rfl, hz⟩; rw [hz]; clear hz wz) | (go_at_call 46; refine (CF2.out _).mono ?_; rintro e wz ⟨rfl, hz⟩; rw [hz]; clear hz wz))
    go_ret2
    exact ⟨_, rfl, ownR.nil _ _ _ _, hb1⟩
  · rw [hf0] at CT
    cases hf1 : inB a1 0 32
    · rw [hf1] at CF0
      have e0 : (pfLC l a0 a1 a2) = 1 := by rw [HCc.out, hf0, hf1]; simp
      have e1 : (pfLR l a0 a1 a2) = [] := HR1.out (by rw [e0]; decide)
      rw [e0, e1]
      clear HCc HR0 HR1
      go_enter Try.func16, Try.ntmps16
      go_wp2_with (first | (go_at_call 43; refine (CT.out _ (Below.refl _ _)).mono ?_; rintro e w1 ⟨rfl, hb1⟩) | (go_at_call 44; refine (CF0.out _).mono ?_; rintro e wz ⟨rfl, hz⟩; rw [hz]; clear hz wz) | (go_at_call 45; refine (CF1.out _).mono ?_; rintro e wz ⟨rfl, hz⟩; rw [hz]; clear hz wz) | (go_at_call 46; refine (CF2.out _).mono ?_; rintro e wz ⟨rfl, hz⟩; rw [hz]; clear hz wz))
      go_ret2
      exact ⟨_, rfl, ownR.nil _ _ _ _, hb1⟩
    · rw [hf1] at CF0
      cases hf2 : addrB a0
      · rw [hf2] at CF1
        have e0 : (pfLC l a0 a1 a2) = 1 := by rw [HCc.out, hf0, hf1, hf2]; simp
        have e1 : (pfLR l a0 a1 a2) = [] := HR1.out (by rw [e0]; decide)
        rw [e0, e1]
        clear HCc HR0 HR1
        go_enter Try.func16, Try.ntmps16
        go_wp2_with (first | (go_at_call 43; refine (CT.out _ (Below.refl _ _)).mono ?_; rintro e w1 ⟨rfl, hb1⟩) | (go_at_call 44; refine (CF0.out _).mono ?_; rintro e wz ⟨rfl, hz⟩; rw [hz]; clear hz wz) | (go_at_call 45; refine (CF1.out _).mono ?_; rintro e wz ⟨rfl, hz⟩; rw [hz]; clear hz wz) | (go_at_call 46; refine (CF2.out _).mono ?_; rintro e wz ⟨rfl, hz⟩; rw [hz]; clear hz wz))
        go_ret2
        exact ⟨_, rfl, ownR.nil _ _ _ _, hb1⟩
      · rw [hf2] at CF1
        cases hf3 : actB a2
        · rw [hf3] at CF2
          have e0 : (pfLC l a0 a1 a2) = 1 := by rw [HCc.out, hf0, hf1, hf2, hf3]; simp
          have e1 : (pfLR l a0 a1 a2) = [] := HR1.out (by rw [e0]; decide)
          rw [e0, e1]
          clear HCc HR0 HR1
          go_enter Try.func16, Try.ntmps16
          go_wp2_with (first | (go_at_call 43; refine (CT.out _ (Below.refl _ _)).mono ?_; rintro e w1 ⟨rfl, hb1⟩) | (go_at_call 44; refine (CF0.out _).mono ?_; rintro e wz ⟨rfl, hz⟩; rw [hz]; clear hz wz) | (go_at_call 45; refine (CF1.out _).mono ?_; rintro e wz ⟨rfl, hz⟩; rw [hz]; clear hz wz) | (go_at_call 46; refine (CF2.out _).mono ?_; rintro e wz ⟨rfl, hz⟩; rw [hz]; clear hz wz))
          go_ret2
          exact ⟨_, rfl, ownR.nil _ _ _ _, hb1⟩
        · rw [hf3] at CF2
          rw [hf0, hf1, hf2, hf3] at HCc
          have hpl := place_le (lt := pfLt) l ⟨top a0 a1, a1, a2⟩
          have h32 : l.length ≤ 32 := tblB_le hf0
          have HS := pfSorted hf0
          have HE2 : Hid ((if place pfLt l ⟨top a0 a1, a1, a2⟩ < l.length then putJ pfLt l ⟨top a0 a1, a1, a2⟩ l.length else putJ pfLt l ⟨top a0 a1, a1, a2⟩ l.length ++ [⟨top a0 a1, a1, a2⟩]) = putL pfLt (⟨0, 0, 0⟩ : PfV) l ⟨top a0 a1, a1, a2⟩) := putJ_end pfOrd l _ _ HS
          have HL2 : Hid ((putL pfLt (⟨0, 0, 0⟩ : PfV) l ⟨top a0 a1, a1, a2⟩).length = l.length + (if there pfLt (⟨0, 0, 0⟩ : PfV) l ⟨top a0 a1, a1, a2⟩ then 0 else 1)) := putL_length _ l _
          have HJ0 : Hid (∀ j, j < place pfLt l ⟨top a0 a1, a1, a2⟩ → pfLt (pfA l j) ⟨top a0 a1, a1, a2⟩ = true ∧ putJ pfLt l ⟨top a0 a1, a1, a2⟩ (j + 1) = putJ pfLt l ⟨top a0 a1, a1, a2⟩ j ++ [pfA l j]) := fun j hj => ⟨place_below l _ _ j hj, putJ_ahead l _ _ j hj⟩
          have HJ1 : Hid (place pfLt l ⟨top a0 a1, a1, a2⟩ < l.length → pfLt (pfA l (place pfLt l ⟨top a0 a1, a1, a2⟩)) ⟨top a0 a1, a1, a2⟩ = false ∧ putJ pfLt l ⟨top a0 a1, a1, a2⟩ (place pfLt l ⟨top a0 a1, a1, a2⟩ + 1) = putJ pfLt l ⟨top a0 a1, a1, a2⟩ (place pfLt l ⟨top a0 a1, a1, a2⟩) ++ [⟨top a0 a1, a1, a2⟩] ++ (if ne pfLt (pfA l (place pfLt l ⟨top a0 a1, a1, a2⟩)) ⟨top a0 a1, a1, a2⟩ then [pfA l (place pfLt l ⟨top a0 a1, a1, a2⟩)] else [])) := fun hj => ⟨place_at l _ _ hj, putJ_at l _ _ hj⟩
          have HJ2 : Hid (∀ j, place pfLt l ⟨top a0 a1, a1, a2⟩ < j → j < l.length → putJ pfLt l ⟨top a0 a1, a1, a2⟩ (j + 1) = putJ pfLt l ⟨top a0 a1, a1, a2⟩ j ++ (if ne pfLt (pfA l j) ⟨top a0 a1, a1, a2⟩ then [pfA l j] else [])) := fun j hj hj2 => putJ_behind l _ _ j hj hj2
          have HJl : Hid (∀ j, j ≤ l.length → (putJ pfLt l ⟨top a0 a1, a1, a2⟩ j).length ≤ j + 1) := fun j hj => putJ_len l _ j hj
          have HJz := putJ_0 (lt := pfLt) l ⟨top a0 a1, a1, a2⟩
          have HX : Hid ((there pfLt (⟨0, 0, 0⟩ : PfV) l ⟨top a0 a1, a1, a2⟩ = true ∨ ¬ l.length = 32 → (pfLC l a0 a1 a2) = 0 ∧ (pfLR l a0 a1 a2) = putL pfLt (⟨0, 0, 0⟩ : PfV) l ⟨top a0 a1, a1, a2⟩) ∧ (there pfLt (⟨0, 0, 0⟩ : PfV) l ⟨top a0 a1, a1, a2⟩ = false ∧ l.length = 32 → (pfLC l a0 a1 a2) = 2 ∧ (pfLR l a0 a1 a2) = [])) := by
            refine ⟨fun hh => ?_, fun hh => ?_⟩
            · have e0 : (pfLC l a0 a1 a2) = 0 := by
                rw [HCc.out]
                rcases hh with hh | hh
                · simp [hh]
                · simp [hh]
              exact ⟨e0, HR0.out e0⟩
            · have e0 : (pfLC l a0 a1 a2) = 2 := by rw [HCc.out, hh.1, hh.2]; rfl
              exact ⟨e0, HR1.out (by rw [e0]; decide)⟩
          clear HCc HR0 HR1 HS
          have CB : Hid (∀ (a b : PfV) (u : World), Calls Try.prog 48 #[.agg (pfL a), .agg (pfL b)] u fun e w' => e = .returned (.bool (pfLt a b)) ∧ Below u.heap.size u w') := fun a b u => s_pfAhead a b u
          generalize (pfLC l a0 a1 a2) = pc at *
          generalize (pfLR l a0 a1 a2) = pr at *
          obtain ⟨hm0, hm1⟩ := of_inB hf1
          obtain ⟨hA0, hA1⟩ := of_inB hf2
          have CMk : Hid (∀ u : World, Calls Try.prog 47 #[.int .i64 a1] u fun e w' => e = .returned (.int .i64 (maskOf a1)) ∧ w' = u) := fun u => s_Mask a1 u hm0 hm1
          have htop : bits .and .i64 a0 (maskOf a1) = top a0 a1 := and_mask a0 a1 hA0 hA1 hm0 hm1
          generalize maskOf a1 = mk at *
          generalize htp : top a0 a1 = tp at *
          generalize place pfLt l (⟨tp, a1, a2⟩ : PfV) = pl at *
          generalize putL pfLt (⟨0, 0, 0⟩ : PfV) l (⟨tp, a1, a2⟩ : PfV) = pu at *
          generalize there pfLt (⟨0, 0, 0⟩ : PfV) l (⟨tp, a1, a2⟩ : PfV) = th at *
          generalize putJ pfLt l (⟨tp, a1, a2⟩ : PfV) = PJ at *
          go_enter Try.func16, Try.ntmps16
          go_wp2_with (first | (go_at_call 43; refine (CT.out _ (Below.refl _ _)).mono ?_; rintro e w1 ⟨rfl, hb1⟩) | (go_at_call 44; refine (CF0.out _).mono ?_; rintro e wz ⟨rfl, hz⟩; rw [hz]; clear hz wz) | (go_at_call 45; refine (CF1.out _).mono ?_; rintro e wz ⟨rfl, hz⟩; rw [hz]; clear hz wz) | (go_at_call 46; refine (CF2.out _).mono ?_; rintro e wz ⟨rfl, hz⟩; rw [hz]; clear hz wz) | (go_at_call 47; refine (CMk.out _).mono ?_; rintro e wz ⟨rfl, hz⟩; rw [hz]; clear hz wz))
          have hW00 : Below w.heap.size w (w1.alloc (.cells #[.int .i64 tp, .int .i64 a1, .int .i64 a2] 70)) := hb1.alloc hb1.size _
          have hbz : w1.heap.size < (w1.alloc (.cells #[.int .i64 tp, .int .i64 a1, .int .i64 a2] 70)).heap.size := by simp
          have hx0 : (w1.alloc (.cells #[.int .i64 tp, .int .i64 a1, .int .i64 a2] 70)).cell? ⟨w1.heap.size, 0, none⟩ = some (.int .i64 tp) := by simp
          have hx1 : (w1.alloc (.cells #[.int .i64 tp, .int .i64 a1, .int .i64 a2] 70)).cell? ⟨w1.heap.size, 1, none⟩ = some (.int .i64 a1) := by simp
          have hx2 : (w1.alloc (.cells #[.int .i64 tp, .int .i64 a1, .int .i64 a2] 70)).cell? ⟨w1.heap.size, 2, none⟩ = some (.int .i64 a2) := by simp
          have HSZ : Hid ((w1.alloc (.cells #[.int .i64 tp, .int .i64 a1, .int .i64 a2] 70)).heap.size = w1.heap.size + 1) := by show _ = _; simp
          generalize hWq : w1.alloc (.cells #[.int .i64 tp, .int .i64 a1, .int .i64 a2] 70) = w0 at *
          clear hWq
          have hW0 : Below w0.heap.size w0 (w0.alloc (.cells #[] 70)) := (Below.refl _ w0).alloc (Nat.le_refl _) _
          have HO0 : Hid (ownR (w0.alloc (.cells #[] 70)) w0.heap.size 70 3 (.slice (some ⟨w1.heap.size + 1, 0, none⟩) 0 0) 0 []) := by
            have hm : ownR (w0.alloc (.cells #[] 70)) w0.heap.size 70 3 (.slice (some ⟨w0.heap.size, 0, none⟩) 0 0) 0 [] := World.ownsRow_made w0 #[] 0 (Nat.le_refl _) (by decide) rfl
            show ownR _ _ _ _ _ _ _
            rw [← HSZ.out]; exact hm
          generalize hWr : w0.alloc _ = w00 at *
          clear hWr
          go_loopw [13, 11, 12] (fun i v dn wr => ∃ j : Nat, j ≤ l.length ∧ i = .int .i64 (j : Int) ∧ dn = .bool (decide (pl < j)) ∧ ownR wr w0.heap.size 70 3 v (PJ j).length (pfF (PJ j)) ∧ Below w0.heap.size w0 wr) (fun i _ _ _ => ((l.length : Int) - intOf i).toNat)
          case atStart => exact ⟨0, by omega, rfl, by simp, by rw [HJz]; exact HO0.out, hW0⟩
          case round =>
            obtain ⟨j, hj, rfl, rfl, ho, hB⟩ := hrel
            have HBx : Hid (∀ u : World, Below w0.heap.size w0 u → u.cell? ⟨w1.heap.size, 0, none⟩ = some (.int .i64 tp) ∧ u.cell? ⟨w1.heap.size, 1, none⟩ = some (.int .i64 a1) ∧ u.cell? ⟨w1.heap.size, 2, none⟩ = some (.int .i64 a2)) := fun u hu => ⟨(hu.cell (p := ⟨w1.heap.size, 0, none⟩) hbz).trans hx0, (hu.cell (p := ⟨w1.heap.size, 1, none⟩) hbz).trans hx1, (hu.cell (p := ⟨w1.heap.size, 2, none⟩) hbz).trans hx2⟩
            by_cases hlt : j < l.length
            · have hj1 : (j : Int) < (l.length : Int) := by omega
              have hjl := HJl.out j hj
              rcases h with h | ⟨g, off, rfl, hg, hc⟩
              · have := pfF_len l; rw [h] at this; simp at this; omega
              · have hcw := pf_cells hc j hlt
                have HC3 : Hid (∀ u : World, Below w0.heap.size w0 u → u.cell? ⟨g, off + j * 3, none⟩ = some (.int .i64 (pfA l j).addr) ∧ u.cell? ⟨g, off + j * 3 + 1, none⟩ = some (.int .i64 (pfA l j).bits) ∧ u.cell? ⟨g, off + j * 3 + 2, none⟩ = some (.int .i64 (pfA l j).act)) := fun u hu => pf_below (hW00.trans (hu.mono hW00.size)) hg hcw
                clear hc hcw
                have CB1 : Bef 48 #[.agg (pfL (pfA l j)), .agg (pfL ⟨tp, a1, a2⟩)] (pfLt (pfA l j) (⟨tp, a1, a2⟩ : PfV)) := ⟨fun u => CB.out _ _ u⟩
                have CB2 : Bef 48 #[.agg (pfL ⟨tp, a1, a2⟩), .agg (pfL (pfA l j))] (pfLt (⟨tp, a1, a2⟩ : PfV) (pfA l j)) := ⟨fun u => CB.out _ _ u⟩
                rcases Nat.lt_trichotomy j pl with hjp | hjp | hjp
                · obtain ⟨q1, q3⟩ := HJ0.out j hjp
                  have Q3 : Hid (PJ (j + 1) = PJ j ++ [pfA l j]) := q3
                  have hd : decide (pl < j) = false := by simp; omega
                  have HD : Hid (decide (pl < j + 1) = false) := by show _ = _; simp; omega
                  rw [hd]
                  rw [q1] at CB1
                  clear q3 hd q1
                  generalize pfA l j = b at *
                  obtain ⟨x0, x1, x2⟩ := b
                  simp only [pfL] at *
                  go_wp2_with fail
                  have hne := BW.some wr
                  have s0 := fun u : BW wr => (HC3.out u.u (hB.trans (u.le.mono hB.size))).1
                  have b0 := fun u : BW wr => (HBx.out u.u (hB.trans (u.le.mono hB.size))).1
                  have s1 := fun u : BW wr => (HC3.out u.u (hB.trans (u.le.mono hB.size))).2.1
                  have b1 := fun u : BW wr => (HBx.out u.u (hB.trans (u.le.mono hB.size))).2.1
                  have s2 := fun u : BW wr => (HC3.out u.u (hB.trans (u.le.mono hB.size))).2.2
                  have b2 := fun u : BW wr => (HBx.out u.u (hB.trans (u.le.mono hB.size))).2.2
                  refine wp_region_below (by kernel_rfl) (by kernel_rfl) ?_
                  repeat (go_big_quiet_step (first | (go_at_call 48; exact Bef.into CB1)))
                  refine wpQuiet_nil ?_
                  intro _ hw'
                  obtain ⟨u, hw''⟩ := hw'
                  subst hw''
                  replace ho := ho.far u.le
                  replace hB := hB.trans (u.le.mono hB.size)
                  clear s0 b0 s1 b1 s2 b2 hne
                  generalize u.u = wa at *
                  clear u
                  go_wp2_with fail
                  have hne := BW.some wa
                  have s0 := fun u : BW wa => (HC3.out u.u (hB.trans (u.le.mono hB.size))).1
                  have b0 := fun u : BW wa => (HBx.out u.u (hB.trans (u.le.mono hB.size))).1
                  have s1 := fun u : BW wa => (HC3.out u.u (hB.trans (u.le.mono hB.size))).2.1
                  have b1 := fun u : BW wa => (HBx.out u.u (hB.trans (u.le.mono hB.size))).2.1
                  have s2 := fun u : BW wa => (HC3.out u.u (hB.trans (u.le.mono hB.size))).2.2
                  have b2 := fun u : BW wa => (HBx.out u.u (hB.trans (u.le.mono hB.size))).2.2
                  refine wp_region_below (by kernel_rfl) (by kernel_rfl) ?_
                  repeat (go_big_quiet_step (first | (go_at_call 48; exact Bef.into CB1)))
                  refine wpQuiet_nil ?_
                  intro _ hw'
                  obtain ⟨u, hw''⟩ := hw'
                  subst hw''
                  replace ho := ho.far u.le
                  replace hB := hB.trans (u.le.mono hB.size)
                  clear s0 b0 s1 b1 s2 b2 hne
                  generalize u.u = wb at *
                  clear u
                  have hcs := HC3.out _ hB
                  go_wp2_with (at_builtin; refine wpList_append_recs Try.infPrefix rfl (.tmp 75) (.tmp 80) rfl w0.heap.size _ _ _ rfl (ho.alloc _) _ 1 1 [x0, x1, x2] rfl (by simp) (by simp) (ints_new wb 70 [x0, x1, x2]) (by simp; omega) (by have := hB.size; simp; omega) ?_; intro v' w3 ho3 hb3)
                  go_roundw
                  case rel =>
                    refine ⟨j + 1, by omega, by go_num, by rw [HD.out], ?_, (hB.alloc hB.size _).trans hb3⟩
                    rw [Q3.out, pfF_app, List.length_append]; exact ho3
                  case measure => simp [intOf]; omega
                · subst hjp
                  obtain ⟨q1, q3⟩ := HJ1.out hlt
                  have hd : decide (j < j) = false := by simp
                  have HD : Hid (decide (j < j + 1) = true) := by show _ = _; simp
                  rw [hd]
                  rw [q1] at CB1
                  have hne1 : ne pfLt (pfA l j) (⟨tp, a1, a2⟩ : PfV) = pfLt (⟨tp, a1, a2⟩ : PfV) (pfA l j) := by unfold ne; rw [q1, Bool.false_or]
                  rw [hne1] at q3
                  have Q3 : Hid (PJ (j + 1) = PJ j ++ [(⟨tp, a1, a2⟩ : PfV)] ++ (if pfLt (⟨tp, a1, a2⟩ : PfV) (pfA l j) = true then [pfA l j] else [])) := q3
                  clear hd q3 hne1 q1
                  cases hq : pfLt (⟨tp, a1, a2⟩ : PfV) (pfA l j)
                  · rw [hq] at CB2 Q3
                    rw [if_neg (by decide), List.append_nil] at Q3
                    clear hq
                    generalize pfA l j = b at *
                    obtain ⟨x0, x1, x2⟩ := b
                    simp only [pfL] at *
                    go_wp2_with fail
                    have hne := BW.some wr
                    have s0 := fun u : BW wr => (HC3.out u.u (hB.trans (u.le.mono hB.size))).1
                    have b0 := fun u : BW wr => (HBx.out u.u (hB.trans (u.le.mono hB.size))).1
                    have s1 := fun u : BW wr => (HC3.out u.u (hB.trans (u.le.mono hB.size))).2.1
                    have b1 := fun u : BW wr => (HBx.out u.u (hB.trans (u.le.mono hB.size))).2.1
                    have s2 := fun u : BW wr => (HC3.out u.u (hB.trans (u.le.mono hB.size))).2.2
                    have b2 := fun u : BW wr => (HBx.out u.u (hB.trans (u.le.mono hB.size))).2.2
                    refine wp_region_below (by kernel_rfl) (by kernel_rfl) ?_
                    repeat (go_big_quiet_step (first | (go_at_call 48; exact Bef.into CB1)))
                    refine wpQuiet_nil ?_
                    intro _ hw'
                    obtain ⟨u, hw''⟩ := hw'
                    subst hw''
                    replace ho := ho.far u.le
                    replace hB := hB.trans (u.le.mono hB.size)
                    clear s0 b0 s1 b1 s2 b2 hne
                    generalize u.u = wa at *
                    clear u
                    have hbx := HBx.out _ hB
                    go_wp2_with (at_builtin; refine wpList_append_recs Try.infPrefix rfl (.tmp 57) (.tmp 59) rfl w0.heap.size _ _ _ rfl (ho.alloc _) _ 1 1 [tp, a1, a2] rfl (by simp) (by simp) (ints_new wa 70 [tp, a1, a2]) (by simp; omega) (by have := hB.size; simp; omega) ?_; intro v' w3 ho3 hb3)
                    clear hbx
                    replace hB := (hB.alloc hB.size _).trans hb3
                    replace ho := ho3
                    clear ho3 hb3
                    go_wp2_with fail
                    have hne := BW.some w3
                    have s0 := fun u : BW w3 => (HC3.out u.u (hB.trans (u.le.mono hB.size))).1
                    have b0 := fun u : BW w3 => (HBx.out u.u (hB.trans (u.le.mono hB.size))).1
                    have s1 := fun u : BW w3 => (HC3.out u.u (hB.trans (u.le.mono hB.size))).2.1
                    have b1 := fun u : BW w3 => (HBx.out u.u (hB.trans (u.le.mono hB.size))).2.1
                    have s2 := fun u : BW w3 => (HC3.out u.u (hB.trans (u.le.mono hB.size))).2.2
                    have b2 := fun u : BW w3 => (HBx.out u.u (hB.trans (u.le.mono hB.size))).2.2
                    refine wp_region_below (by kernel_rfl) (by kernel_rfl) ?_
                    repeat (go_big_quiet_step (first | (go_at_call 48; first | exact Bef.into CB1 | exact Bef.into CB2)))
                    refine wpQuiet_nil ?_
                    intro _ hw'
                    obtain ⟨u, hw''⟩ := hw'
                    subst hw''
                    replace ho := ho.far u.le
                    replace hB := hB.trans (u.le.mono hB.size)
                    clear s0 b0 s1 b1 s2 b2 hne
                    generalize u.u = wb at *
                    clear u
                    go_wp2
                    go_roundw
                    case rel =>
                      refine ⟨j + 1, by omega, by go_num, by rw [HD.out], ?_, hB⟩
                      rw [Q3.out, pfF_app, List.length_append]; exact ho
                    case measure => simp [intOf]; omega
                  · rw [hq] at CB2 Q3
                    rw [if_pos rfl] at Q3
                    clear hq
                    generalize pfA l j = b at *
                    obtain ⟨x0, x1, x2⟩ := b
                    simp only [pfL] at *
                    go_wp2_with fail
                    have hne := BW.some wr
                    have s0 := fun u : BW wr => (HC3.out u.u (hB.trans (u.le.mono hB.size))).1
                    have b0 := fun u : BW wr => (HBx.out u.u (hB.trans (u.le.mono hB.size))).1
                    have s1 := fun u : BW wr => (HC3.out u.u (hB.trans (u.le.mono hB.size))).2.1
                    have b1 := fun u : BW wr => (HBx.out u.u (hB.trans (u.le.mono hB.size))).2.1
                    have s2 := fun u : BW wr => (HC3.out u.u (hB.trans (u.le.mono hB.size))).2.2
                    have b2 := fun u : BW wr => (HBx.out u.u (hB.trans (u.le.mono hB.size))).2.2
                    refine wp_region_below (by kernel_rfl) (by kernel_rfl) ?_
                    repeat (go_big_quiet_step (first | (go_at_call 48; exact Bef.into CB1)))
                    refine wpQuiet_nil ?_
                    intro _ hw'
                    obtain ⟨u, hw''⟩ := hw'
                    subst hw''
                    replace ho := ho.far u.le
                    replace hB := hB.trans (u.le.mono hB.size)
                    clear s0 b0 s1 b1 s2 b2 hne
                    generalize u.u = wa at *
                    clear u
                    have hbx := HBx.out _ hB
                    go_wp2_with (at_builtin; refine wpList_append_recs Try.infPrefix rfl (.tmp 57) (.tmp 59) rfl w0.heap.size _ _ _ rfl (ho.alloc _) _ 1 1 [tp, a1, a2] rfl (by simp) (by simp) (ints_new wa 70 [tp, a1, a2]) (by simp; omega) (by have := hB.size; simp; omega) ?_; intro v' w3 ho3 hb3)
                    clear hbx
                    replace hB := (hB.alloc hB.size _).trans hb3
                    replace ho := ho3
                    clear ho3 hb3
                    go_wp2_with fail
                    have hne := BW.some w3
                    have s0 := fun u : BW w3 => (HC3.out u.u (hB.trans (u.le.mono hB.size))).1
                    have b0 := fun u : BW w3 => (HBx.out u.u (hB.trans (u.le.mono hB.size))).1
                    have s1 := fun u : BW w3 => (HC3.out u.u (hB.trans (u.le.mono hB.size))).2.1
                    have b1 := fun u : BW w3 => (HBx.out u.u (hB.trans (u.le.mono hB.size))).2.1
                    have s2 := fun u : BW w3 => (HC3.out u.u (hB.trans (u.le.mono hB.size))).2.2
                    have b2 := fun u : BW w3 => (HBx.out u.u (hB.trans (u.le.mono hB.size))).2.2
                    refine wp_region_below (by kernel_rfl) (by kernel_rfl) ?_
                    repeat (go_big_quiet_step (first | (go_at_call 48; first | exact Bef.into CB1 | exact Bef.into CB2)))
                    refine wpQuiet_nil ?_
                    intro _ hw'
                    obtain ⟨u, hw''⟩ := hw'
                    subst hw''
                    replace ho := ho.far u.le
                    replace hB := hB.trans (u.le.mono hB.size)
                    clear s0 b0 s1 b1 s2 b2 hne
                    generalize u.u = wb at *
                    clear u
                    have hcs := HC3.out _ hB
                    go_wp2_with (at_builtin; refine wpList_append_recs Try.infPrefix rfl (.tmp 75) (.tmp 80) rfl w0.heap.size _ _ _ rfl (ho.alloc _) _ 1 1 [x0, x1, x2] rfl (by simp) (by simp) (ints_new wb 70 [x0, x1, x2]) (by simp; omega) (by have := hB.size; simp; omega) ?_; intro v4 w4 ho4 hb4)
                    go_roundw
                    case rel =>
                      refine ⟨j + 1, by omega, by go_num, by rw [HD.out], ?_, (hB.alloc hB.size _).trans hb4⟩
                      rw [Q3.out, pfF_app, pfF_app, List.length_append, List.length_append]; exact ho4
                    case measure => simp [intOf]; omega
                · have q3 := HJ2.out j hjp hlt
                  have hd : decide (pl < j) = true := by simp; omega
                  have HD : Hid (decide (pl < j + 1) = true) := by show _ = _; simp; omega
                  rw [hd]
                  have Q3 : Hid (PJ (j + 1) = PJ j ++ (if (pfLt (pfA l j) (⟨tp, a1, a2⟩ : PfV) || pfLt (⟨tp, a1, a2⟩ : PfV) (pfA l j)) = true then [pfA l j] else [])) := q3
                  clear hd q3
                  cases hq1 : pfLt (pfA l j) (⟨tp, a1, a2⟩ : PfV)
                  · rw [hq1] at CB1 Q3
                    cases hq2 : pfLt (⟨tp, a1, a2⟩ : PfV) (pfA l j)
                    · rw [hq2] at CB2 Q3
                      rw [if_neg (by decide), List.append_nil] at Q3
                      clear hq1 hq2
                      generalize pfA l j = b at *
                      obtain ⟨x0, x1, x2⟩ := b
                      simp only [pfL] at *
                      go_wp2_with fail
                      have hne := BW.some wr
                      have s0 := fun u : BW wr => (HC3.out u.u (hB.trans (u.le.mono hB.size))).1
                      have b0 := fun u : BW wr => (HBx.out u.u (hB.trans (u.le.mono hB.size))).1
                      have s1 := fun u : BW wr => (HC3.out u.u (hB.trans (u.le.mono hB.size))).2.1
                      have b1 := fun u : BW wr => (HBx.out u.u (hB.trans (u.le.mono hB.size))).2.1
                      have s2 := fun u : BW wr => (HC3.out u.u (hB.trans (u.le.mono hB.size))).2.2
                      have b2 := fun u : BW wr => (HBx.out u.u (hB.trans (u.le.mono hB.size))).2.2
                      refine wp_region_below (by kernel_rfl) (by kernel_rfl) ?_
                      repeat (go_big_quiet_step (fail))
                      refine wpQuiet_nil ?_
                      intro _ hw'
                      obtain ⟨u, hw''⟩ := hw'
                      subst hw''
                      replace ho := ho.far u.le
                      replace hB := hB.trans (u.le.mono hB.size)
                      clear s0 b0 s1 b1 s2 b2 hne
                      generalize u.u = wa at *
                      clear u
                      go_wp2_with fail
                      have hne := BW.some wa
                      have s0 := fun u : BW wa => (HC3.out u.u (hB.trans (u.le.mono hB.size))).1
                      have b0 := fun u : BW wa => (HBx.out u.u (hB.trans (u.le.mono hB.size))).1
                      have s1 := fun u : BW wa => (HC3.out u.u (hB.trans (u.le.mono hB.size))).2.1
                      have b1 := fun u : BW wa => (HBx.out u.u (hB.trans (u.le.mono hB.size))).2.1
                      have s2 := fun u : BW wa => (HC3.out u.u (hB.trans (u.le.mono hB.size))).2.2
                      have b2 := fun u : BW wa => (HBx.out u.u (hB.trans (u.le.mono hB.size))).2.2
                      refine wp_region_below (by kernel_rfl) (by kernel_rfl) ?_
                      repeat (go_big_quiet_step (first | (go_at_call 48; first | exact Bef.into CB1 | exact Bef.into CB2)))
                      refine wpQuiet_nil ?_
                      intro _ hw'
                      obtain ⟨u, hw''⟩ := hw'
                      subst hw''
                      replace ho := ho.far u.le
                      replace hB := hB.trans (u.le.mono hB.size)
                      clear s0 b0 s1 b1 s2 b2 hne
                      generalize u.u = wb at *
                      clear u
                      go_wp2
                      go_roundw
                      case rel => exact ⟨j + 1, by omega, by go_num, by rw [HD.out], by rw [Q3.out]; exact ho, hB⟩
                      case measure => simp [intOf]; omega
                    · rw [hq2] at CB2 Q3
                      rw [if_pos (by decide)] at Q3
                      clear hq1 hq2
                      generalize pfA l j = b at *
                      obtain ⟨x0, x1, x2⟩ := b
                      simp only [pfL] at *
                      go_wp2_with fail
                      have hne := BW.some wr
                      have s0 := fun u : BW wr => (HC3.out u.u (hB.trans (u.le.mono hB.size))).1
                      have b0 := fun u : BW wr => (HBx.out u.u (hB.trans (u.le.mono hB.size))).1
                      have s1 := fun u : BW wr => (HC3.out u.u (hB.trans (u.le.mono hB.size))).2.1
                      have b1 := fun u : BW wr => (HBx.out u.u (hB.trans (u.le.mono hB.size))).2.1
                      have s2 := fun u : BW wr => (HC3.out u.u (hB.trans (u.le.mono hB.size))).2.2
                      have b2 := fun u : BW wr => (HBx.out u.u (hB.trans (u.le.mono hB.size))).2.2
                      refine wp_region_below (by kernel_rfl) (by kernel_rfl) ?_
                      repeat (go_big_quiet_step (fail))
                      refine wpQuiet_nil ?_
                      intro _ hw'
                      obtain ⟨u, hw''⟩ := hw'
                      subst hw''
                      replace ho := ho.far u.le
                      replace hB := hB.trans (u.le.mono hB.size)
                      clear s0 b0 s1 b1 s2 b2 hne
                      generalize u.u = wa at *
                      clear u
                      go_wp2_with fail
                      have hne := BW.some wa
                      have s0 := fun u : BW wa => (HC3.out u.u (hB.trans (u.le.mono hB.size))).1
                      have b0 := fun u : BW wa => (HBx.out u.u (hB.trans (u.le.mono hB.size))).1
                      have s1 := fun u : BW wa => (HC3.out u.u (hB.trans (u.le.mono hB.size))).2.1
                      have b1 := fun u : BW wa => (HBx.out u.u (hB.trans (u.le.mono hB.size))).2.1
                      have s2 := fun u : BW wa => (HC3.out u.u (hB.trans (u.le.mono hB.size))).2.2
                      have b2 := fun u : BW wa => (HBx.out u.u (hB.trans (u.le.mono hB.size))).2.2
                      refine wp_region_below (by kernel_rfl) (by kernel_rfl) ?_
                      repeat (go_big_quiet_step (first | (go_at_call 48; first | exact Bef.into CB1 | exact Bef.into CB2)))
                      refine wpQuiet_nil ?_
                      intro _ hw'
                      obtain ⟨u, hw''⟩ := hw'
                      subst hw''
                      replace ho := ho.far u.le
                      replace hB := hB.trans (u.le.mono hB.size)
                      clear s0 b0 s1 b1 s2 b2 hne
                      generalize u.u = wb at *
                      clear u
                      have hcs := HC3.out _ hB
                      go_wp2_with (at_builtin; refine wpList_append_recs Try.infPrefix rfl (.tmp 75) (.tmp 80) rfl w0.heap.size _ _ _ rfl (ho.alloc _) _ 1 1 [x0, x1, x2] rfl (by simp) (by simp) (ints_new wb 70 [x0, x1, x2]) (by simp; omega) (by have := hB.size; simp; omega) ?_; intro v' w3 ho3 hb3)
                      go_roundw
                      case rel =>
                        refine ⟨j + 1, by omega, by go_num, by rw [HD.out], ?_, (hB.alloc hB.size _).trans hb3⟩
                        rw [Q3.out, pfF_app, List.length_append]; exact ho3
                      case measure => simp [intOf]; omega
                  · rw [hq1] at CB1 Q3
                    rw [if_pos (by simp)] at Q3
                    clear hq1
                    generalize pfA l j = b at *
                    obtain ⟨x0, x1, x2⟩ := b
                    simp only [pfL] at *
                    go_wp2_with fail
                    have hne := BW.some wr
                    have s0 := fun u : BW wr => (HC3.out u.u (hB.trans (u.le.mono hB.size))).1
                    have b0 := fun u : BW wr => (HBx.out u.u (hB.trans (u.le.mono hB.size))).1
                    have s1 := fun u : BW wr => (HC3.out u.u (hB.trans (u.le.mono hB.size))).2.1
                    have b1 := fun u : BW wr => (HBx.out u.u (hB.trans (u.le.mono hB.size))).2.1
                    have s2 := fun u : BW wr => (HC3.out u.u (hB.trans (u.le.mono hB.size))).2.2
                    have b2 := fun u : BW wr => (HBx.out u.u (hB.trans (u.le.mono hB.size))).2.2
                    refine wp_region_below (by kernel_rfl) (by kernel_rfl) ?_
                    repeat (go_big_quiet_step (fail))
                    refine wpQuiet_nil ?_
                    intro _ hw'
                    obtain ⟨u, hw''⟩ := hw'
                    subst hw''
                    replace ho := ho.far u.le
                    replace hB := hB.trans (u.le.mono hB.size)
                    clear s0 b0 s1 b1 s2 b2 hne
                    generalize u.u = wa at *
                    clear u
                    go_wp2_with fail
                    have hne := BW.some wa
                    have s0 := fun u : BW wa => (HC3.out u.u (hB.trans (u.le.mono hB.size))).1
                    have b0 := fun u : BW wa => (HBx.out u.u (hB.trans (u.le.mono hB.size))).1
                    have s1 := fun u : BW wa => (HC3.out u.u (hB.trans (u.le.mono hB.size))).2.1
                    have b1 := fun u : BW wa => (HBx.out u.u (hB.trans (u.le.mono hB.size))).2.1
                    have s2 := fun u : BW wa => (HC3.out u.u (hB.trans (u.le.mono hB.size))).2.2
                    have b2 := fun u : BW wa => (HBx.out u.u (hB.trans (u.le.mono hB.size))).2.2
                    refine wp_region_below (by kernel_rfl) (by kernel_rfl) ?_
                    repeat (go_big_quiet_step (first | (go_at_call 48; exact Bef.into CB1)))
                    refine wpQuiet_nil ?_
                    intro _ hw'
                    obtain ⟨u, hw''⟩ := hw'
                    subst hw''
                    replace ho := ho.far u.le
                    replace hB := hB.trans (u.le.mono hB.size)
                    clear s0 b0 s1 b1 s2 b2 hne
                    generalize u.u = wb at *
                    clear u
                    have hcs := HC3.out _ hB
                    go_wp2_with (at_builtin; refine wpList_append_recs Try.infPrefix rfl (.tmp 75) (.tmp 80) rfl w0.heap.size _ _ _ rfl (ho.alloc _) _ 1 1 [x0, x1, x2] rfl (by simp) (by simp) (ints_new wb 70 [x0, x1, x2]) (by simp; omega) (by have := hB.size; simp; omega) ?_; intro v' w3 ho3 hb3)
                    go_roundw
                    case rel =>
                      refine ⟨j + 1, by omega, by go_num, by rw [HD.out], ?_, (hB.alloc hB.size _).trans hb3⟩
                      rw [Q3.out, pfF_app, List.length_append]; exact ho3
                    case measure => simp [intOf]; omega
            · have e : j = l.length := by omega
              subst e
              clear HJ0 HJ1 HJ2
              have hjl := HJl.out l.length (Nat.le_refl _)
              have HY : Hid ((¬ 32 < pu.length → pc = 0 ∧ pr = pu) ∧ (32 < pu.length → pc = 2 ∧ pr = [])) := by
                have hL := HL2.out
                refine ⟨fun hh => HX.out.1 ?_, fun hh => HX.out.2 ?_⟩
                · cases th
                  · right; simp at hL; omega
                  · exact .inl rfl
                · cases th
                  · simp at hL; exact ⟨rfl, by omega⟩
                  · simp at hL; omega
              clear HX HL2
              have hWW := hW00.size
              by_cases hpn : pl < l.length
              · have hd : decide (pl < l.length) = true := by simp; omega
                rw [hd]
                have he := HE2.out
                rw [if_pos hpn] at he
                rw [he] at ho
                clear he hd
                by_cases h33 : 32 < pu.length
                · obtain ⟨e0, e1⟩ := HY.out.2 h33
                  subst e0 e1
                  have h34 : (32 : Int) < (pu.length : Int) := by omega
                  obtain ⟨T3, c3, rfl⟩ := ho.form
                  go_wp2
                  go_ret2
                  exact ⟨_, rfl, ownR.nil _ _ _ _, hW00.trans (hB.mono hWW)⟩
                · obtain ⟨e0, e1⟩ := HY.out.1 h33
                  subst e0 e1
                  have h34 : ¬ (32 : Int) < (pr.length : Int) := by omega
                  obtain ⟨T3, c3, rfl⟩ := ho.form
                  go_wp2
                  go_ret2
                  exact ⟨_, rfl, ho.mono hWW, hW00.trans (hB.mono hWW)⟩
              · have hd : decide (pl < l.length) = false := by simp; omega
                rw [hd]
                have he := HE2.out
                rw [if_neg hpn] at he
                have HE3 : Hid (PJ l.length ++ [(⟨tp, a1, a2⟩ : PfV)] = pu) := he
                clear he hd
                have hbx := HBx.out _ hB
                by_cases h33 : 32 < pu.length
                · obtain ⟨e0, e1⟩ := HY.out.2 h33
                  subst e0 e1
                  have h34 : (32 : Int) < (pu.length : Int) := by omega
                  go_wp2_with (at_builtin; refine wpList_append_recs Try.infPrefix rfl (.tmp 84) (.tmp 86) rfl w0.heap.size _ _ _ rfl (ho.alloc _) _ 1 1 [tp, a1, a2] rfl (by simp) (by simp) (ints_new wr 70 [tp, a1, a2]) (by simp; omega) (by have := hB.size; simp; omega) ?_; intro v' w3 ho3 hb3; have hB3 := (hB.alloc hB.size _).trans hb3; have ho4 : ownR w3 w0.heap.size 70 3 v' (PJ l.length ++ [(⟨tp, a1, a2⟩ : PfV)]).length (pfF (PJ l.length ++ [(⟨tp, a1, a2⟩ : PfV)])) := (by rw [pfF_app, List.length_append]; exact ho3); rw [HE3.out] at ho4; obtain ⟨T3, c3, rfl⟩ := ho4.form; clear ho3 hb3)
                  go_ret2
                  exact ⟨_, rfl, ownR.nil _ _ _ _, hW00.trans (hB3.mono hWW)⟩
                · obtain ⟨e0, e1⟩ := HY.out.1 h33
                  subst e0 e1
                  have h34 : ¬ (32 : Int) < (pr.length : Int) := by omega
                  go_wp2_with (at_builtin; refine wpList_append_recs Try.infPrefix rfl (.tmp 84) (.tmp 86) rfl w0.heap.size _ _ _ rfl (ho.alloc _) _ 1 1 [tp, a1, a2] rfl (by simp) (by simp) (ints_new wr 70 [tp, a1, a2]) (by simp; omega) (by have := hB.size; simp; omega) ?_; intro v' w3 ho3 hb3; have hB3 := (hB.alloc hB.size _).trans hb3; have ho4 : ownR w3 w0.heap.size 70 3 v' (PJ l.length ++ [(⟨tp, a1, a2⟩ : PfV)]).length (pfF (PJ l.length ++ [(⟨tp, a1, a2⟩ : PfV)])) := (by rw [pfF_app, List.length_append]; exact ho3); rw [HE3.out] at ho4; obtain ⟨T3, c3, rfl⟩ := ho4.form; clear ho3 hb3)
                  go_ret2
                  exact ⟨_, rfl, ho4.mono hWW, hW00.trans (hB3.mono hWW)⟩
end Go.Proofs.Ytgcingjcneafpaa
