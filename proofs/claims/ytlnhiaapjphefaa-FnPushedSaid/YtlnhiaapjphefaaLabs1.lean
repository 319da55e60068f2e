/-
  Labels: what may be, 1 .. 4 of them; pushed and popped.
-/
import Derived.Test.YtlnhiaapjphefaaIps1
import Derived.Test.YtlnhiaapjphefaaTabLabel
namespace Go.Proofs.Ytlnhiaapjphefaa
open Go.RowKit Go.PlainAid
def lbOk (a : LbV) : Bool := inB a.label 0 1048575 && inB a.tc 0 7 && byteB a.ttl
def lbAll (l : List LbV) : Bool := (List.range l.length).all fun i => lbOk (lbA l i)
def lbsB (l : List LbV) : Bool := inB (l.length : Int) 1 4 && lbAll l
theorem lbAll_yes {l : List LbV} (h : ∀ i, i < l.length → lbOk (lbA l i) = true) : lbAll l = true := by
  unfold lbAll; rw [List.all_eq_true]; intro i hi; exact h i (List.mem_range.1 hi)
theorem lbAll_no {l : List LbV} {i : Nat} (hi : i < l.length) (h : lbOk (lbA l i) = false) : lbAll l = false := by
  unfold lbAll; rw [List.all_eq_false]; exact ⟨i, List.mem_range.2 hi, by simp [h]⟩
theorem lbAll_at {l : List LbV} (h : lbAll l = true) {i : Nat} (hi : i < l.length) : lbOk (lbA l i) = true := by
  unfold lbAll at h; rw [List.all_eq_true] at h; exact h i (List.mem_range.2 hi)
theorem lbsB_len {l : List LbV} (h : lbsB l = true) : 1 ≤ l.length ∧ l.length ≤ 4 := by
  unfold lbsB at h; rw [Bool.and_eq_true] at h
  obtain ⟨a, b⟩ := of_inB h.1
  omega
theorem lbAll_cons (a : LbV) (l : List LbV) : lbAll (a :: l) = (lbOk a && lbAll l) := by
  rw [Bool.eq_iff_iff, Bool.and_eq_true]
  constructor
  · intro h
    refine ⟨lbAll_at h (i := 0) (by simp), lbAll_yes fun i hi => ?_⟩
    exact lbAll_at h (i := i + 1) (by simp; omega)
  · rintro ⟨h1, h2⟩
    refine lbAll_yes fun i hi => ?_
    cases i with
    | zero => exact h1
    | succ i => exact lbAll_at h2 (by simp at hi; omega)
/-- a label's own block -/
def Bxl (W : World) (b : Nat) (a : LbV) : Prop := b < W.heap.size ∧ W.cell? ⟨b, 0, none⟩ = some (.int .i64 a.label) ∧ W.cell? ⟨b, 1, none⟩ = some (.int .i64 a.tc) ∧ W.cell? ⟨b, 2, none⟩ = some (.int .i64 a.ttl)
theorem Bxl.new (W : World) (a : LbV) : Bxl (W.alloc (.cells (lbL a) 55)) W.heap.size a := ⟨by simp, by simp [lbL], by simp [lbL], by simp [lbL]⟩
theorem Bxl.below {W W' : World} {b : Nat} {a : LbV} (h : Bxl W b a) (hb : Below W.heap.size W W') : Bxl W' b a :=
  ⟨Nat.lt_of_lt_of_le h.1 hb.size, (hb.cell (p := ⟨b, 0, none⟩) h.1).trans h.2.1, (hb.cell (p := ⟨b, 1, none⟩) h.1).trans h.2.2.1, (hb.cell (p := ⟨b, 2, none⟩) h.1).trans h.2.2.2⟩
theorem Bxl.drew {W : World} {b : Nat} {a : LbV} (h : Bxl W b a) : Bxl W.drew b a := h
theorem Bxl.grown {W W' : World} {b : Nat} {a : LbV} {r : Option Nat} (h : Bxl W b a) (hb : W.grownBy W' r) (hr : ∀ k, r = some k → k ≠ b) : Bxl W' b a := by
  have e := hb.block b h.1 (fun x => hr b x.symm rfl)
  refine ⟨Nat.lt_of_lt_of_le h.1 hb.size, ?_, ?_, ?_⟩
  · exact (World.cell?_of_block e).trans h.2.1
  · exact (World.cell?_of_block e).trans h.2.2.1
  · exact (World.cell?_of_block e).trans h.2.2.2
set_option maxRecDepth 100000 in
set_option maxHeartbeats 1600000 in
theorem i_isLabel (a : LbV) (w : World) : Calls Try.prog 73 #[.agg (lbL a)] w fun e w' => e = .returned (.bool (lbOk a)) ∧ Below w.heap.size w w' := by
  have HK : Hid (lbOk a = (decide (0 ≤ a.label ∧ a.label ≤ 1048575) && decide (0 ≤ a.tc ∧ a.tc ≤ 7) && byteB a.ttl)) := by
    show _ = _
    unfold lbOk inB; simp only [Bool.decide_and]
  obtain ⟨x, y, z⟩ := a
  simp only [lbL] at *
  have CY : Hid (∀ u : World, Calls Try.prog 89 #[.int .i64 z] u fun e w' => e = .returned (.bool (byteB z)) ∧ w' = u) := fun u => i_isByte z u
  generalize lbOk _ = t at *
  generalize byteB z = bz at *
  by_cases h0 : 0 ≤ x
  · by_cases h1 : x < 1048576
    · by_cases h2 : 0 ≤ y
      · by_cases h3 : y ≤ 7
        · go_enter Try.func73, Try.ntmps73
          go_wp2_with (go_at_call 89; refine (CY.out _).mono ?_; rintro e wz ⟨rfl, hz⟩; rw [hz]; clear hz wz)
          go_ret
          exact ⟨ret_bool (by rw [HK.out, decide_eq_true (show 0 ≤ x ∧ x ≤ 1048575 by omega), decide_eq_true (show 0 ≤ y ∧ y ≤ 7 by omega)]; rfl), (Below.refl _ w).alloc (Nat.le_refl _) _⟩
        · go_enter Try.func73, Try.ntmps73
          go_wp2
          go_ret
          exact ⟨ret_bool (by rw [HK.out, decide_eq_false (show ¬ (0 ≤ y ∧ y ≤ 7) by omega)]; simp), (Below.refl _ w).alloc (Nat.le_refl _) _⟩
      · go_enter Try.func73, Try.ntmps73
        go_wp2
        go_ret
        exact ⟨ret_bool (by rw [HK.out, decide_eq_false (show ¬ (0 ≤ y ∧ y ≤ 7) by omega)]; simp), (Below.refl _ w).alloc (Nat.le_refl _) _⟩
    · go_enter Try.func73, Try.ntmps73
      go_wp2
      go_ret
      exact ⟨ret_bool (by rw [HK.out, decide_eq_false (show ¬ (0 ≤ x ∧ x ≤ 1048575) by omega)]; simp), (Below.refl _ w).alloc (Nat.le_refl _) _⟩
  · go_enter Try.func73, Try.ntmps73
    go_wp2
    go_ret
    exact ⟨ret_bool (by rw [HK.out, decide_eq_false (show ¬ (0 ≤ x ∧ x ≤ 1048575) by omega)]; simp), (Below.refl _ w).alloc (Nat.le_refl _) _⟩
set_option maxRecDepth 100000 in
set_option maxHeartbeats 1600000 in
theorem s_Label (a : LbV) (w : World) : Calls Try.prog 69 #[.agg (lbL a)] w fun e w' => e = .returned (.bool (lbOk a)) ∧ Below w.heap.size w w' := by
  have HK : Hid (lbOk a = (inB a.label 0 1048575 && inB a.tc 0 7 && byteB a.ttl)) := rfl
  obtain ⟨x, y, z⟩ := a
  simp only [lbL] at *
  have CY : Hid (∀ u : World, Calls Try.prog 81 #[.int .i64 z] u fun e w' => e = .returned (.bool (byteB z)) ∧ w' = u) := fun u => s_Byte z u
  generalize lbOk _ = t at *
  generalize byteB z = bz at *
  cases h0 : inB x 0 1048575
  · rw [h0] at HK
    go_enter Try.func69, Try.ntmps69
    go_wp2_with (go_at_call 68; refine (s_In _ _ _ _).mono ?_; rintro e wz ⟨rfl, hz⟩; rw [hz, h0]; clear hz wz)
    go_ret
    exact ⟨ret_bool (by rw [HK.out]; rfl), (Below.refl _ w).alloc (Nat.le_refl _) _⟩
  · rw [h0] at HK
    cases h1 : inB y 0 7
    · rw [h1] at HK
      go_enter Try.func69, Try.ntmps69
      go_wp2_with (go_at_call 68; refine (s_In _ _ _ _).mono ?_; rintro e wz ⟨rfl, hz⟩; rw [hz]; clear hz wz; first | rw [h0] | rw [h1])
      go_ret
      exact ⟨ret_bool (by rw [HK.out]; rfl), (Below.refl _ w).alloc (Nat.le_refl _) _⟩
    · rw [h1] at HK
      go_enter Try.func69, Try.ntmps69
      go_wp2_with (first | (go_at_call 68; refine (s_In _ _ _ _).mono ?_; rintro e wz ⟨rfl, hz⟩; rw [hz]; clear hz wz; first | rw [h0] | rw [h1]) | (go_at_call 81; refine (CY.out _).mono ?_; rintro e wz ⟨rfl, hz⟩; rw [hz]; clear hz wz))
      go_ret
      exact ⟨ret_bool (by rw [HK.out]; rfl), (Below.refl _ w).alloc (Nat.le_refl _) _⟩
set_option maxRecDepth 100000 in
set_option maxHeartbeats 1600000 in
theorem i_areLabels (T : Option Addr) (c : Nat) (l : List LbV) (w : World) (h : IntsAt w T (lbF l)) (hl : l.length ≤ 1099511627776) :
    Calls Try.prog 72 #[.slice T l.length c] w fun e w' => e = .returned (.bool (lbsB l)) ∧ Below w.heap.size w w' := by
  have CR : Hid (∀ (a : LbV) (u : World), Calls Try.prog 73 #[.agg (lbL a)] u fun e w' => e = .returned (.bool (lbOk a)) ∧ Below u.heap.size u w') := fun a u => i_isLabel a u
  have HY : Hid (1 ≤ l.length → l.length ≤ 4 → (∀ i, i < l.length → lbOk (lbA l i) = true) → lbsB l = true) := fun h1 h2 h => by
    unfold lbsB; rw [lbAll_yes h, inB_true (by omega) (by omega)]; rfl
  have HN : Hid (∀ i, i < l.length → lbOk (lbA l i) = false → lbsB l = false) := fun i hi h => by unfold lbsB; rw [lbAll_no hi h]; simp
  have HL : Hid (¬ (1 ≤ l.length ∧ l.length ≤ 4) → lbsB l = false) := fun hh => by
    cases hb : lbsB l
    · rfl
    · exact absurd (lbsB_len hb) hh
  generalize lbsB l = t at *
  by_cases h1 : l.length < 1
  · have h1i : (l.length : Int) < 1 := by omega
    have ht := HL.out (by omega)
    clear h1
    go_enter Try.func72, Try.ntmps72
    go_wp2
    go_ret
    exact ⟨ret_bool ht.symm, Below.refl _ _⟩
  · by_cases h4 : 4 < l.length
    · have ht := HL.out (by omega)
      go_enter Try.func72, Try.ntmps72
      go_wp2
      go_ret
      exact ⟨ret_bool ht.symm, Below.refl _ _⟩
    · go_enter Try.func72, Try.ntmps72
      go_wp2
      go_loopw [15] (fun i wr => ∃ j : Nat, j ≤ l.length ∧ i = .int .i64 (j : Int) ∧ Hid (∀ i, i < j → lbOk (lbA l i) = true) ∧ Below w.heap.size w wr) (fun i _ => ((l.length : Int) - intOf i).toNat)
      case atStart => exact ⟨0, by omega, rfl, fun i hi => by omega, Below.refl _ _⟩
      case round =>
        obtain ⟨j, hj, rfl, hst, hb⟩ := hrel
        by_cases hlt : j < l.length
        · rcases h.below hb with h | ⟨g, off, rfl, hg, hc⟩
          · have := lbF_len l; rw [h] at this; simp at this; omega
          · have hj1 : (j : Int) < (l.length : Int) := by omega
            have hcs := lb_cells hc j hlt
            clear hc
            have HB : Hid (lbOk (lbA l j) = false → t = false) := fun hh => HN.out j hlt hh
            have HR : Hid (lbOk (lbA l j) = true → ∀ i, i < j + 1 → lbOk (lbA l i) = true) := fun h1 i hi => by
              by_cases e : i = j
              · rw [e]; exact h1
              · exact hst.out i (by omega)
            have CL : Hid (∀ u : World, Calls Try.prog 73 #[.agg (lbL (lbA l j))] u fun e w' => e = .returned (.bool (lbOk (lbA l j))) ∧ Below u.heap.size u w') := fun u => CR.out _ u
            cases h0 : lbOk (lbA l j)
            · have ht := HB.out h0
              rw [h0] at CL
              clear HB HR h0
              go_wp2_with fail
              go_at_call 73
              refine (CL.out _).mono ?_
              rintro e w2 ⟨rfl, hb2⟩
              go_wp2
              go_ret
              have hb3 := hb.alloc hb.size (.cells #[.int .i64 (lbA l j).label, .int .i64 (lbA l j).tc, .int .i64 (lbA l j).ttl] 55)
              exact ⟨ret_bool ht.symm, by first | exact hb3.trans (hb2.mono hb3.size) | skip⟩
            · have HH : Hid (∀ i, i < j + 1 → lbOk (lbA l i) = true) := HR.out h0
              rw [h0] at CL
              clear HB HR h0
              go_wp2_with fail
              go_at_call 73
              refine (CL.out _).mono ?_
              rintro e w2 ⟨rfl, hb2⟩
              go_wp2
              go_roundw
              case rel => exact ⟨j + 1, by omega, by go_num, HH, by have hb3 := hb.alloc hb.size (.cells #[.int .i64 (lbA l j).label, .int .i64 (lbA l j).tc, .int .i64 (lbA l j).ttl] 55); exact hb3.trans (hb2.mono hb3.size)⟩
              case measure => simp [intOf]; omega
        · have ht := HY.out (by omega) (by omega) fun i hi => hst.out i (by omega)
          go_wp2
          go_ret
          exact ⟨ret_bool ht.symm, hb⟩
set_option maxRecDepth 100000 in
set_option maxHeartbeats 1600000 in
theorem s_Labels (T : Option Addr) (c : Nat) (l : List LbV) (w : World) (h : IntsAt w T (lbF l)) (hl : l.length ≤ 1099511627776) :
    Calls Try.prog 74 #[.slice T l.length c] w fun e w' => e = .returned (.bool (lbsB l)) ∧ Below w.heap.size w w' := by
  have CR : Hid (∀ (a : LbV) (u : World), Calls Try.prog 69 #[.agg (lbL a)] u fun e w' => e = .returned (.bool (lbOk a)) ∧ Below u.heap.size u w') := fun a u => s_Label a u
  have CI : Hid (∀ u : World, Calls Try.prog 68 #[.int .i64 (l.length : Int), .int .i64 1, .int .i64 4] u fun e w' => e = .returned (.bool (inB (l.length : Int) 1 4)) ∧ w' = u) := fun u => s_In _ 1 4 u
  have HY : Hid ((∀ i, i < l.length → lbOk (lbA l i) = true) → lbsB l = inB (l.length : Int) 1 4) := fun h => by
    unfold lbsB; rw [lbAll_yes h]; simp
  have HN : Hid (∀ i, i < l.length → lbOk (lbA l i) = false → lbsB l = false) := fun i hi h => by unfold lbsB; rw [lbAll_no hi h]; simp
  generalize lbsB l = t at *
  go_enter Try.func74, Try.ntmps74
  go_wp2
  go_loopw [3] (fun i wr => ∃ j : Nat, j ≤ l.length ∧ i = .int .i64 (j : Int) ∧ Hid (∀ i, i < j → lbOk (lbA l i) = true) ∧ Below w.heap.size w wr) (fun i _ => ((l.length : Int) - intOf i).toNat)
  case atStart => exact ⟨0, by omega, rfl, fun i hi => by omega, Below.refl _ _⟩
  case round =>
    obtain ⟨j, hj, rfl, hst, hb⟩ := hrel
    by_cases hlt : j < l.length
    · rcases h.below hb with h | ⟨g, off, rfl, hg, hc⟩
      · have := lbF_len l; rw [h] at this; simp at this; omega
      · have hj1 : (j : Int) < (l.length : Int) := by omega
        have hcs := lb_cells hc j hlt
        clear hc
        have HB : Hid (lbOk (lbA l j) = false → t = false) := fun hh => HN.out j hlt hh
        have HR : Hid (lbOk (lbA l j) = true → ∀ i, i < j + 1 → lbOk (lbA l i) = true) := fun h1 i hi => by
          by_cases e : i = j
          · rw [e]; exact h1
          · exact hst.out i (by omega)
        have CL : Hid (∀ u : World, Calls Try.prog 69 #[.agg (lbL (lbA l j))] u fun e w' => e = .returned (.bool (lbOk (lbA l j))) ∧ Below u.heap.size u w') := fun u => CR.out _ u
        cases h0 : lbOk (lbA l j)
        · have ht := HB.out h0
          rw [h0] at CL
          clear HB HR h0
          go_wp2_with fail
          go_at_call 69
          refine (CL.out _).mono ?_
          rintro e w2 ⟨rfl, hb2⟩
          go_wp2
          go_ret
          exact ⟨ret_bool ht.symm, hb.trans (hb2.mono hb.size)⟩
        · have HH : Hid (∀ i, i < j + 1 → lbOk (lbA l i) = true) := HR.out h0
          rw [h0] at CL
          clear HB HR h0
          go_wp2_with fail
          go_at_call 69
          refine (CL.out _).mono ?_
          rintro e w2 ⟨rfl, hb2⟩
          go_wp2
          go_roundw
          case rel => exact ⟨j + 1, by omega, by go_num, HH, hb.trans (hb2.mono hb.size)⟩
          case measure => simp [intOf]; omega
    · have ht := HY.out fun i hi => hst.out i (by omega)
      go_wp2_with (go_at_call 68; refine (CI.out _).mono ?_; rintro e wz ⟨rfl, hz⟩; rw [hz]; clear hz wz)
      go_ret
      exact ⟨ret_bool ht.symm, hb⟩
end Go.Proofs.Ytlnhiaapjphefaa
