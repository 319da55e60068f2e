/-
  What is read as a Geneve, by the program.
-/
import Derived.Test.YtnheppkjeoiipaaGnv8
namespace Go.Proofs.Ytnheppkjeoiipaa
open Go.RowKit Go.PlainAid
theorem beq_strv {T s : ByteArray} (h : T = s) : (T.toList == s.toList) = true := by rw [h]; simp
theorem opsUn_yes {l : List OpV} (j : Nat) (hj : j < l.length) (h : opUn (opA l j) = true) : opsUn l = true := by
  rw [opA_eq l j hj] at h
  unfold opsUn; rw [List.any_eq_true]; exact ⟨_, List.getElem_mem hj, h⟩
theorem opsUn_no {l : List OpV} (h : ∀ i, i < l.length → opUn (opA l i) = false) : opsUn l = false := by
  cases hq : opsUn l
  · rfl
  · unfold opsUn at hq; rw [List.any_eq_true] at hq
    obtain ⟨a, ha, h2⟩ := hq
    obtain ⟨i, hi, rfl⟩ := List.getElem_of_mem ha
    have := h i hi
    rw [opA_eq l i hi, h2] at this; cases this
set_option maxRecDepth 100000 in
set_option maxHeartbeats 1600000 in
theorem i_hasUnknown (T : Option Addr) (c : Nat) (l : List OpV) (w : World) (h : CellsAt w T (opF l)) (hn : l.length ≤ 1048576) :
    Calls Try.prog 65 #[.slice T l.length c] w fun e w' => e = .returned (.bool (opsUn l)) ∧ Below w.heap.size w w' := by
  have HYes : Hid (∀ j, j < l.length → opUn (opA l j) = true → opsUn l = true) := fun j hj h => opsUn_yes j hj h
  have HNo : Hid ((∀ i, i < l.length → opUn (opA l i) = false) → opsUn l = false) := fun h => opsUn_no h
  generalize opsUn l = cr at *
  go_enter Try.func65, Try.ntmps65
  go_wp2
  go_step3
  go_wp2
  go_step3
  go_wp2
  go_loopw [8, 3] (fun i q wr => ∃ j : Nat, j ≤ l.length ∧ i = .int .i64 (j : Int) ∧ q = .bool false ∧ Hid (∀ i, i < j → opUn (opA l i) = false) ∧ Below w.heap.size w wr) (fun i _ _ => ((l.length : Int) - intOf i).toNat)
  case atStart => exact ⟨0, by omega, rfl, rfl, fun i hi => by omega, Below.refl _ _⟩
  case round =>
    obtain ⟨j, hj, rfl, rfl, HP, hb⟩ := hrel
    by_cases hlt : j < l.length
    · rcases h.below hb with h | ⟨g, off, rfl, hg, hc⟩
      · have := opF_len l; rw [h] at this; simp at this; omega
      · have hcs := op_cells hc j hlt
        clear hc
        have hj1 : (j : Int) < (l.length : Int) := by omega
        have CO : Hid (∀ u : World, Calls Try.prog 80 #[.agg (opL (opA l j))] u fun e w' => e = .returned (.bool (opCr (opA l j))) ∧ Below u.heap.size u w') := fun u => i_isCritical _ u
        have hB1 := hb.alloc hb.size (.cells (opL (opA l j)) 33)
        have hA := Bx.new wr (opL (opA l j)) 33
        have HOK : Hid (opUn (opA l j) = true → cr = true) := HYes.out j hlt
        have HNX : Hid (opUn (opA l j) = false → ∀ i, i < j + 1 → opUn (opA l i) = false) := fun h1 i hi => by
          by_cases e : i = j
          · rw [e]; exact h1
          · exact HP.out i (by omega)
        have HU : Hid (opUn (opA l j) = (opCr (opA l j) && decide ((opA l j).cls ≠ 259))) := rfl
        generalize opUn (opA l j) = un at *
        generalize opCr (opA l j) = ok at *
        generalize opA l j = a at *
        obtain ⟨cls, typ, data⟩ := a
        simp only [opL] at *
        go_wp2_with fail
        generalize hW : wr.alloc _ = w1 at *
        clear hW
        generalize wr.heap.size = gg at *
        go_at_call 80
        refine (CO.out _).mono ?_
        rintro e w2 ⟨rfl, hX⟩
        replace hB1 := hB1.trans (hX.mono hB1.size)
        replace hA := hA.below hX
        clear hX
        have a0 := hA.2 0 _ rfl
        cases ok
        · have HU2 : Hid (un = false) := HU.out
          clear HU
          go_wp2
          go_roundw
          case rel => exact ⟨j + 1, by omega, by go_num, rfl, HNX.out HU2.out, hB1⟩
          case measure => simp [intOf]; omega
        · by_cases hc9 : cls = 259
          · have HU2 : Hid (un = false) := by show _ = _; rw [HU.out, hc9]; rfl
            have e9 : (cls != 259) = false := by simp [hc9]
            clear HU hc9
            go_wp2
            go_roundw
            case rel => exact ⟨j + 1, by omega, by go_num, rfl, HNX.out HU2.out, hB1⟩
            case measure => simp [intOf]; omega
          · have HU2 : Hid (un = true) := by show _ = _; rw [HU.out, decide_eq_true hc9]; rfl
            have e9 : (cls != 259) = true := by simp [hc9]
            clear HU hc9
            go_wp2
            try rw [Exit.noGoto_ret]
            go_ret
            exact ⟨ret_bool (HOK.out HU2.out).symm, hB1⟩
    · have e : j = l.length := by omega
      subst e
      go_wp2
      try rw [Exit.noGoto_ret]
      go_ret
      exact ⟨ret_bool (HNo.out HP.out).symm, hb⟩
set_option maxRecDepth 100000 in
set_option maxHeartbeats 1600000 in
theorem i_faultGv (net : Int) (T : Option Addr) (c : Nat) (l : List OpV) (data s : ByteArray) (w : World) (h : CellsAt w T (opF l)) (hn : l.length + opTot l ≤ 1048576) (hd : data.size ≤ 1099511627776) : Calls Try.prog 37 #[.iface 54 (.agg #[.int .i64 net, .slice T l.length c, .string data]), .string s] w fun e w' => e = .returned (.int .i64 (rgF net l data s)) ∧ Below w.heap.size w w' := by
  have C : Hid (∀ u : World, u = w → Calls Try.prog 30 #[.iface 54 (.agg #[.int .i64 net, .slice T l.length c, .string data])] u fun e w' => e = .returned (.string (str (gvText net l data))) ∧ Below u.heap.size u w') := by rintro u rfl; exact i_tunGv net T c l data u h hn hd
  have CU : Hid (∀ u : World, Below w.heap.size w u → Calls Try.prog 65 #[.slice T l.length c] u fun e w' => e = .returned (.bool (opsUn l)) ∧ Below u.heap.size u w') := fun u hu => i_hasUnknown T c l u (h.below hu) (by omega)
  have HF : Hid (rgF net l data s = if str (gvText net l data) = s then (if opsUn l then 3 else 0) else 2) := rfl
  generalize rgF net l data s = fv at *
  generalize str (gvText net l data) = tx at *
  generalize opsUn l = un at *
  by_cases hq : tx = s
  · have hb := beq_strv hq
    rw [if_pos hq] at HF
    clear hq
    have t1 := fun w1 => as_ge_ge (.agg #[.int .i64 net, .slice T l.length c, .string data]) w1
    go_enter Try.func37, Try.ntmps37
    go_wp2_with fail
    go_at_call 30
    refine (C.out _ rfl).mono ?_
    rintro e w1 ⟨rfl, hB⟩
    replace t1 := t1 w1
    have hB1 := hB.alloc hB.size (.cells #[.int .i64 net, .slice T l.length c, .string data] 54)
    go_wp2_with fail
    go_at_call 65
    refine (CU.out _ hB1).mono ?_
    rintro e w2 ⟨rfl, hX⟩
    replace hB1 := hB1.trans (hX.mono hB1.size)
    clear hX t1
    cases un
    all_goals
      simp only [Bool.false_eq_true, if_false, if_true] at HF
      go_wp2
      go_ret
      exact ⟨ret_i64 HF.out.symm, hB1⟩
  · have hb := str_ne hq
    rw [if_neg hq] at HF
    clear hq
    go_enter Try.func37, Try.ntmps37
    go_wp2_with fail
    go_at_call 30
    refine (C.out _ rfl).mono ?_
    rintro e w1 ⟨rfl, hb1⟩
    go_wp2
    go_ret
    exact ⟨ret_i64 HF.out.symm, hb1⟩
end Go.Proofs.Ytnheppkjeoiipaa
