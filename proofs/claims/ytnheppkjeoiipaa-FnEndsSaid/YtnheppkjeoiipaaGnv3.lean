/-
  The bytes of a Geneve, by the program: an option, the head, the whole.
-/
import Derived.Test.YtnheppkjeoiipaaGnv2
namespace Go.Proofs.Ytnheppkjeoiipaa
open Go.RowKit Go.PlainAid
set_option maxRecDepth 100000 in
set_option maxHeartbeats 1600000 in
theorem i_optBytes (a : OpV) (w : World) (h : opOk a = true) : Calls Try.prog 123 #[.agg (opL a)] w fun e w' => e = .returned (.string (str (opText a))) ∧ Below w.heap.size w w' := by
  have hF := opOk_facts h
  have B : Hid (∀ (k n : Int) (u : World), 1 ≤ k → k ≤ 7 → 0 ≤ n → n < 256 ^ k.toNat → n ≤ 9223372036854775807 → Calls Try.prog 88 #[.int .i64 n, .int .i64 k] u fun e w' => e = .returned (.string (str (be k.toNat n))) ∧ Below u.heap.size u w') := fun k n u a b c d e => i_Bytes k n u a b c d e
  have HS : Hid (str (be 2 a.cls) ++ str (be 1 a.typ) ++ str (be 1 ((a.data.size : Int) / 4)) ++ a.data = str (opText a)) := by
    show _ = _
    rw [str_app, str_app, str_app_bl]; rfl
  obtain ⟨c0, c1, t0, t1, d1, d4⟩ := hF
  generalize opText a = tx at *
  obtain ⟨cls, typ, data⟩ := a
  simp only [opL] at *
  have hA : Bx (w.alloc (.cells #[.int .i64 cls, .int .i64 typ, .string data] 33)) w.heap.size [.int .i64 cls, .int .i64 typ, .string data] := Bx.new w _ _
  have hB : Below w.heap.size w (w.alloc (.cells #[.int .i64 cls, .int .i64 typ, .string data] 33)) := (Below.refl _ w).alloc (Nat.le_refl _) _
  have hq : Int.tdiv (data.size : Int) 4 = (data.size : Int) / 4 := Int.tdiv_eq_ediv_of_nonneg (by omega)
  have b1 : ∀ n, (be 1 n).length = 1 := fun n => be_length 1 n
  have b2 : ∀ n, (be 2 n).length = 2 := fun n => be_length 2 n
  go_enter Try.func123, Try.ntmps123
  go_wp2_with fail
  generalize hW : w.alloc _ = w1 at *
  clear hW
  have hne := BW.some w1
  have a0 := fun u : BW w1 => (hA.ofBW u).2 0 _ rfl
  have a1 := fun u : BW w1 => (hA.ofBW u).2 1 _ rfl
  have a2 := fun u : BW w1 => (hA.ofBW u).2 2 _ rfl
  refine wp_region_below (by kernel_rfl) (by kernel_rfl) ?_
  repeat (go_big_quiet_step (first | (go_at_call 88; exact Calls.into (B.out _ _ _ (by decide) (by decide) (by omega) (by simp only [Int.reduceToNat, Int.reducePow]; omega) (by omega)))))
  refine wpQuiet_nil ?_
  intro _ hw'
  obtain ⟨u, hw''⟩ := hw'
  subst hw''
  try rw [hq]
  rw [show (Int.toNat 2) = 2 from rfl, show (Int.toNat 1) = 1 from rfl] at *
  rw [HS.out]
  clear a0 a1 a2 hne HS
  go_wp2
  go_ret
  exact ⟨rfl, hB.trans (u.le.mono hB.size)⟩
set_option maxRecDepth 100000 in
theorem i_gvRight (net : Int) (T : Option Addr) (c : Nat) (l : List OpV) (data : ByteArray) (w : World) (h : CellsAt w T (opF l)) (hn : l.length + opTot l ≤ 1048576) : Calls Try.prog 121 #[.agg #[.int .i64 net, .slice T l.length c, .string data]] w fun e w' => e = .returned (.bool (netB net && opsB l)) ∧ Below w.heap.size w w' := by
  have CN : Hid (∀ u : World, Calls Try.prog 74 #[.int .i64 net] u fun e w' => e = .returned (.bool (netB net)) ∧ w' = u) := fun u => i_isNet net u
  have CA : Hid (∀ u : World, Below w.heap.size w u → Calls Try.prog 75 #[.slice T l.length c] u fun e w' => e = .returned (.bool (opsB l)) ∧ Below u.heap.size u w') := fun u hu => i_areOpts _ c l u (h.below hu) hn
  have hB := (Below.refl w.heap.size w).alloc (Nat.le_refl _) (.cells #[.int .i64 net, .slice T l.length c, .string data] 54)
  cases hk : netB net
  · rw [hk] at CN
    go_enter Try.func121, Try.ntmps121
    go_wp2_with (go_at_call 74; refine (CN.out _).mono ?_; rintro e wz ⟨rfl, hz⟩; rw [hz]; clear hz wz)
    go_ret
    exact ⟨rfl, hB⟩
  · rw [hk] at CN
    generalize opsB l = ob at *
    go_enter Try.func121, Try.ntmps121
    go_wp2_with (first | (go_at_call 74; refine (CN.out _).mono ?_; rintro e wz ⟨rfl, hz⟩; rw [hz]; clear hz wz) | (go_at_call 75; refine (CA.out _ hB).mono ?_; rintro e w1 ⟨rfl, hb1⟩))
    go_ret
    exact ⟨by first | rfl | exact ret_bool (by simp), hB.trans (hb1.mono hB.size)⟩
set_option maxRecDepth 100000 in
theorem i_gvCar (net : Int) (T : Option Addr) (n c : Nat) (data : ByteArray) (w : World) : Calls Try.prog 119 #[.agg #[.int .i64 net, .slice T n c, .string data]] w fun e w' => e = .returned (.string data) ∧ Below w.heap.size w w' := by
  go_enter Try.func119, Try.ntmps119
  go_wp2
  go_ret
  exact ⟨rfl, (Below.refl _ w).alloc (Nat.le_refl _) _⟩
theorem gvH_len (net : Int) (l : List OpV) : (gvH net l).length = 8 := by simp only [gvH, List.length_append, be_length]
theorem opsB_facts {l : List OpV} (h : opsB l = true) : opsOk l = true ∧ opSum l ≤ 252 := by
  unfold opsB at h; rw [Bool.and_eq_true, decide_eq_true_iff] at h; exact h
set_option maxRecDepth 100000 in
set_option maxHeartbeats 3200000 in
theorem i_gvHead (net : Int) (T : Option Addr) (c : Nat) (l : List OpV) (data : ByteArray) (w : World) (h : CellsAt w T (opF l)) (h0 : 0 ≤ net) (h1 : net ≤ 16777215) (hb : opsB l = true) : Calls Try.prog 120 #[.agg #[.int .i64 net, .slice T l.length c, .string data]] w fun e w' => e = .returned (.string (str (gvH net l ++ opsText l))) ∧ Below w.heap.size w w' := by
  obtain ⟨hok, hsum⟩ := opsB_facts hb
  have hse := opSum_eq l
  have HOK : Hid (∀ i, i < l.length → opOk (opA l i) = true) := fun i hi => opsOk_at hok i hi
  have B : Hid (∀ (k n : Int) (u : World), 1 ≤ k → k ≤ 7 → 0 ≤ n → n < 256 ^ k.toNat → n ≤ 9223372036854775807 → Calls Try.prog 88 #[.int .i64 n, .int .i64 k] u fun e w' => e = .returned (.string (str (be k.toNat n))) ∧ Below u.heap.size u w') := fun k n u a b c d e => i_Bytes k n u a b c d e
  have CC : Hid (∀ u : World, Below w.heap.size w u → Calls Try.prog 122 #[.slice T l.length c] u fun e w' => e = .returned (.bool (opsCr l)) ∧ Below u.heap.size u w') := fun u hu => i_hasCritical T c l u (h.below hu) (by omega)
  have CS : Hid (∀ u : World, Below w.heap.size w u → Calls Try.prog 84 #[.slice T l.length c] u fun e w' => e = .returned (.int .i64 (opSum l : Int)) ∧ Below u.heap.size u w') := fun u hu => i_optsSize T c l u (h.below hu) (by omega)
  have HH : Hid (∀ m : Int, m = gvFl l → str (be 1 ((opSum l : Int) / 4)) ++ str (be 1 m) ++ str (be 2 25944) ++ str (be 3 net) ++ str (be 1 0) = str (gvH net l)) := fun m hm => by
    subst hm; rw [str_app, str_app, str_app, str_app]; rfl
  have HF : Hid (gvFl l = if opsCr l then 64 else 0) := rfl
  have hq : Int.tdiv (opSum l : Int) 4 = (opSum l : Int) / 4 := Int.tdiv_eq_ediv_of_nonneg (by omega)
  have hA : Bx (w.alloc (.cells #[.int .i64 net, .slice T l.length c, .string data] 54)) w.heap.size [.int .i64 net, .slice T l.length c, .string data] := Bx.new w _ _
  have hB : Below w.heap.size w (w.alloc (.cells #[.int .i64 net, .slice T l.length c, .string data] 54)) := (Below.refl _ w).alloc (Nat.le_refl _) _
  have b1 : ∀ n, (be 1 n).length = 1 := fun n => be_length 1 n
  have b2 : ∀ n, (be 2 n).length = 2 := fun n => be_length 2 n
  have b3 : ∀ n, (be 3 n).length = 3 := fun n => be_length 3 n
  have hgl := gvH_len net l
  generalize gvH net l = gh at *
  generalize gvFl l = fl at *
  have HSm : Hid (∀ j, opSum (l.take j) ≤ opSum l) := fun j => opSum_le l j
  have hll : l.length ≤ 252 := by omega
  clear hse
  generalize opSum l = os at *
  generalize opsCr l = cr at *
  clear hok hb
  go_enter Try.func120, Try.ntmps120
  go_wp2_with fail
  generalize hW : w.alloc _ = w0 at *
  clear hW
  go_at_call 122
  refine (CC.out _ hB).mono ?_
  rintro e w1 ⟨rfl, hX⟩
  replace hA := hA.below hX
  replace hB := hB.trans (hX.mono hB.size)
  clear hX CC
  have CS2 : Hid (∀ u : BW w1, Calls Try.prog 84 #[.slice T l.length c] u.u fun e w' => e = .returned (.int .i64 (os : Int)) ∧ Below u.u.heap.size u.u w') := fun u => CS.out _ (hB.trans (u.le.mono hB.size))
  clear CS
  cases cr
  all_goals
    simp only [Bool.false_eq_true, if_false, if_true] at HF
    go_wp2_with fail
    have hne := BW.some w1
    have a0 := fun u : BW w1 => (hA.ofBW u).2 0 _ rfl
    have a1 := fun u : BW w1 => (hA.ofBW u).2 1 _ rfl
    refine wp_region_below (by kernel_rfl) (by kernel_rfl) ?_
    repeat (go_big_quiet_step (first | (go_at_call 84; exact Calls.into (CS2.out _)) | (go_at_call 88; exact Calls.into (B.out _ _ _ (by decide) (by decide) (by omega) (by simp only [Int.reduceToNat, Int.reducePow]; omega) (by omega)))))
    refine wpQuiet_nil ?_
    intro _ hw'
    obtain ⟨u, hw''⟩ := hw'
    subst hw''
    try rw [hq]
    rw [HH.out _ HF.out.symm]
    simp only [Int.reduceToNat]
    clear a0 a1 hne HH HF CS2 B
    have hA2 := hA.ofBW u
    have hB2 := hB.trans (u.le.mono hB.size)
    have a1 := hA2.2 1 _ rfl
    generalize hU : u.u = U at *
    clear hU u hA hB
    go_wp2
    go_loopw [29, 4] (fun i v wr => ∃ j : Nat, j ≤ l.length ∧ i = .int .i64 (j : Int) ∧ v = .string (str (gh ++ opsText (l.take j))) ∧ Below w.heap.size w wr) (fun i _ _ => ((l.length : Int) - intOf i).toNat)
    case atStart => exact ⟨0, by omega, rfl, by simp [opsText], hB2⟩
    case round =>
      obtain ⟨j, hj, rfl, rfl, hB⟩ := hrel
      have hms : (gh ++ opsText (l.take j)).length ≤ 8 + os := by
        rw [List.length_append, opsText_len, hgl]
        have := HSm.out j
        omega
      by_cases hlt : j < l.length
      · rcases h.below hB with h | ⟨g, off, rfl, hg, hc⟩
        · have := opF_len l; rw [h] at this; simp at this; omega
        · have hcs := op_cells hc j hlt
          clear hc
          have hj1 : (j : Int) < (l.length : Int) := by omega
          have CL : Hid (∀ u : World, Calls Try.prog 123 #[.agg (opL (opA l j))] u fun e w' => e = .returned (.string (str (opText (opA l j)))) ∧ Below u.heap.size u w') := fun u => i_optBytes _ u (HOK.out j hlt)
          have hd := (opOk_facts (HOK.out j hlt)).d1
          have hol := opText_len (opA l j)
          have HS : Hid (gh ++ opsText (l.take (j + 1)) = gh ++ opsText (l.take j) ++ opText (opA l j)) := by show _ = _; rw [opsText_take l j hlt, List.append_assoc]
          have hB1 := hB.alloc hB.size (.cells (opL (opA l j)) 33)
          generalize gh ++ opsText (l.take j) = ga at *
          generalize opText (opA l j) = ot at *
          generalize opA l j = a at *
          obtain ⟨cls, typ, dat⟩ := a
          simp only [opL] at *
          go_wp2_with fail
          go_at_call 123
          refine (CL.out _).mono ?_
          rintro e w2 ⟨rfl, hX⟩
          replace hB1 := hB1.trans (hX.mono hB1.size)
          clear hX
          go_wp2
          go_roundw
          case rel => exact ⟨j + 1, by omega, by go_num, by rw [HS.out, ← str_app], hB1⟩
          case measure => simp [intOf]; omega
      · have e : j = l.length := by omega
        subst e
        rw [List.take_length]
        go_wp2
        go_ret
        exact ⟨rfl, hB⟩
end Go.Proofs.Ytnheppkjeoiipaa
