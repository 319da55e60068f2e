/-
  What is read as a Geneve, by the model.
-/
import Derived.Test.YtnheppkjeoiipaaGnva
import Derived.Test.YtnheppkjeoiipaaGnv5
import Derived.Deep.RegionWith
import Derived.Deep.Cut
import Derived.Deep.CutRange
namespace Go.Proofs.Ytnheppkjeoiipaa
open Go.RowKit Go.PlainAid
theorem bt_num (s : ByteArray) (k : Nat) (h : k < s.size) : numAt s k 1 = bt s k := by
  rw [(okN_true (s := s) (at_ := k) (k := 1) ⟨by omega, by omega, by omega, by omega⟩).2]
  simp only [Int.toNat_natCast, Int.reduceToNat]
  have := num_take_succ s k 0 (by omega)
  simp only [Nat.add_zero, List.take_zero] at this
  rw [show (0 : Nat) + 1 = 1 from rfl] at this
  rw [this]; simp [num]
theorem bt_opN (s : ByteArray) (x : Nat) (h : x + 4 ≤ s.size) : 4 * bt s (x + 3) = (opN s x : Int) := by
  have := bt_num s (x + 3) (by omega)
  rw [← this, ← opN_eq]
  congr 2
theorem byte0v (s : ByteArray) (h : 0 < s.size) : (((s[0]'h).toNat : Nat) : Int) = numAt s 0 1 := by
  have := bt_num s 0 h
  rw [show ((0 : Nat) : Int) = 0 from rfl] at this
  rw [this, get_bt s 0 h]
theorem s_NumV (s : ByteArray) (x k : Int) (u : World) (hs : s.size ≤ 1099511627776) (h0 : 0 ≤ x) (h1 : 1 ≤ k) (h2 : k ≤ 7) (h3 : x + k ≤ s.size) : Calls Try.prog 38 #[.string s, .int .i64 x, .int .i64 k] u fun e w' => e = .returned (.int .i64 (numAt s x k)) ∧ w' = u := by
  have := s_At s x k u (by unfold maxLen; omega) h0 (by omega) h2 h3
  rw [← (okN_true (s := s) (at_ := x) (k := k) ⟨h1, h2, h0, h3⟩).2] at this; exact this
theorem opsUn_app (A : List OpV) (a : OpV) : opsUn (A ++ [a]) = (opsUn A || opUn a) := by unfold opsUn; simp
set_option maxRecDepth 100000 in
set_option maxHeartbeats 1600000 in
theorem s_RGVshort (s : ByteArray) (w : World) (hs : s.size ≤ 1048576) (h : s.size < rgE s) :
    Calls Try.prog 12 #[.string s] w fun e w' => ∃ v, e = .returned (.tuple #[.int .i64 (rgN s), v, .string (rgT s), .int .i64 (rgC s)]) ∧ ownV w' w.heap.size 33 3 v (rgR s).length (opF (rgR s)) ∧ Below w.heap.size w w' := by
  have ZZ : Hid (rgN s = 0 ∧ rgR s = [] ∧ rgT s = ⟨#[]⟩ ∧ rgC s = 1) := rg_no (by unfold rgC; rw [if_neg (by omega)]) (by decide)
  have he := rgE_eq s
  have n1 := num1_bd s 0
  by_cases h8 : s.size < 8
  · have h8i : (s.size : Int) < 8 := by omega
    go_enter Try.func12, Try.ntmps12
    go_wp2
    refine bodyPost_ret (v := .tuple #[.int .i64 0, .slice none 0 0, .string ⟨#[]⟩, .int .i64 1]) ?_ rfl ⟨.slice none 0 0, by rw [ZZ.out.1, ZZ.out.2.2.1, ZZ.out.2.2.2], by rw [ZZ.out.2.1]; exact ownV.nil _ _ _ _, Below.refl _ _⟩
    simp [results, Try.results12, go_sem]
  · have h8i : decide ((s.size : Int) < 8) = false := by simp; omega
    have hi0 : 0 < s.size := by omega
    have eB := byte0v s hi0
    have hlt : (s.size : Int) < 8 + 4 * numAt s 0 1 := by omega
    clear he
    generalize numAt s 0 1 = n0 at *
    go_enter Try.func12, Try.ntmps12
    go_wp2
    refine bodyPost_ret (v := .tuple #[.int .i64 0, .slice none 0 0, .string ⟨#[]⟩, .int .i64 1]) ?_ rfl ⟨.slice none 0 0, by rw [ZZ.out.1, ZZ.out.2.2.1, ZZ.out.2.2.2], by rw [ZZ.out.2.1]; exact ownV.nil _ _ _ _, Below.refl _ _⟩
    simp [results, Try.results12, go_sem]
theorem rgE_mod (s : ByteArray) : rgE s % 4 = 0 := by unfold rgE; omega
theorem opN_mod (s : ByteArray) (x : Nat) : opN s x % 4 = 0 := by unfold opN; omega
set_option maxRecDepth 100000 in
set_option maxHeartbeats 6400000 in
theorem s_RGVlong (s : ByteArray) (w : World) (hs : s.size ≤ 1048576) (h : rgE s ≤ s.size) :
    Calls Try.prog 12 #[.string s] w fun e w' => ∃ v, e = .returned (.tuple #[.int .i64 (rgN s), v, .string (rgT s), .int .i64 (rgC s)]) ∧ ownV w' w.heap.size 33 3 v (rgR s).length (opF (rgR s)) ∧ Below w.heap.size w w' := by
  have he := rgE_eq s
  have hem := rgE_mod s
  have hbd := rgE_bd s
  have n1 := num1_bd s 0
  have hi0 : 0 < s.size := by omega
  have eB := byte0v s hi0
  have CA : Hid (∀ (x k : Int) (u : World), 0 ≤ x → 1 ≤ k → k ≤ 7 → x + k ≤ s.size → Calls Try.prog 38 #[.string s, .int .i64 x, .int .i64 k] u fun e w' => e = .returned (.int .i64 (numAt s x k)) ∧ w' = u) := fun x k u h0 h1 h2 h3 => s_NumV s x k u (by omega) h0 h1 h2 h3
  have h8i : decide ((s.size : Int) < 8) = false := by simp; omega
  have hlt : decide ((s.size : Int) < 8 + 4 * numAt s 0 1) = false := by simp; omega
  have hlt2 : decide (s.size < rgE s) = false := by simp; omega
  have hlt3 : ¬ s.size < rgE s := by omega
  have HE : Hid ((rgE s : Int) = 8 + 4 * numAt s 0 1) := he
  have hO0 : ownV (w.alloc (.cells #[] 33)) w.heap.size 33 3 (.slice (some ⟨w.heap.size, 0, none⟩) 0 0) 0 [] := World.ownsRow_made w #[] 0 (Nat.le_refl _) (by decide) rfl
  have hB0 : Below w.heap.size w (w.alloc (.cells #[] 33)) := (Below.refl _ w).alloc (Nat.le_refl _) _
  have hend : 8 + 4 * numAt s 0 1 = (rgE s : Int) := he.symm
  clear he HE
  go_enter Try.func12, Try.ntmps12
  go_wp2
  generalize hW : w.alloc _ = w0 at *
  clear hW
  go_loopw [9, 7, 8] (fun a v q wr => ∃ (A : List OpV) (x : Nat), a = .int .i64 (x : Int) ∧ q = .bool (opsUn A) ∧ 8 ≤ x ∧ x ≤ rgE s ∧ x % 4 = 0 ∧ 4 * A.length ≤ x ∧ ownV wr w.heap.size 33 3 v A.length (opF A) ∧ Below w.heap.size w wr ∧ Hid ((gL s (rgE s) 8).1 = A ++ (gL s (rgE s) x).1 ∧ (gL s (rgE s) 8).2 = (gL s (rgE s) x).2)) (fun a _ _ _ => ((rgE s : Int) - intOf a).toNat)
  case atStart => exact ⟨[], 8, rfl, rfl, by omega, by omega, by decide, by simp, hO0, hB0, ⟨rfl, rfl⟩⟩
  case round =>
    obtain ⟨A, x, rfl, rfl, hx8, hxE, hxm, hcn, hO, hB, HA⟩ := hrel
    obtain ⟨T, c, rfl⟩ := hO.form
    by_cases hx4 : x + 4 ≤ rgE s
    · have hx4i : (x : Int) + 4 ≤ (rgE s : Int) := by omega
      have hbt := get_bt s
      have hbo := bt_opN s x (by omega)
      have hno := opN_le s x
      have hb0 := bt_nonneg s (x + 3)
      have hb1 := bt_le s (x + 3)
      have hi3 : (x : Int) + 3 < (s.size : Int) := by omega
      by_cases hok : x + 4 + opN s x ≤ rgE s
      · have hgt : decide ((rgE s : Int) < (x : Int) + 4 + (opN s x : Int)) = false := by simp; omega
        have hi2 : (x : Int) + 2 < (s.size : Int) := by omega
        have hsl : (x : Int) + 4 + (opN s x : Int) ≤ (s.size : Int) := by omega
        have ws2 : IntKind.i64.wrap ((x : Int) + 2) = (x : Int) + 2 := wraps_i64 _ (by omega) (by omega)
        have ws4 : IntKind.i64.wrap ((x : Int) + 4) = (x : Int) + 4 := wraps_i64 _ (by omega) (by omega)
        have ws5 : IntKind.i64.wrap ((x : Int) + 4 + (opN s x : Int)) = (x : Int) + 4 + (opN s x : Int) := wraps_i64 _ (by omega) (by omega)
        have wsb : IntKind.i64.wrap (bt s (x + 2)) = numAt s ((x : Int) + 2) 1 := by
          have q0 := bt_nonneg s (x + 2)
          have q1 := bt_le s (x + 2)
          rw [wraps_i64 _ (by omega) (by omega), ← bt_num s (x + 2) (by omega)]; rfl
        have p2 : 0 ≤ (x : Int) + 2 := by omega
        have p4 : 0 ≤ (x : Int) + 4 := by omega
        have p5 : (x : Int) + 4 ≤ (x : Int) + 4 + (opN s x : Int) := by omega
        have p6 : 0 ≤ (x : Int) + 4 + (opN s x : Int) := by omega
        have t2 : ((x : Int) + 2).toNat = x + 2 := by omega
        have t4 : ((x : Int) + 4).toNat = x + 4 := by omega
        have t5 : ((x : Int) + 4 + (opN s x : Int)).toNat = x + 4 + opN s x := by omega
        go_upto_region 11 with fail
        go_cut [11] from 32 to 83 (fun p wx => p = .pointer (some ⟨wr.heap.size, 0, none⟩) ∧ wx = (wr.alloc (.cells #[.int .i64 (numAt s x 2), .int .i64 (numAt s ((x : Int) + 2) 1), .string (s.extract (x + 4) (x + 4 + opN s x))] 33)).drew)
        case first =>
          go_region_with (go_at_call 38; refine (CA.out _ _ _ (by omega) (by decide) (by decide) (by omega)).mono ?_; rintro e wz ⟨rfl, hz⟩; rw [hz]; clear hz wz)
          all_goals (try go_wp2_with fail)
          all_goals go_meet
          all_goals exact ⟨rfl, by first | rfl | simp only [wsb]⟩
        case rest =>
          obtain ⟨rfl, rfl⟩ := hcut
          have hG : Bx (wr.alloc (.cells #[.int .i64 (numAt s x 2), .int .i64 (numAt s ((x : Int) + 2) 1), .string (s.extract (x + 4) (x + 4 + opN s x))] 33)).drew wr.heap.size [.int .i64 (numAt s x 2), .int .i64 (numAt s ((x : Int) + 2) 1), .string (s.extract (x + 4) (x + 4 + opN s x))] := Bx.new wr _ _
          have hO2 : ownV (wr.alloc (.cells #[.int .i64 (numAt s x 2), .int .i64 (numAt s ((x : Int) + 2) 1), .string (s.extract (x + 4) (x + 4 + opN s x))] 33)).drew w.heap.size 33 3 (.slice T A.length c) A.length (opF A) := hO.alloc _
          have hB2 : Below w.heap.size w (wr.alloc (.cells #[.int .i64 (numAt s x 2), .int .i64 (numAt s ((x : Int) + 2) 1), .string (s.extract (x + 4) (x + 4 + opN s x))] 33)).drew := (hB.alloc hB.size _).drew
          generalize (wr.alloc (.cells #[.int .i64 (numAt s x 2), .int .i64 (numAt s ((x : Int) + 2) 1), .string (s.extract (x + 4) (x + 4 + opN s x))] 33)).drew = w2 at *
          clear ws2 ws4 p2 p4 p5 p6 t2 t4 t5 hi2 hsl hi3 hbt hO hB wsb
          generalize wr.heap.size = g at *
          have HF : Hid (opF (A ++ [opGet s x]) = opF A ++ [.int .i64 (numAt s x 2), .int .i64 (numAt s ((x : Int) + 2) 1), .string (s.extract (x + 4) (x + 4 + opN s x))]) := by show _ = _; rw [opF_app]; simp [opF, flatV, opGet, opL]
          have hone := oneOp (opGet s x)
          have HU : Hid (opsUn (A ++ [opGet s x]) = (opsUn A || opUn (opGet s x))) := opsUn_app A _
          have HV : Hid (opUn (opGet s x) = (decide (128 ≤ numAt s ((x : Int) + 2) 1) && decide (numAt s x 2 ≠ 259))) := rfl
          have HN : Hid ((gL s (rgE s) 8).1 = (A ++ [opGet s x]) ++ (gL s (rgE s) (x + 4 + opN s x)).1 ∧ (gL s (rgE s) 8).2 = (gL s (rgE s) (x + 4 + opN s x)).2) := by
            obtain ⟨q1, q2⟩ := HA.out
            have hst := gL_step (s := s) (E := rgE s) (x := x) (by unfold stepOk; rw [decide_eq_true hok])
            rw [hst] at q1 q2
            exact ⟨by rw [q1]; simp, q2⟩
          have hone2 : ∀ u ∈ ([.int .i64 (numAt s x 2), .int .i64 (numAt s ((x : Int) + 2) 1), .string (s.extract (x + 4) (x + 4 + opN s x))] : List Value), u.oneCell' = true := hone
          clear HA hone
          have hom := opN_mod s x
          generalize opGet s x = og at *
          generalize numAt s ((x : Int) + 2) 1 = typ at *
          generalize numAt s x 2 = cls at *
          generalize s.extract (x + 4) (x + 4 + opN s x) = dat at *
          have a0 := hG.2 0 _ rfl
          have a1 := hG.2 1 _ rfl
          have a2 := hG.2 2 _ rfl
          have hz2 := hB2.size
          have hal : A.length ≤ 1048576 := by omega
          have hcn9 := cells_new w2 [.int .i64 cls, .int .i64 typ, .string dat] 33
          have huc : opUn og = true ∧ 128 ≤ typ ∧ cls ≠ 259 ∨ opUn og = false ∧ (typ < 128 ∨ 128 ≤ typ ∧ cls = 259) := by
            by_cases q1 : 128 ≤ typ
            · by_cases q2 : cls = 259
              · exact .inr ⟨by rw [HV.out, q2]; simp, .inr ⟨q1, q2⟩⟩
              · exact .inl ⟨by rw [HV.out, decide_eq_true q1, decide_eq_true q2]; rfl, q1, q2⟩
            · exact .inr ⟨by rw [HV.out, decide_eq_false q1]; rfl, .inl (by omega)⟩
          clear HV
          generalize opUn og = un at *
          have HB2 : Hid (Below w.heap.size w w2) := hB2
          clear hB2
          rcases huc with ⟨rfl, q1, q2⟩ | ⟨rfl, q1 | ⟨q1, q2⟩⟩
          · have e9 : (cls != 259) = true := by simp [q2]
            clear q2
            cases hun : opsUn A
            all_goals
              rw [hun] at HU
              go_wp2_with (at_builtin; refine wpList_append_vals Try.infOpt rfl _ _ rfl w.heap.size _ _ _ rfl (hO2.alloc _) _ 1 1 [.int .i64 cls, .int .i64 typ, .string dat] rfl (by simp) rfl hone2 hcn9 (by omega) (by simp; omega) ?_; intro v' wA hoA hbA)
              go_roundw
              case rel => exact ⟨A ++ [og], x + 4 + opN s x, by go_num, by rw [HU.out]; rfl, by omega, by omega, by omega, by simp; omega, by rw [HF.out, List.length_append]; exact hoA, HB2.out.trans (((Below.refl _ _).alloc hz2 _).trans hbA), HN⟩
              case measure => simp [intOf]; omega
          · cases hun : opsUn A
            all_goals
              rw [hun] at HU
              go_wp2_with (at_builtin; refine wpList_append_vals Try.infOpt rfl _ _ rfl w.heap.size _ _ _ rfl (hO2.alloc _) _ 1 1 [.int .i64 cls, .int .i64 typ, .string dat] rfl (by simp) rfl hone2 hcn9 (by omega) (by simp; omega) ?_; intro v' wA hoA hbA)
              go_roundw
              case rel => exact ⟨A ++ [og], x + 4 + opN s x, by go_num, by rw [HU.out]; rfl, by omega, by omega, by omega, by simp; omega, by rw [HF.out, List.length_append]; exact hoA, HB2.out.trans (((Below.refl _ _).alloc hz2 _).trans hbA), HN⟩
              case measure => simp [intOf]; omega
          · have e9 : (cls != 259) = false := by simp [q2]
            clear q2
            cases hun : opsUn A
            all_goals
              rw [hun] at HU
              go_wp2_with (at_builtin; refine wpList_append_vals Try.infOpt rfl _ _ rfl w.heap.size _ _ _ rfl (hO2.alloc _) _ 1 1 [.int .i64 cls, .int .i64 typ, .string dat] rfl (by simp) rfl hone2 hcn9 (by omega) (by simp; omega) ?_; intro v' wA hoA hbA)
              go_roundw
              case rel => exact ⟨A ++ [og], x + 4 + opN s x, by go_num, by rw [HU.out]; rfl, by omega, by omega, by omega, by simp; omega, by rw [HF.out, List.length_append]; exact hoA, HB2.out.trans (((Below.refl _ _).alloc hz2 _).trans hbA), HN⟩
              case measure => simp [intOf]; omega
      · have hgt : (rgE s : Int) < (x : Int) + 4 + (opN s x : Int) := by omega
        have ZZ : Hid (rgN s = 0 ∧ rgR s = [] ∧ rgT s = ⟨#[]⟩ ∧ rgC s = 2) := rg_no (rg_bad h (by
          rw [HA.out.2, gL_bad (by omega) (by unfold stepOk; rw [decide_eq_false hok])])) (by decide)
        clear HA
        go_wp2
        refine bodyPost_ret (v := .tuple #[.int .i64 0, .slice none 0 0, .string ⟨#[]⟩, .int .i64 2]) ?_ rfl ⟨.slice none 0 0, by rw [ZZ.out.1, ZZ.out.2.2.1, ZZ.out.2.2.2], by rw [ZZ.out.2.1]; exact ownV.nil _ _ _ _, hB⟩
        simp [results, Try.results12, go_sem]
    · have hxe : x = rgE s := by omega
      have hAO : rgO s = A := by
        unfold rgO; rw [HA.out.1, hxe, gL_done]; simp
      have hx4i : ¬ (x : Int) + 4 ≤ (rgE s : Int) := by omega
      have hln := rgO_len s h
      have hdz : (rgD s).size ≤ 1099511627776 := by unfold rgD; rw [ByteArray.size_extract]; omega
      have HD : Hid (s.extract (rgE s) s.size = rgD s) := rfl
      have HC : Hid (rgC s = rgF (numAt s 4 3) A (rgD s) s) := by show _ = _; unfold rgC; rw [if_pos h, hAO]
      have HFv : Hid (rgF (numAt s 4 3) A (rgD s) s = if str (gvText (numAt s 4 3) A (rgD s)) = s then (if opsUn A then 3 else 0) else 2) := rfl
      have HY : Hid (∀ k : Int, rgC s = k → k = 0 ∨ k = 3 → rgN s = numAt s 4 3 ∧ rgR s = A ∧ rgT s = rgD s ∧ rgC s = k) := fun k h1 h2 => by rw [← hAO]; exact rg_yes h1 h2
      have HN : Hid (∀ k : Int, rgC s = k → k ≠ 0 ∧ k ≠ 3 → rgN s = 0 ∧ rgR s = [] ∧ rgT s = ⟨#[]⟩ ∧ rgC s = k) := fun k h1 h2 => rg_no h1 h2
      rw [hAO] at hln
      have CA2 : Hid (∀ u : World, Calls Try.prog 38 #[.string s, .int .i64 4, .int .i64 3] u fun e w' => e = .returned (.int .i64 (numAt s 4 3)) ∧ w' = u) := fun u => CA.out 4 3 u (by omega) (by decide) (by decide) (by omega)
      have CG : Hid (∀ u : World, u = wr → Calls Try.prog 13 #[.int .i64 (numAt s 4 3), .slice T A.length c, .string (s.extract (rgE s) s.size)] u fun e w' => e = .returned (.string (str (gvText (numAt s 4 3) A (rgD s)))) ∧ Below u.heap.size u w') := by
        rintro u rfl
        exact s_GeneveBytes _ T c A (rgD s) u hO.reads.2 (by omega) hdz
      clear hAO HA CA hxe hxm hcn hem hdz hln eB n1 hbd
      generalize str (gvText (numAt s 4 3) A (rgD s)) = tx at *
      generalize rgF (numAt s 4 3) A (rgD s) s = fv at *
      generalize numAt s 4 3 = nt at *
      by_cases hq : tx = s
      · have hb := beq_strv hq
        rw [if_pos hq] at HFv
        clear hq
        cases hun : opsUn A
        all_goals
          rw [hun] at HFv
          simp only [Bool.false_eq_true, if_false, if_true] at HFv
          have ZZ := HY.out _ (HC.out.trans HFv.out) (by decide)
          have Z9 : Hid _ := ZZ
          clear ZZ HY HN HC HFv
          go_wp2_with fail
          go_at_call 38
          refine (CA2.out _).mono ?_
          rintro e wz ⟨rfl, hz⟩
          rw [hz]
          clear hz wz
          go_wp2_with fail
          go_at_call 13
          refine (CG.out _ rfl).mono ?_
          rintro e w1 ⟨rfl, hX⟩
          replace hB := hB.trans (hX.mono hB.size)
          replace hO := hO.far hX
          clear hX CG CA2
          go_wp2_with fail
          go_quiet (fail)
          go_wp2
          rw [HD.out]
          refine bodyPost_ret (v := .tuple #[.int .i64 nt, .slice T A.length c, .string (rgD s), .int .i64 _]) ?_ rfl ⟨.slice T A.length c, by rw [Z9.out.1, Z9.out.2.2.1, Z9.out.2.2.2], by rw [Z9.out.2.1]; exact hO, hB.trans ⟨rfl, rfl, rfl, Nat.le_refl _, fun _ _ => rfl⟩⟩
          simp [results, Try.results12, go_sem]
      · have hb := str_ne hq
        rw [if_neg hq] at HFv
        have ZZ : Hid (rgN s = 0 ∧ rgR s = [] ∧ rgT s = ⟨#[]⟩ ∧ rgC s = 2) := HN.out 2 (HC.out.trans HFv.out) (by decide)
        clear hq HY HN HC HFv
        go_wp2_with fail
        go_at_call 38
        refine (CA2.out _).mono ?_
        rintro e wz ⟨rfl, hz⟩
        rw [hz]
        clear hz wz
        go_wp2_with fail
        go_at_call 13
        refine (CG.out _ rfl).mono ?_
        rintro e w1 ⟨rfl, hX⟩
        replace hB := hB.trans (hX.mono hB.size)
        clear hX CG CA2
        go_wp2
        refine bodyPost_ret (v := .tuple #[.int .i64 0, .slice none 0 0, .string ⟨#[]⟩, .int .i64 2]) ?_ rfl ⟨.slice none 0 0, by rw [ZZ.out.1, ZZ.out.2.2.1, ZZ.out.2.2.2], by rw [ZZ.out.2.1]; exact ownV.nil _ _ _ _, hB⟩
        simp [results, Try.results12, go_sem]
theorem s_ReadGeneve (s : ByteArray) (w : World) (hs : s.size ≤ 1048576) :
    Calls Try.prog 12 #[.string s] w fun e w' => ∃ v, e = .returned (.tuple #[.int .i64 (rgN s), v, .string (rgT s), .int .i64 (rgC s)]) ∧ ownV w' w.heap.size 33 3 v (rgR s).length (opF (rgR s)) ∧ Below w.heap.size w w' := by
  by_cases h : rgE s ≤ s.size
  · exact s_RGVlong s w hs h
  · exact s_RGVshort s w hs (by omega)
end Go.Proofs.Ytnheppkjeoiipaa
