/-
  What is read as an MPLS, by the model.
-/
import Derived.Test.YtlnhiaapjphefaaMpl4
namespace Go.Proofs.Ytlnhiaapjphefaa
open Go.RowKit Go.PlainAid
theorem mp_short {s : ByteArray} {j : Nat} (hj : j < 5) (h : ∀ i, i < j → lastAt s i = false) (hs : ¬ 4 * j + 4 ≤ s.size) : mpC s = 1 := by
  have := mcnt_lt s j hj h
  unfold mpC; rw [if_neg (by omega)]
def MSt (s : ByteArray) (j : Nat) (lb : Value) : Prop := (lb = .bool false ∧ Hid (∀ i, i < j → lastAt s i = false)) ∨ (lb = .bool true ∧ Hid (mcnt s = j))
theorem MSt.split {s : ByteArray} {j : Nat} {lb : Value} (h : MSt s j lb) (hj : j ≤ 5) : (lb = .bool false ∧ j < 5 ∧ Hid (∀ i, i < j → lastAt s i = false)) ∨ (lb = .bool false ∧ j = 5 ∧ Hid (mcnt s = j)) ∨ (lb = .bool true ∧ Hid (mcnt s = j)) := by
  rcases h with ⟨h1, h2⟩ | ⟨h1, h2⟩
  · by_cases h5 : j < 5
    · exact .inl ⟨h1, h5, h2⟩
    · have e : j = 5 := by omega
      refine .inr (.inl ⟨h1, e, ?_⟩)
      subst e; exact mcnt_all s h2.out
  · exact .inr (.inr ⟨h1, h2⟩)
set_option maxRecDepth 100000 in
set_option maxHeartbeats 12800000 in
theorem s_ReadMpls (s : ByteArray) (w : World) (hs : s.size ≤ 1099511627776) : Calls Try.prog 36 #[.string s] w fun e w' => ∃ v, e = .returned (.tuple #[v, .string (mpD s), .int .i64 (mpC s)]) ∧ ownR w' w.heap.size 55 3 v (mpR s).length (lbF (mpR s)) ∧ Below w.heap.size w w' := by
  have CA : Hid (∀ (j : Nat) (u : World), 4 * j + 4 ≤ s.size → Calls Try.prog 54 #[.string s, .int .i64 (4 * (j : Int)), .int .i64 4] u fun e w' => e = .returned (.int .i64 (numAt s (4 * (j : Int)) 4)) ∧ w' = u) := fun j u hj => by
    have := s_At s (4 * (j : Int)) 4 u (by unfold maxLen; omega) (by omega) (by omega) (by omega) (by omega)
    rw [(okN_true (s := s) (at_ := 4 * (j : Int)) (k := 4) ⟨by omega, by omega, by omega, by omega⟩).2]; exact this
  have hW0 : Below w.heap.size w (w.alloc (.cells #[] 55)) := (Below.refl _ w).alloc (Nat.le_refl _) _
  have HO0 : Hid (ownR (w.alloc (.cells #[] 55)) w.heap.size 55 3 (.slice (some ⟨w.heap.size, 0, none⟩) 0 0) 0 []) := World.ownsRow_made w #[] 0 (Nat.le_refl _) (by decide) rfl
  go_enter Try.func36, Try.ntmps36
  go_wp2
  generalize hW : w.alloc _ = w0 at *
  clear hW
  go_loopw [5, 6, 7] (fun v at_ lb wr => ∃ j : Nat, j ≤ 5 ∧ 4 * j ≤ s.size ∧ at_ = .int .i64 (4 * (j : Int)) ∧ ownR wr w.heap.size 55 3 v j (lbF (labsOf s j)) ∧ Below w.heap.size w wr ∧ MSt s j lb) (fun v _ _ _ => 5 - slLen v)
  case atStart => exact ⟨0, by omega, by omega, rfl, HO0.out, hW0, .inl ⟨rfl, fun i hi => by omega⟩⟩
  case round =>
    obtain ⟨j, hj, hjs, rfl, ho, hB, hcase⟩ := hrel
    obtain ⟨T, c, rfl⟩ := ho.form
    rcases hcase.split hj with ⟨rfl, hlt, hst⟩ | ⟨rfl, h5, HM⟩ | ⟨rfl, HM⟩
    · have hj1 : (j : Int) < 5 := by omega
      by_cases h4 : 4 * j + 4 ≤ s.size
      · have h4i : ¬ ((s.size : Int) < 4 * (j : Int) + 4) := by omega
        have CAj : Hid (∀ u : World, Calls Try.prog 54 #[.string s, .int .i64 (4 * (j : Int)), .int .i64 4] u fun e w' => e = .returned (.int .i64 (numAt s (4 * (j : Int)) 4)) ∧ w' = u) := fun u => CA.out j u h4
        obtain ⟨n0, n1⟩ := numAt4_bd s (4 * (j : Int))
        have HL : Hid (lastAt s j = decide (numAt s (4 * (j : Int)) 4 / 256 % 2 = 1)) := rfl
        have HS : Hid (labsOf s (j + 1) = labsOf s j ++ [⟨numAt s (4 * (j : Int)) 4 / 4096, numAt s (4 * (j : Int)) 4 / 512 % 8, numAt s (4 * (j : Int)) 4 % 256⟩]) := labsOf_succ s j
        generalize numAt s (4 * (j : Int)) 4 = n at *
        have b1 : bits .and .i64 (n / 512) 7 = n / 512 % 8 := and_7 (by omega) (by omega)
        have b2 : bits .and .i64 n 255 = n % 256 := and_255 n0 (by omega)
        have b3 : bits .and .i64 (n / 256) 1 = n / 256 % 2 := and_1 (by omega) (by omega)
        by_cases hl : n / 256 % 2 = 1
        · have hla : lastAt s j = true := by rw [HL.out, decide_eq_true hl]
          have HM : Hid (mcnt s = j + 1) := mcnt_at s j hlt hst.out hla
          have b4 : (n / 256 % 2 == 1) = true := by rw [hl]; rfl
          clear hla HL hl
          go_wp2_with fail
          go_at_call 54
          refine (CAj.out _).mono ?_
          rintro e wz ⟨rfl, hz⟩
          rw [hz]
          clear hz wz CAj
          go_wp2_with (at_builtin; refine wpList_append_recs Try.infLabel rfl _ _ rfl w.heap.size _ _ _ rfl (ho.alloc _) _ 1 1 [n / 4096, n / 512 % 8, n % 256] rfl (by simp) (by simp) (ints_new wr 55 [n / 4096, n / 512 % 8, n % 256]) (by omega) (by have := hB.size; simp; omega) ?_; intro v' w3 ho3 hb3)
          go_roundw
          case rel =>
            refine ⟨j + 1, by omega, by omega, by go_num, ?_, (hB.alloc hB.size _).trans hb3, .inr ⟨rfl, HM⟩⟩
            rw [HS.out, lbF_app]; exact ho3
          case measure =>
            obtain ⟨T3, c3, rfl⟩ := ho3.form
            simp [slLen]; omega
        · have hla : lastAt s j = false := by rw [HL.out, decide_eq_false hl]
          have HH : Hid (∀ i, i < j + 1 → lastAt s i = false) := fun i hi => by
            by_cases e : i = j
            · rw [e]; exact hla
            · exact hst.out i (by omega)
          have b4 : (n / 256 % 2 == 1) = false := by rw [show n / 256 % 2 = 0 by omega]; rfl
          clear hla HL hl
          go_wp2_with fail
          go_at_call 54
          refine (CAj.out _).mono ?_
          rintro e wz ⟨rfl, hz⟩
          rw [hz]
          clear hz wz CAj
          go_wp2_with (at_builtin; refine wpList_append_recs Try.infLabel rfl _ _ rfl w.heap.size _ _ _ rfl (ho.alloc _) _ 1 1 [n / 4096, n / 512 % 8, n % 256] rfl (by simp) (by simp) (ints_new wr 55 [n / 4096, n / 512 % 8, n % 256]) (by omega) (by have := hB.size; simp; omega) ?_; intro v' w3 ho3 hb3)
          go_roundw
          case rel =>
            refine ⟨j + 1, by omega, by omega, by go_num, ?_, (hB.alloc hB.size _).trans hb3, .inl ⟨rfl, HH⟩⟩
            rw [HS.out, lbF_app]; exact ho3
          case measure =>
            obtain ⟨T3, c3, rfl⟩ := ho3.form
            simp [slLen]; omega
      · have h4i : (s.size : Int) < 4 * (j : Int) + 4 := by omega
        have YY : Hid (mpR s = [] ∧ mpD s = ⟨#[]⟩ ∧ mpC s = 1) := mp_no (mp_short hlt hst.out h4) (by omega)
        clear h4
        go_wp2
        go_ret3
        exact ⟨_, by rw [YY.out.2.1, YY.out.2.2]; rfl, by rw [YY.out.1]; exact ownR.nil _ _ _ _, hB⟩
    · have hj5 : ¬ ((j : Int) < 5) := by omega
      clear h5
      have hm := HM.out
      have hlen := labsOf_len s j
      by_cases h8 : 4 * j + 4 ≤ s.size
      · have h4i : ¬ ((s.size : Int) < 4 * (j : Int) + 4) := by omega
        have h4j : 4 * (j : Int) + 4 ≤ (s.size : Int) := by omega
        have hda : mdat s = s.extract (4 * (j : Int) + 4).toNat s.size := by unfold mdat; rw [hm]; congr 1
        have hdz : (s.extract (4 * (j : Int) + 4).toNat s.size).size ≤ 1099511627776 := by simp; omega
        have HC : Hid (mpC s = if str (mpText (labsOf s j) (s.extract (4 * (j : Int) + 4).toNat s.size)) = s then 0 else 2) := by show _ = _; unfold mpC; rw [hm, if_pos h8, hda]
        have HY : Hid (mpC s = 0 → mpR s = labsOf s j ∧ mpD s = s.extract (4 * (j : Int) + 4).toNat s.size ∧ mpC s = 0) := fun h => by have := mp_yes h; rw [hm, hda] at this; exact this
        have HN : Hid (mpC s = 2 → mpR s = [] ∧ mpD s = ⟨#[]⟩ ∧ mpC s = 2) := fun h => mp_no h (by omega)
        have CS : Hid (∀ u : World, u = wr → Calls Try.prog 37 #[.slice T j c, .string (s.extract (4 * (j : Int) + 4).toNat s.size)] u fun e w' => e = .returned (.string (str (mpText (labsOf s j) (s.extract (4 * (j : Int) + 4).toNat s.size)))) ∧ Below u.heap.size u w') := by
          rintro u rfl
          have := s_MplsBytes T c (labsOf s j) (s.extract (4 * (j : Int) + 4).toNat s.size) u ho.reads.2 (by rw [hlen]; omega) hdz
          rw [hlen] at this; exact this
        generalize str (mpText (labsOf s j) (s.extract (4 * (j : Int) + 4).toNat s.size)) = tx at *
        generalize labsOf s j = ll at *
        clear hm hda hdz h8
        by_cases hq : tx = s
        · have hb := beq_strm hq
          rw [if_pos hq] at HC
          have YY : Hid (mpR s = ll ∧ mpD s = s.extract (4 * (j : Int) + 4).toNat s.size ∧ mpC s = 0) := HY.out HC.out
          clear HC HY HN hq
          go_wp2_with fail
          go_at_call 37
          refine (CS.out _ rfl).mono ?_
          rintro e w5 ⟨rfl, hb5⟩
          go_wp2_with fail
          go_quiet (fail)
          go_wp2
          go_ret3
          refine ⟨_, by rw [YY.out.2.1, YY.out.2.2]; rfl, by rw [YY.out.1, hlen]; exact ho.far (hb5.trans ⟨rfl, rfl, rfl, Nat.le_refl _, fun _ _ => rfl⟩), ?_⟩
          exact (hB.trans (hb5.mono hB.size)).trans ⟨rfl, rfl, rfl, Nat.le_refl _, fun _ _ => rfl⟩
        · have hb := str_ne hq
          rw [if_neg hq] at HC
          have YY : Hid (mpR s = [] ∧ mpD s = ⟨#[]⟩ ∧ mpC s = 2) := HN.out HC.out
          clear HC HY HN hq
          go_wp2_with fail
          go_at_call 37
          refine (CS.out _ rfl).mono ?_
          rintro e w5 ⟨rfl, hb5⟩
          go_wp2
          go_ret3
          exact ⟨_, by rw [YY.out.2.1, YY.out.2.2]; rfl, by rw [YY.out.1]; exact ownR.nil _ _ _ _, hB.trans (hb5.mono hB.size)⟩
      · have h4i : (s.size : Int) < 4 * (j : Int) + 4 := by omega
        have YY : Hid (mpR s = [] ∧ mpD s = ⟨#[]⟩ ∧ mpC s = 1) := mp_no (by unfold mpC; rw [hm, if_neg h8]) (by omega)
        clear h8 hm
        go_wp2
        go_ret3
        exact ⟨_, by rw [YY.out.2.1, YY.out.2.2]; rfl, by rw [YY.out.1]; exact ownR.nil _ _ _ _, hB⟩
    · have hj5 : True := trivial
      have hm := HM.out
      have hlen := labsOf_len s j
      by_cases h8 : 4 * j + 4 ≤ s.size
      · have h4i : ¬ ((s.size : Int) < 4 * (j : Int) + 4) := by omega
        have h4j : 4 * (j : Int) + 4 ≤ (s.size : Int) := by omega
        have hda : mdat s = s.extract (4 * (j : Int) + 4).toNat s.size := by unfold mdat; rw [hm]; congr 1
        have hdz : (s.extract (4 * (j : Int) + 4).toNat s.size).size ≤ 1099511627776 := by simp; omega
        have HC : Hid (mpC s = if str (mpText (labsOf s j) (s.extract (4 * (j : Int) + 4).toNat s.size)) = s then 0 else 2) := by show _ = _; unfold mpC; rw [hm, if_pos h8, hda]
        have HY : Hid (mpC s = 0 → mpR s = labsOf s j ∧ mpD s = s.extract (4 * (j : Int) + 4).toNat s.size ∧ mpC s = 0) := fun h => by have := mp_yes h; rw [hm, hda] at this; exact this
        have HN : Hid (mpC s = 2 → mpR s = [] ∧ mpD s = ⟨#[]⟩ ∧ mpC s = 2) := fun h => mp_no h (by omega)
        have CS : Hid (∀ u : World, u = wr → Calls Try.prog 37 #[.slice T j c, .string (s.extract (4 * (j : Int) + 4).toNat s.size)] u fun e w' => e = .returned (.string (str (mpText (labsOf s j) (s.extract (4 * (j : Int) + 4).toNat s.size)))) ∧ Below u.heap.size u w') := by
          rintro u rfl
          have := s_MplsBytes T c (labsOf s j) (s.extract (4 * (j : Int) + 4).toNat s.size) u ho.reads.2 (by rw [hlen]; omega) hdz
          rw [hlen] at this; exact this
        generalize str (mpText (labsOf s j) (s.extract (4 * (j : Int) + 4).toNat s.size)) = tx at *
        generalize labsOf s j = ll at *
        clear hm hda hdz h8
        by_cases hq : tx = s
        · have hb := beq_strm hq
          rw [if_pos hq] at HC
          have YY : Hid (mpR s = ll ∧ mpD s = s.extract (4 * (j : Int) + 4).toNat s.size ∧ mpC s = 0) := HY.out HC.out
          clear HC HY HN hq
          go_wp2_with fail
          go_at_call 37
          refine (CS.out _ rfl).mono ?_
          rintro e w5 ⟨rfl, hb5⟩
          go_wp2_with fail
          go_quiet (fail)
          go_wp2
          go_ret3
          refine ⟨_, by rw [YY.out.2.1, YY.out.2.2]; rfl, by rw [YY.out.1, hlen]; exact ho.far (hb5.trans ⟨rfl, rfl, rfl, Nat.le_refl _, fun _ _ => rfl⟩), ?_⟩
          exact (hB.trans (hb5.mono hB.size)).trans ⟨rfl, rfl, rfl, Nat.le_refl _, fun _ _ => rfl⟩
        · have hb := str_ne hq
          rw [if_neg hq] at HC
          have YY : Hid (mpR s = [] ∧ mpD s = ⟨#[]⟩ ∧ mpC s = 2) := HN.out HC.out
          clear HC HY HN hq
          go_wp2_with fail
          go_at_call 37
          refine (CS.out _ rfl).mono ?_
          rintro e w5 ⟨rfl, hb5⟩
          go_wp2
          go_ret3
          exact ⟨_, by rw [YY.out.2.1, YY.out.2.2]; rfl, by rw [YY.out.1]; exact ownR.nil _ _ _ _, hB.trans (hb5.mono hB.size)⟩
      · have h4i : (s.size : Int) < 4 * (j : Int) + 4 := by omega
        have YY : Hid (mpR s = [] ∧ mpD s = ⟨#[]⟩ ∧ mpC s = 1) := mp_no (by unfold mpC; rw [hm, if_neg h8]) (by omega)
        clear h8 hm
        go_wp2
        go_ret3
        exact ⟨_, by rw [YY.out.2.1, YY.out.2.2]; rfl, by rw [YY.out.1]; exact ownR.nil _ _ _ _, hB⟩
end Go.Proofs.Ytlnhiaapjphefaa
