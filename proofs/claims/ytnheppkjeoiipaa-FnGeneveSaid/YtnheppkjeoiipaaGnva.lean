/-
  What is read as a Geneve, by the program: the whole.
-/
import Derived.Test.YtnheppkjeoiipaaGnv9
namespace Go.Proofs.Ytnheppkjeoiipaa
open Go.RowKit Go.PlainAid
theorem rg_places {s : ByteArray} (h : rgE s ≤ s.size) : nxP s 0 1 = 1 ∧ nxP s 1 3 = 4 ∧ nxP s 4 3 = 7 ∧ nxP s 7 1 = 8 ∧ nxP s 8 (4 * numAt s 0 1) = (rgE s : Int) ∧ nxF s 8 (4 * numAt s 0 1) (nxF s 7 1 (nxF s 4 3 (nxF s 1 3 (nxF s 0 1 false)))) = false := by
  have hb := rgE_bd s
  have he := rgE_eq s
  have e5 : nxP s 8 (4 * numAt s 0 1) = 8 + 4 * numAt s 0 1 := nxP_at (by omega)
  have f1 : nxF s 0 1 false = false := nxF_at (by omega)
  have f2 : nxF s 1 3 false = false := nxF_at (by omega)
  have f3 : nxF s 4 3 false = false := nxF_at (by omega)
  have f4 : nxF s 7 1 false = false := nxF_at (by omega)
  have f5 : nxF s 8 (4 * numAt s 0 1) false = false := nxF_at (by omega)
  rw [e5, f1, f2, f3, f4, f5]
  exact ⟨nxP_at (by omega), nxP_at (by omega), nxP_at (by omega), nxP_at (by omega), he.symm, rfl⟩
theorem rg_fail {s : ByteArray} (h : s.size < rgE s) : nxF s (nxP s (nxP s (nxP s (nxP s 0 1) 3) 3) 1) (4 * numAt s 0 1) (nxF s (nxP s (nxP s (nxP s 0 1) 3) 3) 1 (nxF s (nxP s (nxP s 0 1) 3) 3 (nxF s (nxP s 0 1) 3 (nxF s 0 1 false)))) = true := by
  have hb := rgE_bd s
  have he := rgE_eq s
  by_cases h1 : (0 : Int) + 1 ≤ s.size
  · rw [nxP_at h1]
    by_cases h2 : (0 : Int) + 1 + 3 ≤ s.size
    · rw [nxP_at h2]
      by_cases h3 : (0 : Int) + 1 + 3 + 3 ≤ s.size
      · rw [nxP_at h3]
        by_cases h4 : (0 : Int) + 1 + 3 + 3 + 1 ≤ s.size
        · rw [nxP_at h4]
          exact nxF_past (by omega)
        · rw [nxF_past h4, nxF_true]
      · rw [nxF_past h3, nxF_true, nxF_true]
    · rw [nxF_past h2, nxF_true, nxF_true, nxF_true]
  · rw [nxF_past h1, nxF_true, nxF_true, nxF_true, nxF_true]
theorem rg_opts {s : ByteArray} (h : rgE s ≤ s.size) : (gL (s.extract 8 (rgE s)) (s.extract 8 (rgE s)).size 0).1 = rgO s := by
  have hb := rgE_bd s
  have e : (s.extract 8 (rgE s)).size = rgE s - 8 := by rw [ByteArray.size_extract]; omega
  rw [e]
  have := gL_piece s 8 (rgE s) hb.1 h (rgE s) 0 (by omega) (by omega)
  rw [this]; rfl
theorem pieceAt_le (s : ByteArray) (p k : Int) : (pieceAt s p k).size ≤ s.size := by
  unfold pieceAt; split
  · rw [ByteArray.size_extract]; omega
  · exact Nat.zero_le _
set_option maxRecDepth 100000 in
set_option maxHeartbeats 6400000 in
theorem i_ReadGeneve (s : ByteArray) (w : World) (hs : s.size ≤ 1048576) : Calls Try.prog 11 #[.string s] w fun e w' => ∃ v, e = .returned (.tuple #[.int .i64 (rgN s), v, .string (rgT s), .int .i64 (rgC s)]) ∧ ownV w' w.heap.size 33 3 v (rgR s).length (opF (rgR s)) ∧ Below w.heap.size w w' := by
  have CP : Hid (∀ (p k : Int) (f : Bool) (u : World), Bx u w.heap.size (rdx s p f) → Fx u w.heap.size → 0 ≤ p → p ≤ s.size → 0 ≤ k → k ≤ 1099511627776 → Calls Try.prog 34 #[.pointer (some ⟨w.heap.size, 0, none⟩), .int .i64 k] u fun e w' => e = .returned (.string (pieceAt s p k)) ∧ RxTo u w' w.heap.size s (nxP s p k) (nxF s p k f)) := fun p k f u h1 h2 h3 h4 h5 h6 => i_rdPiece s p k f _ u h1 h2 h3 h4 h5 h6 (by omega)
  have CN : Hid (∀ (p k : Int) (f : Bool) (u : World), Bx u w.heap.size (rdx s p f) → Fx u w.heap.size → 0 ≤ p → p ≤ s.size → 1 ≤ k → k ≤ 7 → Calls Try.prog 33 #[.pointer (some ⟨w.heap.size, 0, none⟩), .int .i64 k] u fun e w' => e = .returned (.int .i64 (numAt s p k)) ∧ RxTo u w' w.heap.size s (nxP s p k) (nxF s p k f)) := fun p k f u h1 h2 h3 h4 h5 h6 => i_rdNumber s p k f _ u h1 h2 h3 h4 h5 h6 (by omega)
  have CR : Hid (∀ (p : Int) (f : Bool) (u : World), Bx u w.heap.size (rdx s p f) → 0 ≤ p → p ≤ s.size → Calls Try.prog 36 #[.pointer (some ⟨w.heap.size, 0, none⟩)] u fun e w' => e = .returned (.string (s.extract p.toNat s.size)) ∧ Below u.heap.size u w') := fun p f u h1 h2 h3 => i_rdRest s p f _ u h1 h2 h3 (by omega)
  have CO : Hid (∀ (q : ByteArray) (u : World), q.size ≤ s.size → Calls Try.prog 35 #[.string q] u fun e w' => ∃ v, e = .returned v ∧ ownV w' u.heap.size 33 3 v (gL q q.size 0).1.length (opF (gL q q.size 0).1) ∧ Below u.heap.size u w') := fun q u h => i_optsIn q u (by omega)
  have hR : Bx (w.alloc (.cells #[.string s, .int .i64 0, .bool false] 59)) w.heap.size (rdx s 0 false) := Bx.new w _ _
  have hF : Fx (w.alloc (.cells #[.string s, .int .i64 0, .bool false] 59)) w.heap.size := Fx.new w _ _
  have hB : Below w.heap.size w (w.alloc (.cells #[.string s, .int .i64 0, .bool false] 59)) := (Below.refl _ w).alloc (Nat.le_refl _) _
  have n1 := num1_bd s 0
  have i1 := nxP_in (s := s) (p := 0) (k := 1) (by omega) (by omega) (by omega)
  have i2 := nxP_in (s := s) (p := nxP s 0 1) (k := 3) i1.1 i1.2 (by omega)
  have i3 := nxP_in (s := s) (p := nxP s (nxP s 0 1) 3) (k := 3) i2.1 i2.2 (by omega)
  have i4 := nxP_in (s := s) (p := nxP s (nxP s (nxP s 0 1) 3) 3) (k := 1) i3.1 i3.2 (by omega)
  have i5 := nxP_in (s := s) (p := nxP s (nxP s (nxP s (nxP s 0 1) 3) 3) 1) (k := 4 * numAt s 0 1) i4.1 i4.2 (by omega)
  go_enter Try.func11, Try.ntmps11
  go_wp2_with fail
  generalize hW : w.alloc _ = w0 at *
  clear hW
  go_at_call 33
  refine (CN.out 0 1 false _ hR hF (by omega) (by omega) (by omega) (by omega)).mono ?_
  rintro e w1 ⟨rfl, hX⟩
  replace hB := hX.beyond hB (Nat.le_refl _) hB.size
  replace hR := hX.box
  replace hF := hX.free
  clear hX
  go_wp2_with fail
  go_at_call 34
  refine (CP.out _ 3 _ _ hR hF i1.1 i1.2 (by omega) (by omega)).mono ?_
  rintro e w2 ⟨rfl, hX⟩
  replace hB := hX.beyond hB (Nat.le_refl _) hB.size
  replace hR := hX.box
  replace hF := hX.free
  clear hX
  go_wp2_with fail
  go_at_call 33
  refine (CN.out _ 3 _ _ hR hF i2.1 i2.2 (by omega) (by omega)).mono ?_
  rintro e w3 ⟨rfl, hX⟩
  replace hB := hX.beyond hB (Nat.le_refl _) hB.size
  replace hR := hX.box
  replace hF := hX.free
  clear hX
  go_wp2_with fail
  go_at_call 34
  refine (CP.out _ 1 _ _ hR hF i3.1 i3.2 (by omega) (by omega)).mono ?_
  rintro e w4 ⟨rfl, hX⟩
  replace hB := hX.beyond hB (Nat.le_refl _) hB.size
  replace hR := hX.box
  replace hF := hX.free
  clear hX
  go_wp2_with fail
  go_at_call 34
  refine (CP.out _ (4 * numAt s 0 1) _ _ hR hF i4.1 i4.2 (by omega) (by omega)).mono ?_
  rintro e w5 ⟨rfl, hX⟩
  replace hB := hX.beyond hB (Nat.le_refl _) hB.size
  replace hR := hX.box
  replace hF := hX.free
  clear hX
  go_wp2_with fail
  go_at_call 35
  refine (CO.out _ _ (pieceAt_le s _ _)).mono ?_
  rintro e w6 ⟨v, rfl, hO, hX⟩
  have hb5 : w.heap.size ≤ w5.heap.size := hB.size
  replace hB := hB.trans (hX.mono hB.size)
  replace hR := hR.below hX
  replace hF := hF.below hX
  clear hX
  replace hO := hO.mono hb5
  obtain ⟨T, c, hv⟩ := hO.form
  subst hv
  go_wp2_with fail
  go_at_call 36
  refine (CR.out _ _ _ hR i5.1 i5.2).mono ?_
  rintro e w7 ⟨rfl, hX⟩
  replace hB := hB.trans (hX.mono hB.size)
  replace hR := hR.below hX
  replace hO := hO.far hX
  clear hX CP CN CR CO hF hb5 i1 i2 i3 i4 i5
  have rd2 := hR.2 2 _ rfl
  by_cases h8 : rgE s ≤ s.size
  · obtain ⟨p1, p2, p3, p4, p5, p6⟩ := rg_places h8
    have hbd := rgE_bd s
    have hpc : pieceAt s 8 (4 * numAt s 0 1) = s.extract 8 (rgE s) := by
      have := rgE_eq s
      unfold pieceAt; rw [if_pos (by omega)]; congr 1; omega
    rw [p1, p2, p3, p4, p6] at rd2
    rw [p1, p2, p3, p4, hpc, rg_opts h8] at hO
    rw [p1, p2, p3, p4, p5, hpc, rg_opts h8]
    rw [Int.toNat_natCast]
    have HD : Hid (s.extract (rgE s) s.size = rgD s) := rfl
    rw [HD.out]
    have hln := rgO_len s h8
    have hdz : (rgD s).size ≤ 1099511627776 := by rw [← HD.out, ByteArray.size_extract]; omega
    have HC : Hid (rgC s = rgF (numAt s 4 3) (rgO s) (rgD s) s) := by show _ = _; unfold rgC; rw [if_pos h8]
    have hcase := rgF_cases (numAt s 4 3) (rgO s) (rgD s) s
    have CF : Hid (∀ u : World, Below w7.heap.size w7 u → Calls Try.prog 37 #[.iface 54 (.agg #[.int .i64 (numAt s 4 3), .slice T (rgO s).length c, .string (rgD s)]), .string s] u fun e w' => e = .returned (.int .i64 (rgF (numAt s 4 3) (rgO s) (rgD s) s)) ∧ Below u.heap.size u w') := fun u hu => i_faultGv _ T c (rgO s) (rgD s) s u (hO.reads.2.below hu) (by omega) hdz
    have HY : Hid (∀ k : Int, rgC s = k → k = 0 ∨ k = 3 → rgN s = numAt s 4 3 ∧ rgR s = rgO s ∧ rgT s = rgD s ∧ rgC s = k) := fun k h1 h2 => rg_yes h1 h2
    have HN : Hid (∀ k : Int, rgC s = k → k ≠ 0 ∧ k ≠ 3 → rgN s = 0 ∧ rgR s = [] ∧ rgT s = ⟨#[]⟩ ∧ rgC s = k) := fun k h1 h2 => rg_no h1 h2
    clear p1 p2 p3 p4 p5 p6 hpc HD hbd n1 hR
    generalize rgF (numAt s 4 3) (rgO s) (rgD s) s = fv at *
    generalize numAt s 4 3 = nt at *
    generalize rgO s = ol at *
    generalize rgD s = da at *
    go_wp2_with fail
    go_at_call 37
    refine (CF.out _ (Below.refl _ _)).mono ?_
    rintro e w8 ⟨rfl, hX⟩
    replace hB := hB.trans (hX.mono hB.size)
    replace hO := hO.far hX
    clear hX CF rd2
    by_cases hf2 : fv = 2
    · have e2 : (fv == 2) = true := by simp [hf2]
      have Z9 := HN.out 2 (HC.out.trans hf2) (by decide)
      have ZZ : Hid (rgN s = 0 ∧ rgR s = [] ∧ rgT s = ⟨#[]⟩ ∧ rgC s = 2) := Z9
      clear Z9 hf2 hcase HY HN HC
      go_wp2
      refine bodyPost_ret (v := .tuple #[.int .i64 0, .slice none 0 0, .string ⟨#[]⟩, .int .i64 2]) ?_ rfl ⟨.slice none 0 0, by rw [ZZ.out.1, ZZ.out.2.2.1, ZZ.out.2.2.2], by rw [ZZ.out.2.1]; exact ownV.nil _ _ _ _, hB⟩
      simp [results, Try.results11, go_sem]
    · have e2 : (fv == 2) = false := by simp [hf2]
      have Z9 := HY.out fv HC.out (by rcases hcase with h | h | h; (· exact .inl h); (· exact .inr h); (· exact absurd h hf2))
      have ZZ : Hid (rgN s = nt ∧ rgR s = ol ∧ rgT s = da ∧ rgC s = fv) := Z9
      clear Z9 hf2 hcase HY HN HC
      go_wp2
      refine bodyPost_ret (v := .tuple #[.int .i64 nt, .slice T ol.length c, .string da, .int .i64 fv]) ?_ rfl ⟨.slice T ol.length c, by rw [ZZ.out.1, ZZ.out.2.2.1, ZZ.out.2.2.2], by rw [ZZ.out.2.1]; exact hO, hB⟩
      simp [results, Try.results11, go_sem]
  · rw [rg_fail (by omega)] at rd2
    have ZZ : Hid (rgN s = 0 ∧ rgR s = [] ∧ rgT s = ⟨#[]⟩ ∧ rgC s = 1) := rg_no (by unfold rgC; rw [if_neg h8]) (by decide)
    clear hR n1
    generalize s.extract (nxP s _ _).toNat s.size = da at *
    generalize numAt s (nxP s _ _) 3 = nt at *
    go_wp2
    refine bodyPost_ret (v := .tuple #[.int .i64 0, .slice none 0 0, .string ⟨#[]⟩, .int .i64 1]) ?_ rfl ⟨.slice none 0 0, by rw [ZZ.out.1, ZZ.out.2.2.1, ZZ.out.2.2.2], by rw [ZZ.out.2.1]; exact ownV.nil _ _ _ _, hB⟩
    simp [results, Try.results11, go_sem]
end Go.Proofs.Ytnheppkjeoiipaa
