/-
  The walk of the law FnFrameCut.
-/
import Derived.Test.YtlpapncgcgllfaaLawCut
namespace Go.Proofs.Ytlpapncgcgllfaa
open Go.RowKit Go.PlainAid
set_option maxRecDepth 100000 in
set_option maxHeartbeats 1600000 in
theorem d_FrameOk (B : Nat) (C : Option Addr) (len cap : Nat) (w : World) (h : Code w B C len) :
    Calls Try.prog 20 #[.slice C len cap] w fun e w' => ∃ (d s : Int) (v : Value) (l : List Int) (t : Int) (x : ByteArray), e = .returned (.agg #[.int .i64 d, .int .i64 s, v, .int .i64 t, .string x]) ∧ ownI w' w.heap.size v l ∧ l.length ≤ 3 ∧ x.size ≤ 65600 ∧ Below w.heap.size w w' := by
  have hB0 : Below w.heap.size w (w.alloc (.cells fr0 24)) := (Below.refl _ w).alloc (Nat.le_refl _) _
  have hC0 := h.below (hB0.mono h.2.1)
  have hR : Fb (w.alloc (.cells fr0 24)) w.heap.size fr0 := Fb.new w _
  have hs0 : (w.alloc (.cells fr0 24)).heap.size = w.heap.size + 1 := by simp
  go_enter Try.func20, Try.ntmps20
  go_wp2_with fail
  generalize w.alloc (.cells fr0 24) = w0 at *
  refine (r_Open B C len cap _ hC0).mono ?_
  rintro e w1 ⟨rfl, hd1, hb1, hs1⟩
  rw [hs0] at hd1 hs1 ⊢
  replace hR := hR.below hb1
  replace hB0 := hB0.trans (hb1.mono hB0.size)
  clear hb1 hs0 hC0 h
  have hneR : w.heap.size ≠ w.heap.size + 1 := by omega
  go_wp2_with fail
  refine (r_frame _ C len cap _ hd1).mono ?_
  rintro e w2 ⟨d, s, v, l, t, x, rfl, ho2, hl2, hx2, hd2, hO2⟩
  replace hR := hR.only hO2 hneR
  replace hB0 := hB0.trans (hO2.below (by omega) hB0.size)
  have hz2 := hO2.size
  clear hO2 hd1
  go_wp2_with fail
  refine (r_hurtFrame _ w1.heap.size C len cap d s v l t x _ hd2 ho2 (by omega) hz2 (by omega) hx2).mono ?_
  rintro e w3 ⟨d, s, v, l', t, x, rfl, ho3, hl3, hx3, hd3, hb3⟩
  have hR3 : Fb w3 w.heap.size fr0 := (hb3.block _ (by omega)).trans hR
  replace hB0 := hB0.trans (hb3.mono (by omega))
  clear hb3 hR ho2 hd2
  have ho4 := ho3
  have hnR := own_ne ho4 hR3
  clear hd3 ho3
  have r0 := hR3.cell 0 _ rfl
  have r1 := hR3.cell 1 _ rfl
  have r2 := hR3.cell 2 _ rfl
  have r3 := hR3.cell 3 _ rfl
  have r4 := hR3.cell 4 _ rfl
  have rf := hR3.frozen
  obtain ⟨Tv, cv, rfl⟩ := ho4.form
  go_wp2
  refine bodyPost_ret (v := .agg #[.int .i64 d, .int .i64 s, .slice Tv l'.length cv, .int .i64 t, .string x]) ?_ rfl ⟨d, s, _, l', t, x, rfl, ?_, by omega, hx3, ?_⟩
  · simp [results, Try.results20, go_sem, r0, r1, r2, r3, r4]
  · iterate 5 (refine ownsRow_setCell_other ?_ hnR _)
    exact ho4.mono (by omega)
  · go_grown

set_option maxRecDepth 100000 in
set_option maxHeartbeats 6400000 in
theorem walk_FnFrameCut (C : Option Addr) (len cap : Nat) (zs : List Int) (w : World) (w0 : IsRow .u8 w C len cap zs) :
    Calls Try.prog 5 #[.slice C len cap] w fun e w' => e = .returned (.bool true) ∧ Below w.heap.size w w' := by
  have hl := row_len w0
  by_cases hz : 1048576 < len
  · go_enter Try.func5, Try.ntmps5
    go_wp2
    go_ret
    exact ⟨rfl, Below.refl _ _⟩
  · have hC := code_of_row w0 (by omega)
    clear w0
    go_enter Try.func5, Try.ntmps5
    go_wp2_with fail
    refine (big_no _ _ _ _ (by omega)).mono ?_
    rintro e w' ⟨rfl, hw'⟩
    rw [hw']
    clear hw' w'
    go_wp2_with fail
    refine (d_FrameOk _ C len cap _ hC).mono ?_
    rintro e w1 ⟨d, s, v, l, t, x, rfl, hof, hl3, hxs, hB⟩
    obtain ⟨Tf, cf, rfl⟩ := hof.form
    have hf := Box.new w1 #[.int .i64 d, .int .i64 s, .slice Tf l.length cf, .int .i64 t, .string x] 24
    replace hof := hof.alloc (.cells #[.int .i64 d, .int .i64 s, .slice Tf l.length cf, .int .i64 t, .string x] 24)
    replace hB := hB.alloc hB.size (.cells #[.int .i64 d, .int .i64 s, .slice Tf l.length cf, .int .i64 t, .string x] 24)
    have CI : Hid (∀ v : World, IntsAt v Tf l → Calls Try.prog 14 #[.agg #[.int .i64 d, .int .i64 s, .slice Tf l.length cf, .int .i64 t, .string x]] v fun e w' => e = .returned (.string (str (frameBytes d s l t x))) ∧ Below v.heap.size v w') := fun v hv => i_FrameBytes d s Tf cf l t x v hv (by omega) (by omega)
    have CS : Hid (∀ v : World, IntsAt v Tf l → Calls Try.prog 16 #[.agg #[.int .i64 d, .int .i64 s, .slice Tf l.length cf, .int .i64 t, .string x]] v fun e w' => e = .returned (.string (str (frameBytes d s l t x))) ∧ Below v.heap.size v w') := fun v hv => s_FrameBytes d s Tf cf l t x v hv (by omega) (by omega)
    have HZ : Hid (frameBytes d s l t x = [] ∨ (frameBytes d s l t x).isEmpty = false ∧ l ≠ [] ∨ (frameBytes d s l t x).isEmpty = false ∧ l = [] ∧ frameB d s [] t x = true ∧ frameBytes d s l t x = fbytes d s [] t x) := by
      show _ ∨ _
      cases hk : frameB d s l t x
      · left; unfold frameBytes; rw [hk]; rfl
      · have e : frameBytes d s l t x = fbytes d s l t x := by unfold frameBytes; rw [if_pos hk]
        have hne : (fbytes d s l t x).isEmpty = false := by
          have := fbytes_len0 d s l t x
          cases hq : fbytes d s l t x with
          | nil => rw [hq] at this; simp at this; omega
          | cons => rfl
        right
        rw [e]
        by_cases hl0 : l = []
        · right; subst hl0; exact ⟨hne, rfl, hk, rfl⟩
        · left; exact ⟨hne, hl0⟩
    have hlen : (frameBytes d s l t x).length ≤ 70000 := by
      unfold frameBytes
      split
      · rw [fbytes_len0]; omega
      · simp
    have p0 := hf.2 0 _ rfl
    have p1 := hf.2 1 _ rfl
    have p2 := hf.2 2 _ rfl
    have p3 := hf.2 3 _ rfl
    have p4 := hf.2 4 _ rfl
    go_wp2_with fail
    refine (CI.out _ hof.src.ints.2).mono ?_
    rintro e w2 ⟨rfl, hb2⟩
    replace hf := hf.below hb2
    replace hof := hof.far hb2
    replace hB := hB.trans (hb2.mono hB.size)
    clear hb2 p0 p1 p2 p3 p4
    have p0 := hf.2 0 _ rfl
    have p1 := hf.2 1 _ rfl
    have p2 := hf.2 2 _ rfl
    have p3 := hf.2 3 _ rfl
    have p4 := hf.2 4 _ rfl
    go_wp2_with fail
    refine (CS.out _ hof.src.ints.2).mono ?_
    rintro e w3 ⟨rfl, hb3⟩
    replace hf := hf.below hb3
    replace hof := hof.far hb3
    replace hB := hB.trans (hb3.mono hB.size)
    clear hb3 p0 p1 p2 p3 p4
    have p0 := hf.2 0 _ rfl
    have p1 := hf.2 1 _ rfl
    have p2 := hf.2 2 _ rfl
    have p3 := hf.2 3 _ rfl
    have p4 := hf.2 4 _ rfl
    rcases HZ.out with hE | ⟨hE, hl0⟩ | ⟨hE, rfl, hF, hT⟩
    · clear HZ
      rw [hE] at CS ⊢
      go_wp2_with fail
      refine (CS.out _ hof.src.ints.2).mono ?_
      rintro e w4 ⟨rfl, hb4⟩
      replace hB := hB.trans (hb4.mono hB.size)
      go_wp2
      go_ret
      exact ⟨by simp, hB⟩
    · clear HZ
      have hl1 : (0 : Int) < (l.length : Int) := by have := List.length_pos_iff.2 hl0; omega
      generalize frameBytes d s l t x = Tx at *
      go_wp2_with fail
      refine (CS.out _ hof.src.ints.2).mono ?_
      rintro e w4 ⟨rfl, hb4⟩
      replace hB := hB.trans (hb4.mono hB.size)
      go_wp2
      go_ret
      exact ⟨by simp, hB⟩
    · clear HZ
      have K1 : Hid (∀ k : Nat, 14 ≤ k → k ≤ 14 + x.size → rdOk ((str (frameBytes d s [] t x)).extract 0 k) = true ∧ rdFr ((str (frameBytes d s [] t x)).extract 0 k) = ⟨d, s, [], t, x.extract 0 (k - 14)⟩) := fun k h1 h2 => by rw [hT]; exact cut_read hF h1 h2
      have K2 : Hid (∀ k : Nat, k < 14 → rdOk ((str (frameBytes d s [] t x)).extract 0 k) = false) := fun k h1 => by rw [hT]; exact cut_short h1
      have hTl : (frameBytes d s [] t x).length = 14 + x.size := by rw [hT, fbytes_len0]; simp
      have hTs := str_size (frameBytes d s [] t x)
      clear hT hF CI CS hlen
      generalize frameBytes d s [] t x = Tx at *
      simp only [List.length_nil] at *
      have hC3 := hC.below hB
      go_wp2_with fail
      refine (l_place _ C len cap _ _ (by omega) hC3).mono ?_
      rintro e w4 ⟨y, rfl, hy0, hy1, hw4⟩
      rw [hw4]
      clear hw4 w4
      obtain ⟨k, rfl⟩ := Int.eq_ofNat_of_zero_le hy0
      have hk : k ≤ Tx.length := by omega
      by_cases hk14 : k < 14
      · have hk14' : (k : Int) < 14 := by omega
        have CR : Hid (∀ v : World, ∃ r, Calls Try.prog 8 #[.string ((str Tx).extract 0 k)] v fun e w' => GaveT v r false e w') := fun v => by
          have := i_ReadFrame ((str Tx).extract 0 k) v (by rw [ByteArray.size_extract]; omega)
          rw [K2.out k hk14] at this
          exact ⟨_, this⟩
        clear K1 K2
        go_wp2_with fail
        obtain ⟨⟨gd, gs, gl, gt, gx⟩, CR'⟩ := CR.out w3
        refine CR'.mono ?_
        clear CR CR'
        rintro e w5 ⟨vg, rfl, hog, hb5⟩
        obtain ⟨Tg, cg, rfl⟩ := hog.form
        replace hB := hB.trans (hb5.mono hB.size)
        have hB2 := hB.alloc hB.size (.cells #[.int .i64 gd, .int .i64 gs, .slice Tg gl.length cg, .int .i64 gt, .string gx] 24)
        go_wp2
        go_ret
        exact ⟨rfl, hB2⟩
      · obtain ⟨j, rfl⟩ : ∃ j, k = 14 + j := ⟨k - 14, by omega⟩
        have hj : j ≤ x.size := by omega
        have hk14' : ¬ ((14 + j : Nat) : Int) < 14 := by omega
        have CR : Hid (∀ v : World, Calls Try.prog 8 #[.string ((str Tx).extract 0 (14 + j))] v fun e w' => GaveT v ⟨d, s, [], t, x.extract 0 j⟩ true e w') := fun v => by
          have := i_ReadFrame ((str Tx).extract 0 (14 + j)) v (by rw [ByteArray.size_extract]; omega)
          have k1 := K1.out (14 + j) (by omega) (by omega)
          rw [show 14 + j - 14 = j by omega] at k1
          rw [k1.1, k1.2] at this
          exact this
        clear K1 K2
        go_wp2_with fail
        refine (CR.out _).mono ?_
        clear CR
        rintro e w5 ⟨vg, rfl, hog, hb5⟩
        obtain ⟨Tg, cg, rfl⟩ := hog.form
        simp only [List.length_nil] at *
        replace hB := hB.trans (hb5.mono hB.size)
        replace hf := hf.below hb5
        clear hb5 p0 p1 p2 p3 p4
        have p0 := hf.2 0 _ rfl
        have p1 := hf.2 1 _ rfl
        have p2 := hf.2 2 _ rfl
        have p3 := hf.2 3 _ rfl
        have p4 := hf.2 4 _ rfl
        have p9 := hf.1
        replace hB := (hB.alloc hB.size (.cells #[.int .i64 d, .int .i64 s, .slice Tg 0 cg, .int .i64 t, .string (x.extract 0 j)] 24)).alloc (by have := hB.size; simp; omega) (.cells #[.int .i64 d, .int .i64 s, .slice Tf 0 cf, .int .i64 t, .string (x.extract 0 j)] 24)
        have hj' : (j : Int) ≤ (x.size : Int) := by omega
        go_wp2_with fail
        refine (l_sameFrame d s Tg Tf cg cf [] t (x.extract 0 j) _ (.inl rfl) (.inl rfl) (by simp)).mono ?_
        rintro e w8 ⟨rfl, hb8⟩
        replace hB := hB.trans (hb8.mono hB.size)
        go_wp2
        go_ret
        exact ⟨rfl, hB⟩
end Go.Proofs.Ytlpapncgcgllfaa
