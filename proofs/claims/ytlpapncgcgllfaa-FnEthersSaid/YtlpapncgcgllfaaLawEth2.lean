/-
  What is drawn for the law FnEthers.
-/
import Derived.Test.YtlpapncgcgllfaaLawEth1
namespace Go.Proofs.Ytlpapncgcgllfaa
open Go.RowKit Go.PlainAid
set_option maxRecDepth 100000 in
set_option maxHeartbeats 1600000 in
theorem d_FrameBytes (B : Nat) (C : Option Addr) (len cap : Nat) (w : World) (h : Code w B C len) :
    Calls Try.prog 13 #[.slice C len cap] w fun e w' => ∃ (d s : Int) (v : Value) (l : List Int) (t : Int) (x : ByteArray), e = .returned (.agg #[.int .i64 d, .int .i64 s, v, .int .i64 t, .string x]) ∧ ownI w' w.heap.size v l ∧ l.length ≤ 3 ∧ x.size ≤ 65600 ∧ Below w.heap.size w w' := by
  have hB0 : Below w.heap.size w (w.alloc (.cells fr0 24)) := (Below.refl _ w).alloc (Nat.le_refl _) _
  have hC0 := h.below (hB0.mono h.2.1)
  have hR : Fb (w.alloc (.cells fr0 24)) w.heap.size fr0 := Fb.new w _
  go_enter Try.func13, Try.ntmps13
  go_wp2_with fail
  generalize w.alloc (.cells fr0 24) = w0 at *
  refine (d_FrameOk B C len cap _ hC0).mono ?_
  rintro e w1 ⟨d, s, v, l, t, x, rfl, ho, hl, hx, hb1⟩
  have hz := hR.lt
  replace hR := hR.below hb1
  replace hB0 := hB0.trans (hb1.mono hB0.size)
  have hnR := own_ne ho hR
  have r0 := hR.cell 0 _ rfl
  have r1 := hR.cell 1 _ rfl
  have r2 := hR.cell 2 _ rfl
  have r3 := hR.cell 3 _ rfl
  have r4 := hR.cell 4 _ rfl
  have rf := hR.frozen
  obtain ⟨Tv, cv, rfl⟩ := ho.form
  have ho2 := ho.mono (B' := w.heap.size) (by omega)
  clear hb1
  go_wp2
  refine bodyPost_ret (v := .agg #[.int .i64 d, .int .i64 s, .slice Tv l.length cv, .int .i64 t, .string x]) ?_ rfl ⟨d, s, _, l, t, x, rfl, ?_, hl, hx, ?_⟩
  · simp [results, Try.results13, go_sem, r0, r1, r2, r3, r4]
  · iterate 5 (refine ownsRow_setCell_other ?_ hnR _)
    exact ho2
  · go_grown
set_option maxRecDepth 100000 in
set_option maxHeartbeats 1600000 in
theorem d_ReadFrame (B : Nat) (C : Option Addr) (len cap : Nat) (w : World) (h : Code w B C len) :
    Calls Try.prog 15 #[.slice C len cap] w fun e w' => ∃ t : ByteArray, e = .returned (.string t) ∧ t.size ≤ 70000 ∧ Below w.heap.size w w' := by
  go_enter Try.func15, Try.ntmps15
  go_wp2_with fail
  refine (r_Open B C len cap _ h).mono ?_
  rintro e w1 ⟨rfl, hd1, hb1, hs1⟩
  go_wp2_with fail
  refine (r_frame _ C len cap _ hd1).mono ?_
  rintro e w2 ⟨d, s, v, l, t, x, rfl, ho2, hl2, hx2, hd2, hO2⟩
  obtain ⟨Tv, cv, rfl⟩ := ho2.form
  have hB := hb1.trans (hO2.below (Nat.le_refl _) hb1.size)
  clear hb1 hO2 hd1
  go_wp2_with fail
  refine (s_l2Bytes d s Tv cv l t x _ ho2.src.ints.2 (by omega) (by omega)).mono ?_
  rintro e w3 ⟨rfl, hb3⟩
  have hlt2 := hd2.lt
  have hd3 := hd2.kept (hb3.mono (by omega))
  replace hB := hB.trans (hb3.mono hB.size)
  clear hb3 hd2
  have hL := fbytes_len0 d s l t x
  have hS := str_size (fbytes d s l t x)
  generalize str (fbytes d s l t x) = T at *
  have hT : T.size ≤ 66000 := by omega
  have hT14 : 14 ≤ T.size := by omega
  clear hL hS
  go_wp2_with fail
  refine (r_below _ C len cap _ _ (by omega) hd3).mono ?_
  rintro e w4 ⟨y, rfl, hy0, hy1, hd4, hO4⟩
  replace hB := hB.trans (hO4.below (Nat.le_refl _) hB.size)
  clear hO4 hd3
  have hy : y = 0 ∨ y = 1 ∨ y = 2 ∨ 2 < y := by omega
  clear hy0 hy1
  rcases hy with rfl | rfl | rfl | hy
  · go_wp2_with fail
    refine (r_hurt _ C len cap _ _ (by omega) hd4).mono ?_
    rintro e w5 ⟨q, rfl, hq, hd5, hO5⟩
    replace hB := hB.trans (hO5.below (Nat.le_refl _) hB.size)
    go_wp2
    go_ret
    exact ⟨q, rfl, by omega, hB⟩
  · go_wp2_with fail
    refine (r_below _ C len cap _ _ (by omega) hd4).mono ?_
    rintro e w5 ⟨z, rfl, hz0, hz1, hd5, hO5⟩
    replace hB := hB.trans (hO5.below (Nat.le_refl _) hB.size)
    obtain ⟨Z, rfl⟩ := Int.eq_ofNat_of_zero_le hz0
    by_cases hc : (T.size : Int) ≤ 10 + (Z : Int)
    · go_wp2
      go_ret
      exact ⟨_, rfl, by first | omega | (simp; omega), hB⟩
    · go_wp2
      go_ret
      exact ⟨_, rfl, by first | omega | (simp; omega), hB⟩
  · have hne := BW.some w4
    have C2 : Hid (∀ (n k : Int) (u : World), 0 ≤ k → k ≤ 8 → Calls Try.prog 40 #[.int .i64 n, .int .i64 k] u fun e w' => e = .returned (.string (str (be k.toNat n))) ∧ Below u.heap.size u w') := fun n k u h h' => be_any n k u h h'
    have b2 : ∀ n, (be 2 n).length = 2 := fun n => be_length 2 n
    go_wp2_with fail
    refine wp_region_below (by kernel_rfl) (by kernel_rfl) ?_
    repeat (go_big_quiet_step ((go_at_call 40; exact Calls.into (C2.out _ _ _ (by decide) (by decide)))))
    refine wpQuiet_nil ?_
    intro _ hw'
    obtain ⟨u, hw''⟩ := hw'
    subst hw''
    go_wp2
    go_ret
    exact ⟨_, rfl, by simp [str_size, be_length]; omega, hB.trans (u.le.mono hB.size)⟩
  · have y0 : (y == 0) = false := by simp; omega
    have y1 : (y == 1) = false := by simp; omega
    have y2 : (y == 2) = false := by simp; omega
    go_wp2
    go_ret
    exact ⟨T, rfl, by omega, hB⟩
end Go.Proofs.Ytlpapncgcgllfaa
