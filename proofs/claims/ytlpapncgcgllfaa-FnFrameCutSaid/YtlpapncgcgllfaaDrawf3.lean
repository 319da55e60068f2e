/-
  Frames held against each other; the drawn frames of the laws on tags.
-/
import Derived.Test.YtlpapncgcgllfaaDrawf2
namespace Go.Proofs.Ytlpapncgcgllfaa
open Go.RowKit Go.PlainAid
set_option maxRecDepth 100000 in
set_option maxHeartbeats 800000 in
theorem l_sameInts (T U : Option Addr) (c e : Nat) (l : List Int) (w : World) (h : IntsAt w T l) (k : IntsAt w U l) (hl : l.length ≤ 1099511627776) :
    Calls Try.prog 41 #[.slice T l.length c, .slice U l.length e] w fun e w' => e = .returned (.bool true) ∧ Below w.heap.size w w' := by
  have hne : ((l.length : Int) != (l.length : Int)) = false := by simp
  go_enter Try.func41, Try.ntmps41
  go_wp2
  go_loopw [5] (fun i wr => ∃ j : Nat, j ≤ l.length ∧ i = .int .i64 (j : Int) ∧ ∃ n, wr = w.drewN n) (fun i _ => ((l.length : Int) - intOf i).toNat)
  case atStart => exact ⟨0, by omega, rfl, 0, rfl⟩
  case round =>
    obtain ⟨j, hj, rfl, n, rfl⟩ := hrel
    by_cases hlt : j < l.length
    · rcases h with h | ⟨g, off, rfl, hg, hc⟩
      · rw [h] at hlt; simp at hlt
      · rcases k with k | ⟨g2, off2, rfl, hg2, hc2⟩
        · rw [k] at hlt; simp at hlt
        · have hcell := hc j hlt
          have hcell2 := hc2 j hlt
          have hj1 : (j : Int) < (l.length : Int) := by omega
          clear hc hc2
          go_wp2
          go_quiet (fail)
          go_wp2
          go_roundw
          case rel => exact ⟨j + 1, by omega, by go_num, _, rfl⟩
          case measure => simp [intOf]; omega
    · go_wp2
      go_ret
      exact ⟨rfl, ⟨rfl, rfl, rfl, Nat.le_refl _, fun _ _ => rfl⟩⟩
set_option maxRecDepth 100000 in
set_option maxHeartbeats 800000 in
theorem l_sameFrame (d s : Int) (T U : Option Addr) (c e : Nat) (l : List Int) (t : Int) (x : ByteArray) (w : World) (h : IntsAt w T l) (k : IntsAt w U l) (hl : l.length ≤ 1099511627776) :
    Calls Try.prog 17 #[.agg #[.int .i64 d, .int .i64 s, .slice T l.length c, .int .i64 t, .string x], .agg #[.int .i64 d, .int .i64 s, .slice U l.length e, .int .i64 t, .string x]] w fun e w' => e = .returned (.bool true) ∧ Below w.heap.size w w' := by
  go_enter Try.func17, Try.ntmps17
  go_wp2_with fail
  refine (l_sameInts T U c e l _ ((h.alloc _).alloc _) ((k.alloc _).alloc _) hl).mono ?_
  rintro e w1 ⟨rfl, hb⟩
  have hB : Below w.heap.size w w1 := (((Below.refl _ w).alloc (Nat.le_refl _) _).alloc (by simp) _).trans (hb.mono (by simp; omega))
  obtain ⟨hc, hf⟩ := bcell hb
  clear hb
  go_wp2
  go_ret
  exact ⟨by simp, hB⟩

set_option maxRecDepth 100000 in
set_option maxHeartbeats 1600000 in
theorem d_Tagged (B : Nat) (C : Option Addr) (len cap : Nat) (w : World) (h : Code w B C len) :
    Calls Try.prog 22 #[.slice C len cap] w fun e w' => ∃ (d s : Int) (v : Value) (l : List Int) (t : Int) (x : ByteArray) (g : Int), e = .returned (.tuple #[.agg #[.int .i64 d, .int .i64 s, v, .int .i64 t, .string x], .int .i64 g]) ∧ ownI w' w.heap.size v l ∧ l.length ≤ 3 ∧ x.size ≤ 65600 ∧ Below w.heap.size w w' := by
  have hB0 : Below w.heap.size w (w.alloc (.cells fr0 24)) := (Below.refl _ w).alloc (Nat.le_refl _) _
  have hC0 := h.below (hB0.mono h.2.1)
  have hR : Fb (w.alloc (.cells fr0 24)) w.heap.size fr0 := Fb.new w _
  have hs0 : (w.alloc (.cells fr0 24)).heap.size = w.heap.size + 1 := by simp
  go_enter Try.func22, Try.ntmps22
  go_wp2_with fail
  generalize w.alloc (.cells fr0 24) = w0 at *
  refine (r_Open B C len cap _ hC0).mono ?_
  rintro e w1 ⟨rfl, hd1, hb1, hs1⟩
  rw [hs0] at hd1 hs1 ⊢
  replace hR := hR.below hb1
  replace hB0 := hB0.trans (hb1.mono hB0.size)
  clear hb1 hs0 hC0 h
  have hneR : w.heap.size ≠ w.heap.size + 1 := by omega
  go_wp2_with fail
  refine (r_frame _ C len cap _ hd1).mono ?_
  rintro e w2 ⟨d, s, v, l, t, x, rfl, ho2, hl2, hx2, hd2, hO2⟩
  replace hR := hR.only hO2 hneR
  replace hB0 := hB0.trans (hO2.below (by omega) hB0.size)
  have hz2 := hO2.size
  clear hO2 hd1
  go_wp2_with fail
  refine (r_hurtFrame _ w1.heap.size C len cap d s v l t x _ hd2 ho2 (by omega) hz2 (by omega) hx2).mono ?_
  rintro e w3 ⟨d, s, v, l', t, x, rfl, ho3, hl3, hx3, hd3, hb3⟩
  have hR3 : Fb w3 w.heap.size fr0 := (hb3.block _ (by omega)).trans hR
  replace hB0 := hB0.trans (hb3.mono (by omega))
  clear hb3 hR ho2 hd2
  go_wp2_with fail
  refine (r_off _ C len cap _ _ _ (by omega) (by omega) (by omega) (by omega) hd3).mono ?_
  rintro e w4 ⟨g, rfl, _, _, hd4, hO4⟩
  replace hR3 := hR3.only hO4 hneR
  replace hB0 := hB0.trans (hO4.below (by omega) hB0.size)
  have ho4 := ownI.by ho3 hO4 (by omega)
  have hnR := own_ne ho4 hR3
  clear hO4 hd3 ho3
  have r0 := hR3.cell 0 _ rfl
  have r1 := hR3.cell 1 _ rfl
  have r2 := hR3.cell 2 _ rfl
  have r3 := hR3.cell 3 _ rfl
  have r4 := hR3.cell 4 _ rfl
  have rf := hR3.frozen
  obtain ⟨Tv, cv, rfl⟩ := ho4.form
  go_wp2
  refine bodyPost_ret (v := .tuple #[.agg #[.int .i64 d, .int .i64 s, .slice Tv l'.length cv, .int .i64 t, .string x], .int .i64 g]) ?_ rfl ⟨d, s, _, l', t, x, g, rfl, ?_, by omega, hx3, ?_⟩
  · simp [results, Try.results22, go_sem, r0, r1, r2, r3, r4]
  · iterate 5 (refine ownsRow_setCell_other ?_ hnR _)
    exact ho4.mono (by omega)
  · go_grown
end Go.Proofs.Ytlpapncgcgllfaa
