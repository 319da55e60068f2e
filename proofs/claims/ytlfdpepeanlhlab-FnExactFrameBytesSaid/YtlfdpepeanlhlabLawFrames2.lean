/-
  The walk of the exact law on the bytes of frames.
-/
import Derived.Test.YtlfdpepeanlhlabFrames4
import Derived.Deep.RegionWith
namespace Go.Proofs.Ytlfdpepeanlhlab
open Go.RowKit Go.PlainAid
set_option maxRecDepth 100000 in
set_option maxHeartbeats 1600000 in
theorem walk_FnExactFrameBytes (d s : Int) (T : Option Addr) (c : Nat) (l : List Int) (t : Int) (x : ByteArray) (w : World) (h : IntsAt w T l) (hl : l.length ≤ maxLen) (hx : x.size ≤ maxLen) :
    Calls Try.prog 8 #[.agg #[.int .i64 d, .int .i64 s, .slice T l.length c, .int .i64 t, .string x]] w fun e w' => e = .returned (.bool true) ∧ Below w.heap.size w w' := by
  unfold maxLen at hl hx
  have hb0 : Below w.heap.size w (w.alloc (.cells #[.int .i64 d, .int .i64 s, .slice T l.length c, .int .i64 t, .string x] 44)) := (Below.refl _ w).alloc (Nat.le_refl _) _
  by_cases hz : 1048576 < l.length + x.size
  · go_enter Try.func8, Try.ntmps8
    go_wp2_with fail
    refine (l_szFrame_no d s T l.length c t x _ hz (by omega) (by omega)).mono ?_
    rintro e w1 ⟨rfl, hb1⟩
    go_wp2
    go_ret
    exact ⟨rfl, hb0.trans (hb1.mono (by simp))⟩
  · have hA := Box.new w #[.int .i64 d, .int .i64 s, .slice T l.length c, .int .i64 t, .string x] 44
    have hI := h.alloc (.cells #[.int .i64 d, .int .i64 s, .slice T l.length c, .int .i64 t, .string x] 44)
    go_enter Try.func8, Try.ntmps8
    go_wp2_with fail
    refine (l_szFrame_yes d s T l.length c t x _ (by omega)).mono ?_
    rintro e w1 ⟨rfl, hb1⟩
    have hB := hb0.trans (hb1.mono (by simp))
    replace hA := hA.below hb1
    replace hI := hI.below hb1
    clear hb1 hb0 h
    have a0 := hA.2 0 _ rfl
    have a1 := hA.2 1 _ rfl
    have a2 := hA.2 2 _ rfl
    have a3 := hA.2 3 _ rfl
    have a4 := hA.2 4 _ rfl
    go_wp2_with fail
    refine (l_toFrame d s T c l t x _ hI (by omega)).mono ?_
    rintro e w2 ⟨g1, rfl, ho1, hb2⟩
    have hi1 := ho1.reads.2
    go_wp2_with fail
    refine (s_FrameBytes d s _ _ l t x _ hi1 (by omega) (by omega)).mono ?_
    rintro e w3 ⟨rfl, hb3⟩
    have hb23 := hb2.trans (hb3.mono hb2.size)
    replace hB := hB.trans (hb23.mono hB.size)
    replace hA := hA.below hb23
    replace hI := hI.below hb23
    clear hb2 hb3 hb23 ho1 hi1 a0 a1 a2 a3 a4
    have a0 := hA.2 0 _ rfl
    have a1 := hA.2 1 _ rfl
    have a2 := hA.2 2 _ rfl
    have a3 := hA.2 3 _ rfl
    have a4 := hA.2 4 _ rfl
    go_wp2_with fail
    refine (l_toFrame d s T c l t x _ hI (by omega)).mono ?_
    rintro e w4 ⟨g2, rfl, ho2, hb4⟩
    have hi2 := ho2.reads.2
    replace hB := hB.trans (hb4.mono hB.size)
    replace hA := hA.below hb4
    replace hI := hI.below hb4
    clear hb4 ho2 a0 a1 a2 a3 a4
    have hX := Box.new w4 #[.int .i64 d, .int .i64 s, .slice (some ⟨g2, 0, none⟩) l.length l.length, .int .i64 t, .string x] 26
    have hb5 : Below w4.heap.size w4 (w4.alloc (.cells #[.int .i64 d, .int .i64 s, .slice (some ⟨g2, 0, none⟩) l.length l.length, .int .i64 t, .string x] 26)) := (Below.refl _ _).alloc (Nat.le_refl _) _
    go_wp2_with fail
    refine (i_FrameBytes d s _ _ l t x _ (hi2.below hb5) (by omega) (by omega)).mono ?_
    rintro e w6 ⟨rfl, hb6⟩
    replace hX := hX.below hb6
    have hb56 := hb5.trans (hb6.mono (by simp))
    replace hB := hB.trans (hb56.mono hB.size)
    replace hA := hA.below hb56
    replace hI := hI.below hb56
    replace hi2 := hi2.below hb56
    clear hb5 hb6 hb56
    have a0 := hA.2 0 _ rfl
    have a1 := hA.2 1 _ rfl
    have a2 := hA.2 2 _ rfl
    have a3 := hA.2 3 _ rfl
    have a4 := hA.2 4 _ rfl
    have x0 := hX.2 0 _ rfl
    have x1 := hX.2 1 _ rfl
    have x2 := hX.2 2 _ rfl
    have x3 := hX.2 3 _ rfl
    have x4 := hX.2 4 _ rfl
    go_wp2_with fail
    go_region_with (first
      | (go_at_call 38; refine (l_toFrame d s T c l t x _ hI.drew (by omega)).mono ?_; rintro e w7 ⟨g3, rfl, ho3, hb7⟩; have hi3 := ho3.reads.2; have hi4 := hi2.drew.below hb7; have hX7 := hX.drew.below hb7; have y0 := hX7.2 0 _ rfl; have y1 := hX7.2 1 _ rfl; have y2 := hX7.2 2 _ rfl; have y3 := hX7.2 3 _ rfl; have y4 := hX7.2 4 _ rfl)
      | (go_at_call 39; refine (l_eqFrame d s _ _ _ _ l t x _ hi4 hi3 (by omega)).mono ?_; rintro e w8 ⟨rfl, hb8⟩))
    all_goals
      go_wp2
      go_ret
      exact ⟨rfl, hB.trans ((((Below.refl _ _).drew).trans (hb7.trans (hb8.mono hb7.size))).mono hB.size)⟩
end Go.Proofs.Ytlfdpepeanlhlab
