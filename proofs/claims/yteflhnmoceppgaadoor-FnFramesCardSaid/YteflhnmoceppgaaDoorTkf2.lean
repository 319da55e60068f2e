/-
  The reader of frames: its numbers and pieces.
-/
import Derived.Test.YteflhnmoceppgaaDoorTkf1
namespace Go.Proofs.YteflhnmoceppgaaDoor
open Go.RowKit Go.PlainAid
abbrev rdx4 (s : ByteArray) (p : Int) (f : Bool) (h : Int) : List Value := [.string s, .int .i64 p, .bool f, .int .i64 h]
structure Rx4 (w w' : World) (b : Nat) (s : ByteArray) (p : Int) (f : Bool) (h : Int) : Prop where
  box : Bx w' b (rdx4 s p f h)
  free : Fx w' b
  grown : w.grownBy w' (some b)
set_option maxRecDepth 100000 in
set_option maxHeartbeats 1600000 in
theorem i_rdNumber4 (s : ByteArray) (p k : Int) (f : Bool) (hh : Int) (b : Nat) (w : World) (hA : Bx w b (rdx4 s p f hh)) (hF : Fx w b) (hp : 0 ≤ p) (hp2 : p ≤ s.size) (hk : 1 ≤ k) (hk2 : k ≤ 7) (hs2 : s.size ≤ 1099511627776) :
    Calls Tryd.prog 27 #[.pointer (some ⟨b, 0, none⟩), .int .i64 k] w fun e w' => e = .returned (.int .i64 (numAt s p k)) ∧ Rx4 w w' b s (nxP s p k) (nxF s p k f) hh := by
  have C0 : Hid (∀ u : World, Calls Tryd.prog 31 #[.string s, .int .i64 p, .int .i64 k] u fun e w' => e = .returned (.tuple #[.int .i64 (numAt s p k), .bool (okN s p k)]) ∧ w' = u) := fun u => i_NumAt s p k u (by unfold maxLen; omega)
  have HN : Hid (okN s p k = false → numAt s p k = 0) := fun h => by unfold numAt; rw [h]; rfl
  have HK : Hid (okN s p k = decide (p + k ≤ s.size)) := by
    show _ = _
    unfold okN; rw [Bool.eq_iff_iff, decide_eq_true_iff, decide_eq_true_iff]; omega
  have hw : IntKind.i64.wrap (p + k) = p + k := wraps_i64 _ (by omega) (by omega)
  have hne := BW.some w
  have a0 := fun u : BW w => (hA.ofBW u).2 0 _ rfl
  have a1 := fun u : BW w => (hA.ofBW u).2 1 _ rfl
  go_enter Tryd.func27, Tryd.ntmps27
  go_wp2_with fail
  refine wp_region_below (by kernel_rfl) (by kernel_rfl) ?_
  repeat (go_big_quiet_step ((go_at_call 31; exact Calls.into_same (C0.out _))))
  refine wpQuiet_nil ?_
  intro _ hw'
  obtain ⟨u, hw''⟩ := hw'
  subst hw''
  clear a0 a1 hne
  have hbu := u.le
  replace hA := hA.ofBW u
  replace hF := hF.below u.le
  generalize hU : u.u = U at *
  clear hU u
  have a1 := hA.2 1 _ rfl
  have a2 := hA.2 2 _ rfl
  have q1 := hF.2 1
  have q2 := hF.2 2
  by_cases hc : p + k ≤ s.size
  · have HP : Hid (nxP s p k = p + k ∧ nxF s p k f = f) := ⟨if_pos hc, if_pos hc⟩
    rw [decide_eq_true hc] at HK
    rw [HK.out]
    clear HN C0 HK hc
    go_wp2
    go_ret
    rw [HP.out.1, HP.out.2]
    exact ⟨rfl, hA.put 1 _, hF.put _ _, gby_trans (gby_below hbu _) (gby_set _ _ _ _)⟩
  · have HP : Hid (numAt s p k = 0 ∧ nxP s p k = p ∧ nxF s p k f = true) := ⟨HN.out (by rw [HK.out, decide_eq_false hc]), if_neg hc, if_neg hc⟩
    rw [decide_eq_false hc] at HK
    rw [HK.out]
    clear HN C0 HK hc
    go_wp2
    go_ret
    rw [HP.out.1, HP.out.2.1, HP.out.2.2]
    exact ⟨rfl, hA.put 2 _, hF.put _ _, gby_trans (gby_below hbu _) (gby_set _ _ _ _)⟩
set_option maxRecDepth 100000 in
set_option maxHeartbeats 1600000 in
theorem i_rdPiece4 (s : ByteArray) (p k : Int) (f : Bool) (hh : Int) (b : Nat) (w : World) (hA : Bx w b (rdx4 s p f hh)) (hF : Fx w b) (hp : 0 ≤ p) (hp2 : p ≤ s.size) (hk : 0 ≤ k) (hk2 : k ≤ 1099511627776) (hs2 : s.size ≤ 1099511627776) :
    Calls Tryd.prog 28 #[.pointer (some ⟨b, 0, none⟩), .int .i64 k] w fun e w' => e = .returned (.string (pieceAt s p k)) ∧ Rx4 w w' b s (nxP s p k) (nxF s p k f) hh := by
  obtain ⟨n, rfl⟩ : ∃ n : Nat, p = (n : Int) := ⟨p.toNat, by omega⟩
  obtain ⟨m, rfl⟩ : ∃ m : Nat, k = (m : Int) := ⟨k.toNat, by omega⟩
  have hne := BW.some w
  have a0 := fun u : BW w => (hA.ofBW u).2 0 _ rfl
  have a1 := fun u : BW w => (hA.ofBW u).2 1 _ rfl
  have hw1 : wrap64 ((s.size : Int) - (n : Int)) = (s.size : Int) - (n : Int) := by unfold wrap64; omega
  go_enter Tryd.func28, Tryd.ntmps28
  go_wp2_with fail
  refine wp_region_below (by kernel_rfl) (by kernel_rfl) ?_
  repeat (go_big_quiet_step (fail))
  refine wpQuiet_nil ?_
  intro _ hw'
  obtain ⟨u, hw''⟩ := hw'
  subst hw''
  clear a0 a1 hne
  have hbu := u.le
  replace hA := hA.ofBW u
  replace hF := hF.below u.le
  generalize hU : u.u = U at *
  clear hU u
  have a1 := hA.2 1 _ rfl
  have a2 := hA.2 2 _ rfl
  have q1 := hF.2 1
  have q2 := hF.2 2
  by_cases hc : (n : Int) + (m : Int) ≤ s.size
  · have HP : Hid (nxP s n m = n + m ∧ nxF s n m f = f ∧ pieceAt s n m = s.extract n (n + m)) := ⟨if_pos hc, if_pos hc, by unfold pieceAt; rw [if_pos hc]; congr 1⟩
    have hc2 : ¬ ((s.size : Int) - (n : Int) < (m : Int)) := by omega
    have hw2 : wrap64 ((n : Int) + (m : Int)) = (n : Int) + (m : Int) := by unfold wrap64; omega
    go_wp2_with fail
    have hA2 := hA.put 1 (.int .i64 ((n : Int) + (m : Int)))
    have hF2 := hF.put ⟨b, 1, none⟩ (.int .i64 ((n : Int) + (m : Int)))
    have hG := gby_trans (gby_below hbu (some b)) (gby_set U b 1 (.int .i64 ((n : Int) + (m : Int))))
    generalize U.setCell ⟨b, 1, none⟩ (.int .i64 ((n : Int) + (m : Int))) = V at *
    clear a1 a2 q1 q2 hA hF
    have hne := BW.some V
    have a0 := fun u : BW V => (hA2.ofBW u).2 0 _ rfl
    have a1 := fun u : BW V => (hA2.ofBW u).2 1 _ rfl
    refine wp_region_below (by kernel_rfl) (by kernel_rfl) ?_
    repeat (go_big_quiet_step (fail))
    go_big_quiet_step (exact Calls.into (c_Clone _ _ (by simp; omega)))
    repeat (go_big_quiet_step (fail))
    refine wpQuiet_nil ?_
    intro _ hw'
    obtain ⟨u, hw''⟩ := hw'
    subst hw''
    clear a0 a1 hne
    go_wp2
    go_ret
    rw [HP.out.1, HP.out.2.1, HP.out.2.2]
    exact ⟨rfl, hA2.ofBW u, hF2.below u.le, gby_trans hG (gby_below u.le _)⟩
  · have HP : Hid (pieceAt s n m = ⟨#[]⟩ ∧ nxP s n m = n ∧ nxF s n m f = true) := ⟨if_neg hc, if_neg hc, if_neg hc⟩
    have hc2 : (s.size : Int) - (n : Int) < (m : Int) := by omega
    clear hc
    go_wp2
    go_ret
    rw [HP.out.1, HP.out.2.1, HP.out.2.2]
    exact ⟨rfl, hA.put 2 _, hF.put _ _, gby_trans (gby_below hbu _) (gby_set _ _ _ _)⟩
end Go.Proofs.YteflhnmoceppgaaDoor
