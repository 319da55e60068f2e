/-
  Contracts of the reader of a frame's bytes.
-/
import Derived.Test.YtlpapncgcgllfaaFrames10
namespace Go.Proofs.Ytlpapncgcgllfaa
open Go.RowKit Go.PlainAid
/-- the reader's cells -/
abbrev rdv (s : ByteArray) (p : Int) (f : Bool) : List Value := [.string s, .int .i64 p, .bool f]
/-- where the reader stands behind a number, and whether it has failed -/
def nextP (s : ByteArray) (p k : Int) : Int := if okN s p k then p + k else p
def nextF (s : ByteArray) (p k : Int) (f : Bool) : Bool := if okN s p k then f else true
theorem Free.by {w w' : World} {b : Nat} {r : Option Nat} (h : Free w b) (hb : b < w.heap.size) (k : w.grownBy w' r) (hr : ∀ i, r = some i → i ≠ b) : Free w' b :=
  ⟨Nat.lt_of_lt_of_le hb k.size, fun j => (World.frozen?_of_block (w := w) (a := ⟨b, j, none⟩) (k.block b hb fun e => hr b e.symm rfl)).trans (h.2 j)⟩
theorem grownBy_setCell (w : World) (b j : Nat) (u : Value) : w.grownBy (w.setCell ⟨b, j, none⟩ u) (some b) :=
  ⟨rfl, rfl, rfl, by simp, fun k _ hr => Below.heap_setCell _ _ _ _ fun e => hr (by rw [e])⟩
/-- what a call leaves of the reader -/
structure RdTo (w w' : World) (b : Nat) (s : ByteArray) (p : Int) (f : Bool) : Prop where
  box : Box w' b (rdv s p f)
  free : Free w' b
  grown : w.grownBy w' (some b)

set_option maxRecDepth 100000 in
set_option maxHeartbeats 1600000 in
theorem i_number (s : ByteArray) (p k : Int) (f : Bool) (b : Nat) (w : World) (hA : Box w b (rdv s p f)) (hF : Free w b) (hs : s.size ≤ maxLen) (hp : 0 ≤ p) (hp2 : p ≤ s.size) (hk : 1 ≤ k) (hk2 : k ≤ 7) (hs2 : s.size ≤ 1099511627776) :
    Calls Try.prog 28 #[.pointer (some ⟨b, 0, none⟩), .int .i64 k] w fun e w' => e = .returned (.int .i64 (numAt s p k)) ∧ RdTo w w' b s (nextP s p k) (nextF s p k f) := by
  have C0 : Hid (∀ u : World, Calls Try.prog 52 #[.string s, .int .i64 p, .int .i64 k] u fun e w' => e = .returned (.tuple #[.int .i64 (numAt s p k), .bool (okN s p k)]) ∧ w' = u) := fun u => i_NumAt s p k u hs
  have hN : okN s p k = false → numAt s p k = 0 := fun h => by unfold numAt; rw [h]; rfl
  have HN : Hid (okN s p k = false → numAt s p k = 0) := hN
  have hw : IntKind.i64.wrap (p + k) = p + k := wraps_i64 _ (by omega) (by omega)
  clear hN
  have hne := BW.some w
  have a0 := fun u : BW w => (BW.box hA u).2 0 _ rfl
  have a1 := fun u : BW w => (BW.box hA u).2 1 _ rfl
  go_enter Try.func28, Try.ntmps28
  go_wp2_with fail
  refine wp_region_below (by kernel_rfl) (by kernel_rfl) ?_
  repeat (go_big_quiet_step ((go_at_call 52; exact Calls.into_same (C0.out _))))
  refine wpQuiet_nil ?_
  intro _ hw'
  obtain ⟨u, hw''⟩ := hw'
  subst hw''
  clear a0 a1 hne
  have hbu := u.le
  replace hA := BW.box hA u
  replace hF := hF.below u.le
  generalize hU : u.u = U at *
  clear hU u
  have a1 := hA.2 1 _ rfl
  have a2 := hA.2 2 _ rfl
  have q1 := hF.2 1
  have q2 := hF.2 2
  cases hok : okN s p k
  · have HP : Hid (numAt s p k = 0 ∧ nextP s p k = p ∧ nextF s p k f = true) := ⟨HN.out hok, by unfold nextP; rw [hok]; rfl, by unfold nextF; rw [hok]; rfl⟩
    clear hok HN C0
    go_wp2
    go_ret
    rw [HP.out.1, HP.out.2.1, HP.out.2.2]
    exact ⟨rfl, hA.set 2 _, hF.set _ _, grownBy_trans (Below.by hbu _) (grownBy_setCell _ _ _ _)⟩
  · have HP : Hid (nextP s p k = p + k ∧ nextF s p k f = f) := ⟨by unfold nextP; rw [hok]; rfl, by unfold nextF; rw [hok]; rfl⟩
    clear hok HN C0
    go_wp2
    go_ret
    rw [HP.out.1, HP.out.2]
    exact ⟨rfl, hA.set 1 _, hF.set _ _, grownBy_trans (Below.by hbu _) (grownBy_setCell _ _ _ _)⟩

theorem numAt_lt (s : ByteArray) (p k : Int) : 0 ≤ numAt s p k := by
  unfold numAt; split
  · exact (num_bounds _).1
  · exact Int.le_refl _
theorem nextP_in {s : ByteArray} {p k : Int} (h : 0 ≤ p) (h2 : p ≤ s.size) (hk : 1 ≤ k) : 0 ≤ nextP s p k ∧ nextP s p k ≤ s.size := by
  unfold nextP okN
  by_cases e : (1 ≤ k ∧ k ≤ 7 ∧ 0 ≤ p ∧ p + k ≤ s.size)
  · rw [decide_eq_true e, if_pos rfl]; omega
  · rw [decide_eq_false e]; exact ⟨h, h2⟩

set_option maxRecDepth 100000 in
set_option maxHeartbeats 1600000 in
theorem i_rest (s : ByteArray) (p : Int) (f : Bool) (b : Nat) (w : World) (hA : Box w b (rdv s p f)) (hp : 0 ≤ p) (hp2 : p ≤ s.size) (hs2 : s.size ≤ 1099511627776) :
    Calls Try.prog 30 #[.pointer (some ⟨b, 0, none⟩)] w fun e w' => e = .returned (.string (s.extract p.toNat s.size)) ∧ Below w.heap.size w w' := by
  obtain ⟨n, rfl⟩ : ∃ n : Nat, p = (n : Int) := ⟨p.toNat, by omega⟩
  have hne := BW.some w
  have a0 := fun u : BW w => (BW.box hA u).2 0 _ rfl
  have a1 := fun u : BW w => (BW.box hA u).2 1 _ rfl
  go_enter Try.func30, Try.ntmps30
  go_wp2_with fail
  refine wp_region_below (by kernel_rfl) (by kernel_rfl) ?_
  repeat (go_big_quiet_step (fail))
  go_big_quiet_step (exact Calls.into (c_Clone _ _ (by simp; omega)))
  repeat (go_big_quiet_step (fail))
  refine wpQuiet_nil ?_
  intro _ hw'
  obtain ⟨u, hw''⟩ := hw'
  subst hw''
  clear a0 a1 hne
  have hbu := u.le
  go_wp2
  go_ret
  exact ⟨by simp, hbu⟩
end Go.Proofs.Ytlpapncgcgllfaa
