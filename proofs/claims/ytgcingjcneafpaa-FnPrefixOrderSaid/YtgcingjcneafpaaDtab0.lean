/-
  Draws of keys, addresses, acts.
-/
import Derived.Test.YtgcingjcneafpaaLawBase
namespace Go.Proofs.Ytgcingjcneafpaa
open Go.RowKit Go.PlainAid
theorem OnlyC {b g j : Nat} {w w' : World} (h : Only b w w') (hg : g < w.heap.size) (hne : g ≠ b) : w'.cell? ⟨g, j, none⟩ = w.cell? ⟨g, j, none⟩ := World.cell?_of_block (h.block g hg (by simp; omega))
theorem below_onlyT {b : Nat} {w w' : World} (h : Below w.heap.size w w') : Only b w w' := ⟨h.os, h.tape, h.output, h.size, fun i hi _ => h.block i hi⟩
theorem only_far {b : Nat} {w w1 w' : World} (h : Only b w w1) (hb : Below w.heap.size w1 w') : Only b w w' :=
  ⟨hb.os.trans h.os, hb.tape.trans h.tape, hb.output.trans h.output, Nat.le_trans h.size hb.size, fun i hi hne => (hb.block i hi).trans (h.block i hi hne)⟩
set_option maxRecDepth 100000 in
set_option maxHeartbeats 800000 in
theorem r_addrT (b : Nat) (C : Option Addr) (len cap : Nat) (w : World) (h : RdI w b C len cap) :
    Calls Try.prog 39 #[.pointer (some ⟨b, 0, none⟩)] w fun e w' => ∃ x : Int, e = .returned (.int .i64 x) ∧ 0 ≤ x ∧ x ≤ 4294967295 ∧ RdI w' b C len cap ∧ Only b w w' := by
  go_enter Try.func39, Try.ntmps39
  go_wp2_with fail
  refine (r_once b C len cap _ _ (by omega) (by omega) h).mono ?_
  rintro e w1 ⟨x, rfl, hR1, hO1⟩
  have hlt := hR1.lt
  cases x
  · go_wp2_with fail
    refine (r_below b C len cap _ _ (by omega) hR1).mono ?_
    rintro e w2 ⟨y, rfl, hy0, hy1, hR2, hO2⟩
    go_wp2_with fail
    refine (r_below b C len cap _ _ (by omega) hR2).mono ?_
    rintro e w3 ⟨z, rfl, hz0, hz1, hR3, hO3⟩
    go_wp2
    go_ret
    exact ⟨_, rfl, by omega, by omega, hR3, hO1.trans (hO2.trans hO3)⟩
  · go_wp2_with fail
    refine (r_below b C len cap _ _ (by omega) (hR1.alloc _)).mono ?_
    rintro e w2 ⟨y, rfl, hy0, hy1, hR2, hO2⟩
    have hc := fun j => OnlyC hO2 (g := w1.heap.size) (j := j) (by simp) (by omega)
    have k0 := hc 0
    have k1 := hc 1
    have k2 := hc 2
    simp at k0 k1 k2
    clear hc
    have hy : y = 0 ∨ y = 1 ∨ y = 2 := by omega
    clear hy0 hy1
    rcases hy with rfl | rfl | rfl
    all_goals
      go_wp2
      go_ret
      exact ⟨_, rfl, by omega, by omega, hR2, (hO1.alloc _).trans hO2⟩
set_option maxRecDepth 100000 in
set_option maxHeartbeats 800000 in
theorem r_some (b : Nat) (C : Option Addr) (len cap : Nat) (w : World) (h : RdI w b C len cap) :
    Calls Try.prog 38 #[.pointer (some ⟨b, 0, none⟩)] w fun e w' => ∃ x : Int, e = .returned (.int .i64 x) ∧ RdI w' b C len cap ∧ Only b w w' := by
  go_enter Try.func38, Try.ntmps38
  go_wp2_with fail
  refine (r_once _ C len cap _ _ (by omega) (by omega) h).mono ?_
  rintro e w2 ⟨t, rfl, hR2, hO2⟩
  cases t
  · go_wp2_with fail
    refine (r_below _ C len cap _ _ (by omega) hR2).mono ?_
    rintro e w3 ⟨x, rfl, hx0, hx1, hR3, hO3⟩
    go_wp2
    go_ret
    exact ⟨_, rfl, hR3, hO2.trans hO3⟩
  · go_wp2_with fail
    refine (r_off _ C len cap _ _ _ (by omega) (by omega) (by omega) (by omega) hR2).mono ?_
    rintro e w3 ⟨x, rfl, hx0, hx1, hR3, hO3⟩
    go_wp2
    go_ret
    exact ⟨x, rfl, hR3, hO2.trans hO3⟩
end Go.Proofs.Ytgcingjcneafpaa
