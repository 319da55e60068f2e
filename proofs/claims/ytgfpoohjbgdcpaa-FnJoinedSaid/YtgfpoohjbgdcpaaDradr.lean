/-
  The draw of addresses.
-/
import Derived.Test.YtgfpoohjbgdcpaaIps3
import Derived.Test.YtgfpoohjbgdcpaaLawBase
namespace Go.Proofs.Ytgfpoohjbgdcpaa
open Go.RowKit Go.PlainAid
theorem Bx.only {w w' : World} {b g : Nat} {vs : List Value} (h : Bx w g vs) (k : Only b w w') (hg : g ≠ b) : Bx w' g vs :=
  ⟨Nat.lt_of_lt_of_le h.1 k.size, fun i v hv => (k.cell h.1 hg).trans (h.2 i v hv)⟩
set_option maxRecDepth 100000 in
set_option maxHeartbeats 400000 in
theorem r_addr (b : Nat) (C : Option Addr) (len cap : Nat) (w : World) (h : RdI w b C len cap) :
    Calls Try.prog 77 #[.pointer (some ⟨b, 0, none⟩)] w fun e w' => ∃ x : Int, e = .returned (.int .i64 x) ∧ 0 ≤ x ∧ x ≤ 4294967295 ∧ RdI w' b C len cap ∧ Only b w w' := by
  go_enter Try.func77, Try.ntmps77
  go_wp2_with fail
  refine (r_once b C len cap _ _ (by omega) (by omega) h).mono ?_
  rintro e w1 ⟨x, rfl, hR1, hO1⟩
  have hlt := hR1.lt
  cases x
  · go_wp2_with fail
    refine (r_below b C len cap _ _ (by omega) hR1).mono ?_
    rintro e w2 ⟨y, rfl, hy0, hy1, hR2, hO2⟩
    go_wp2_with fail
    refine (r_below b C len cap _ _ (by omega) hR2).mono ?_
    rintro e w3 ⟨z, rfl, hz0, hz1, hR3, hO3⟩
    go_wp2
    go_ret
    exact ⟨_, rfl, by omega, by omega, hR3, hO1.trans (hO2.trans hO3)⟩
  · go_wp2_with fail
    refine (r_below b C len cap _ _ (by omega) (hR1.alloc _)).mono ?_
    rintro e w2 ⟨y, rfl, hy0, hy1, hR2, hO2⟩
    have hc := fun j => hO2.cell (g := w1.heap.size) (j := j) (by simp) (by omega)
    have k0 := hc 0
    have k1 := hc 1
    have k2 := hc 2
    simp at k0 k1 k2
    clear hc
    have hy : y = 0 ∨ y = 1 ∨ y = 2 := by omega
    clear hy0 hy1
    rcases hy with rfl | rfl | rfl
    all_goals
      go_wp2
      go_ret
      exact ⟨_, rfl, by omega, by omega, hR2, (hO1.alloc _).trans hO2⟩

end Go.Proofs.Ytgfpoohjbgdcpaa
