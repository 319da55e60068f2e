/-
  Contracts of texts that are hurt, and of the digits that are drawn.
-/
import Derived.Test.YteflhnmoceppgaaDoorDraw3
import Derived.Test.YteflhnmoceppgaaDoorWalks6
import Derived.Test.YteflhnmoceppgaaDoorStrs
import Derived.Deep.RegionWith
namespace Go.Proofs.YteflhnmoceppgaaDoor
open Go.RowKit

/-- two tables of four texts of one byte -/
abbrev tabA : Array Value := #[.string ⟨#[0]⟩, .string ⟨#[55]⟩, .string ⟨#[255]⟩, .string ⟨#[32]⟩]
abbrev tabB : Array Value := #[.string ⟨#[0]⟩, .string ⟨#[49]⟩, .string ⟨#[10]⟩, .string ⟨#[32]⟩]
theorem tabA_at (z : Nat) (h : z < 4) : ∃ v : ByteArray, v.size ≤ 1 ∧ tabA[z]? = some (.string v) := by
  have : z = 0 ∨ z = 1 ∨ z = 2 ∨ z = 3 := by omega
  rcases this with rfl | rfl | rfl | rfl <;> exact ⟨_, by decide, rfl⟩
theorem tabB_at (z : Nat) (h : z < 4) : ∃ v : ByteArray, v.size ≤ 1 ∧ tabB[z]? = some (.string v) := by
  have : z = 0 ∨ z = 1 ∨ z = 2 ∨ z = 3 := by omega
  rcases this with rfl | rfl | rfl | rfl <;> exact ⟨_, by decide, rfl⟩
theorem alloc_at (W : World) (T : Array Value) (t : TypeId) (z : Nat) (v : Value) (h : T[z]? = some v) : (W.alloc (.cells T t)).cell? ⟨W.heap.size, z, none⟩ = some v := by
  rw [World.cell?_alloc_mark]; exact h

theorem after_call {b : Nat} {w2 w3 : World} {T : Array Value} {t : TypeId} {Z : Nat} {v : Value} (hO3 : Only b (w2.alloc (.cells T t)).drew w3) (hb : b < w2.heap.size) (hvc : T[Z]? = some v) : w3.cell? ⟨w2.heap.size, Z, none⟩ = some v := by
  have h := hO3.cell (g := w2.heap.size) (j := Z) (by show _ < (w2.alloc _).heap.size; simp) (by omega)
  exact h.trans (alloc_at w2 T t Z v hvc)
set_option maxRecDepth 100000 in
set_option maxHeartbeats 1600000 in
theorem r_hurt (b : Nat) (C : Option Addr) (len cap : Nat) (s : ByteArray) (w : World) (hs : s.size ≤ 1099511627776) (h : RdI w b C len cap) :
    Calls Tryd.prog 15 #[.pointer (some ⟨b, 0, none⟩), .string s] w fun e w' => ∃ t : ByteArray, e = .returned (.string t) ∧ t.size ≤ s.size + 1 ∧ RdI w' b C len cap ∧ Only b w w' := by
  go_enter Tryd.func15, Tryd.ntmps15
  go_wp2_with fail
  refine (r_below b C len cap _ _ (by omega) h).mono ?_
  rintro e w1 ⟨x, rfl, hx0, hx1, hR1, hO1⟩
  have hlt := hR1.lt
  by_cases e1 : x = 1
  · subst e1
    go_wp2_with fail
    refine (r_below b C len cap _ _ (by omega) hR1).mono ?_
    rintro e w2 ⟨y, rfl, hy0, hy1, hR2, hO2⟩
    obtain ⟨k, rfl⟩ := Int.eq_ofNat_of_zero_le hy0
    have hk : (k : Int) ≤ (s.size : Int) := by omega
    go_wp2
    go_ret
    exact ⟨_, rfl, by simp; omega, hR2, hO1.trans hO2⟩
  · by_cases e2 : x = 2
    · subst e2
      by_cases hz : s.size = 0
      · have hz' : ¬ (0 : Int) < (s.size : Int) := by omega
        have Hz : Hid (s.size = 0) := hz
        clear hz
        go_wp2
        go_ret
        exact ⟨s, rfl, by omega, hR1, hO1⟩
      · go_wp2_with fail
        refine (r_below b C len cap _ _ (by omega) hR1).mono ?_
        rintro e w2 ⟨y, rfl, hy0, hy1, hR2, hO2⟩
        obtain ⟨k, rfl⟩ := Int.eq_ofNat_of_zero_le hy0
        have hk : (k : Int) < (s.size : Int) := by omega
        clear hy1 hz
        go_wp2_with fail
        have hk1 : (k : Int) ≤ (s.size : Int) := by omega
        have hk2 : (k : Int) + 1 ≤ (s.size : Int) := by omega
        have hk3 : IntKind.i64.wrap ((k : Int) + 1) = (k : Int) + 1 := wraps_i64 _ (by omega) (by omega)
        have hk4 : 0 ≤ (k : Int) + 1 := by omega
        have hlt2 := hR2.lt
        go_region_with (go_at_call 12; refine (r_below b C len cap _ _ (by omega) (by first | exact hR2.drew | exact (hR2.alloc _).drew)).mono ?_; rintro e w3 ⟨z, rfl, hz0, hz1, hR3, hO3⟩; obtain ⟨Z, rfl⟩ := Int.eq_ofNat_of_zero_le hz0; obtain ⟨v, hv, hvc⟩ := tabA_at Z (by omega); have f1 := fun W => alloc_at W tabA 9 Z _ hvc; have hz4 : (Z : Int) < 4 := (by omega); try have f2 := after_call hO3 hlt2 hvc)
        all_goals
          go_wp2
          go_ret
          refine ⟨_, rfl, by simp; omega, ?_, ?_⟩
          · first | exact hR3 | exact hR3.alloc _
          · first | exact hO1.trans (hO2.trans (((Only.refl _ _).alloc _).drew.trans hO3)) | exact hO1.trans (hO2.trans ((Only.refl _ _).drew.trans (hO3.alloc _)))
    · by_cases e3 : x = 3
      · subst e3
        go_wp2_with fail
        refine (r_below b C len cap _ _ (by omega) (hR1.alloc _)).mono ?_
        rintro e w3 ⟨z, rfl, hz0, hz1, hR3, hO3⟩
        obtain ⟨Z, rfl⟩ := Int.eq_ofNat_of_zero_le hz0
        obtain ⟨v, hv, hvc⟩ := tabB_at Z (by omega)
        have f2 : w3.cell? ⟨w1.heap.size, Z, none⟩ = some (.string v) := (hO3.cell (g := w1.heap.size) (j := Z) (by simp) (by omega)).trans (alloc_at w1 tabB 9 Z _ hvc)
        have hz4 : (Z : Int) < 4 := by omega
        go_wp2
        go_ret
        exact ⟨_, rfl, by simp; omega, hR3, hO1.trans (((Only.refl _ _).alloc _).trans hO3)⟩
      · go_wp2
        go_ret
        exact ⟨s, rfl, by omega, hR1, hO1⟩

theorem RdI.far {w w' : World} {b : Nat} {C : Option Addr} {len cap : Nat} (h : RdI w b C len cap) (hb : Below w.heap.size w w') : RdI w' b C len cap := h.kept (hb.mono (by have := h.lt; omega))
theorem Only.far {b : Nat} {w w' w'' : World} (h : Only b w w') (k : Below w'.heap.size w' w'') : Only b w w'' := h.beyond (B := w'.heap.size) h.size k

end Go.Proofs.YteflhnmoceppgaaDoor
