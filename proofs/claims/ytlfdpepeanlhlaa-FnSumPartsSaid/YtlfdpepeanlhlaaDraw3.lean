/-
  Contracts of what is drawn for the laws of chapter 1.
-/
import Derived.Test.YtlfdpepeanlhlaaDraw2
namespace Go.Proofs.Ytlfdpepeanlhlaa
open Go.RowKit

/-- a code that was handed in: its bytes lie below block B -/
def Code (w : World) (B : Nat) (C : Option Addr) (len : Nat) : Prop := len ≤ 1048576 ∧ B ≤ w.heap.size ∧ codeAt w B C len
theorem codeAt.mono {w : World} {b b' : Nat} {C : Option Addr} {len : Nat} (h : codeAt w b C len) (hb : b ≤ b') : codeAt w b' C len := by
  rcases h with h | ⟨g, off, h1, h2, h3⟩
  · exact .inl h
  · exact .inr ⟨g, off, h1, by omega, h3⟩
theorem Code.below {w w' : World} {B : Nat} {C : Option Addr} {len : Nat} (h : Code w B C len) (hb : Below B w w') : Code w' B C len :=
  ⟨h.1, Nat.le_trans h.2.1 hb.size, h.2.2.below hb⟩

set_option maxRecDepth 100000 in
theorem r_Open (B : Nat) (C : Option Addr) (len cap : Nat) (w : World) (h : Code w B C len) :
    Calls Try.prog 35 #[.slice C len cap] w fun e w' => e = .returned (.pointer (some ⟨w.heap.size, 0, none⟩)) ∧ RdI w' w.heap.size C len cap ∧ Below w.heap.size w w' ∧ w.heap.size < w'.heap.size := by
  obtain ⟨h0, h1, h2⟩ := h
  go_enter Try.func35, Try.ntmps35
  go_wp2
  go_ret
  have hb : Below w.heap.size w (w.alloc (.cells #[.slice C len cap, .int .i64 0] 61)) := (Below.refl _ w).alloc (Nat.le_refl _) _
  refine ⟨rfl, ⟨by omega, ⟨0, by omega, heap_alloc_new w _⟩, (h2.mono h1).below hb⟩, hb, by simp⟩

set_option maxRecDepth 100000 in
set_option maxHeartbeats 400000 in
theorem d_SumOf (B : Nat) (C : Option Addr) (len cap : Nat) (w : World) (h : Code w B C len) :
    Calls Try.prog 22 #[.slice C len cap] w fun e w' => ∃ l : List UInt8, e = .returned (.string (str l)) ∧ l.length ≤ 60 ∧ Below w.heap.size w w' := by
  go_enter Try.func22, Try.ntmps22
  go_wp2_with fail
  refine (r_Open B C len cap _ h).mono ?_
  rintro e w1 ⟨rfl, hR1, hb1, hs1⟩
  go_wp2_with fail
  refine (r_bytes _ C len cap _ _ (by omega) (by omega) hR1).mono ?_
  rintro e w2 ⟨l, rfl, hl, hR2, hO2⟩
  go_wp2
  go_ret
  exact ⟨l, rfl, by omega, hb1.trans (hO2.below (Nat.le_refl _) hb1.size)⟩

set_option maxRecDepth 100000 in
set_option maxHeartbeats 400000 in
theorem d_HexOf (B : Nat) (C : Option Addr) (len cap : Nat) (w : World) (h : Code w B C len) :
    Calls Try.prog 29 #[.slice C len cap] w fun e w' => ∃ l : List UInt8, e = .returned (.string (str l)) ∧ l.length ≤ 60 ∧ Below w.heap.size w w' := by
  go_enter Try.func29, Try.ntmps29
  go_wp2_with fail
  refine (d_SumOf B C len cap _ h).mono ?_
  rintro e w1 ⟨l, rfl, hl, hb1⟩
  go_wp2
  go_ret
  exact ⟨l, rfl, hl, hb1⟩

set_option maxRecDepth 100000 in
set_option maxHeartbeats 400000 in
theorem d_NumAt (B : Nat) (C : Option Addr) (len cap : Nat) (w : World) (h : Code w B C len) :
    Calls Try.prog 18 #[.slice C len cap] w fun e w' => ∃ (l : List UInt8) (x y : Int), e = .returned (.tuple #[.string (str l), .int .i64 x, .int .i64 y]) ∧ l.length ≤ 20 ∧ I64 x ∧ I64 y ∧ Below w.heap.size w w' := by
  go_enter Try.func18, Try.ntmps18
  go_wp2_with fail
  refine (r_Open B C len cap _ h).mono ?_
  rintro e w1 ⟨rfl, hR1, hb1, hs1⟩
  go_wp2_with fail
  refine (r_bytes _ C len cap _ _ (by omega) (by omega) hR1).mono ?_
  rintro e w2 ⟨l, rfl, hl, hR2, hO2⟩
  have hsz : (str l).size = l.length := by simp [ByteArray.size]
  go_wp2_with fail
  refine (r_off _ C len cap _ _ _ (by omega) (by omega) (by omega) (by omega) hR2).mono ?_
  rintro e w3 ⟨x, rfl, hx0, hx1, hR3, hO3⟩
  go_wp2_with fail
  refine (r_off _ C len cap _ _ _ (by omega) (by omega) (by omega) (by omega) hR3).mono ?_
  rintro e w4 ⟨y, rfl, hy0, hy1, hR4, hO4⟩
  go_wp2
  go_ret3
  exact ⟨l, x, y, rfl, by omega, ⟨hx0, hx1⟩, ⟨hy0, hy1⟩, hb1.trans ((hO2.trans (hO3.trans hO4)).below (Nat.le_refl _) hb1.size)⟩

set_option maxRecDepth 100000 in
set_option maxHeartbeats 800000 in
theorem d_SumFix (B : Nat) (C : Option Addr) (len cap : Nat) (w : World) (h : Code w B C len) :
    Calls Try.prog 26 #[.slice C len cap] w fun e w' => ∃ (x y z : Int), e = .returned (.tuple #[.int .i64 x, .int .i64 y, .int .i64 z]) ∧ I64 x ∧ I64 y ∧ I64 z ∧ Below w.heap.size w w' := by
  go_enter Try.func26, Try.ntmps26
  go_wp2_with fail
  refine (r_Open B C len cap _ h).mono ?_
  rintro e w1 ⟨rfl, hR1, hb1, hs1⟩
  go_wp2_with fail
  refine (r_once _ C len cap _ _ (by omega) (by omega) hR1).mono ?_
  rintro e w2 ⟨t, rfl, hR2, hO2⟩
  cases t
  · go_wp2_with fail
    refine (r_u16 _ C len cap _ hR2).mono ?_
    rintro e w3 ⟨x, rfl, hx0, hx1, hR3, hO3⟩
    go_wp2_with fail
    refine (r_u16 _ C len cap _ hR3).mono ?_
    rintro e w4 ⟨y, rfl, hy0, hy1, hR4, hO4⟩
    go_wp2_with fail
    refine (r_u16 _ C len cap _ hR4).mono ?_
    rintro e w5 ⟨z, rfl, hz0, hz1, hR5, hO5⟩
    go_wp2
    go_ret3
    exact ⟨x, y, z, rfl, ⟨by omega, by omega⟩, ⟨by omega, by omega⟩, ⟨by omega, by omega⟩, hb1.trans ((hO2.trans (hO3.trans (hO4.trans hO5))).below (Nat.le_refl _) hb1.size)⟩
  · go_wp2_with fail
    refine (r_off _ C len cap _ _ _ (by omega) (by omega) (by omega) (by omega) hR2).mono ?_
    rintro e w3 ⟨x, rfl, hx0, hx1, hR3, hO3⟩
    go_wp2_with fail
    refine (r_off _ C len cap _ _ _ (by omega) (by omega) (by omega) (by omega) hR3).mono ?_
    rintro e w4 ⟨y, rfl, hy0, hy1, hR4, hO4⟩
    go_wp2_with fail
    refine (r_off _ C len cap _ _ _ (by omega) (by omega) (by omega) (by omega) hR4).mono ?_
    rintro e w5 ⟨z, rfl, hz0, hz1, hR5, hO5⟩
    go_wp2
    go_ret3
    exact ⟨x, y, z, rfl, ⟨hx0, hx1⟩, ⟨hy0, hy1⟩, ⟨hz0, hz1⟩, hb1.trans ((hO2.trans (hO3.trans (hO4.trans hO5))).below (Nat.le_refl _) hb1.size)⟩

set_option maxRecDepth 100000 in
set_option maxHeartbeats 800000 in
theorem d_BytesOf (B : Nat) (C : Option Addr) (len cap : Nat) (w : World) (h : Code w B C len) :
    Calls Try.prog 16 #[.slice C len cap] w fun e w' => ∃ (x y : Int), e = .returned (.tuple #[.int .i64 x, .int .i64 y]) ∧ I64 x ∧ I64 y ∧ Below w.heap.size w w' := by
  go_enter Try.func16, Try.ntmps16
  go_wp2_with fail
  refine (r_Open B C len cap _ h).mono ?_
  rintro e w1 ⟨rfl, hR1, hb1, hs1⟩
  go_wp2_with fail
  refine (r_below _ C len cap _ _ (by omega) hR1).mono ?_
  rintro e w2 ⟨k, rfl, hk0, hk1, hR2, hO2⟩
  go_wp2_with fail
  refine (r_once _ C len cap _ _ (by omega) (by omega) hR2).mono ?_
  rintro e w3 ⟨t, rfl, hR3, hO3⟩
  cases t
  · have hk : k = 0 ∨ k = 1 ∨ k = 2 ∨ k = 3 ∨ k = 4 ∨ k = 5 ∨ k = 6 := by omega
    clear hk0 hk1
    rcases hk with rfl | rfl | rfl | rfl | rfl | rfl | rfl
    all_goals
      go_wp2_with fail
      refine (r_off _ C len cap _ _ _ (by omega) (by omega) (by omega) (by omega) hR3).mono ?_
      rintro e w4 ⟨x, rfl, hx0, hx1, hR4, hO4⟩
      go_wp2
      go_ret2
      exact ⟨x, _, rfl, ⟨hx0, hx1⟩, ⟨by omega, by omega⟩, hb1.trans ((hO2.trans (hO3.trans hO4)).below (Nat.le_refl _) hb1.size)⟩
  · go_wp2_with fail
    refine (r_off _ C len cap _ _ _ (by omega) (by omega) (by omega) (by omega) hR3).mono ?_
    rintro e w4 ⟨y, rfl, hy0, hy1, hR4, hO4⟩
    have hy : y < 1 ∨ y = 1 ∨ y = 2 ∨ y = 3 ∨ y = 4 ∨ y = 5 ∨ y = 6 ∨ y = 7 ∨ 7 < y := by omega
    rcases hy with hy | rfl | rfl | rfl | rfl | rfl | rfl | rfl | hy
    all_goals
      go_wp2_with fail
      refine (r_off _ C len cap _ _ _ (by omega) (by omega) (by omega) (by omega) hR4).mono ?_
      rintro e w5 ⟨x, rfl, hx0, hx1, hR5, hO5⟩
      go_wp2
      go_ret2
      exact ⟨x, _, rfl, ⟨hx0, hx1⟩, ⟨by omega, by omega⟩, hb1.trans ((hO2.trans (hO3.trans (hO4.trans hO5))).below (Nat.le_refl _) hb1.size)⟩
end Go.Proofs.Ytlfdpepeanlhlaa
