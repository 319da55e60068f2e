/-
  Contracts of the reader that draws inputs out of a code: whatever it draws lies in its range; of memory it turns its own two cells alone.
-/
import Derived.Test.YteflhnmoceppgaaDoorLaws
import Derived.Deep.QuietTactic
import Derived.BigQuiet
namespace Go.Proofs.YteflhnmoceppgaaDoor
open Go.RowKit

/-- the bytes of the code lie below block b -/
def codeAt (w : World) (b : Nat) (C : Option Addr) (len : Nat) : Prop :=
  len = 0 ∨ ∃ g off, C = some ⟨g, off, none⟩ ∧ g < b ∧ ∀ i, i < len → ∃ c : Int, 0 ≤ c ∧ c ≤ 255 ∧ w.cell? ⟨g, off + i, none⟩ = some (.int .u8 c)
/-- block b is a reader over the code -/
def RdI (w : World) (b : Nat) (C : Option Addr) (len cap : Nat) : Prop :=
  len ≤ 1099511627776 ∧ (∃ p : Nat, p ≤ len ∧ w.heap[b]? = some (.cells #[.slice C len cap, .int .i64 (p : Int)] 43 (0, 0))) ∧ codeAt w b C len
/-- nothing but block b has turned; new blocks may have come -/
abbrev Only (b : Nat) (w w' : World) : Prop := w.grownBy w' (some b)

theorem Only.refl (b : Nat) (w : World) : Only b w w := World.grownBy.refl w _
theorem Only.drewN {b : Nat} {w w' : World} (h : Only b w w') (n : Nat) : Only b w (w'.drewN n) := ⟨h.os, h.tape, h.output, h.size, h.block⟩
theorem Only.drew {b : Nat} {w w' : World} (h : Only b w w') : Only b w w'.drew := ⟨h.os, h.tape, h.output, h.size, h.block⟩
theorem Only.trans {b : Nat} {w w' w'' : World} (h : Only b w w') (k : Only b w' w'') : Only b w w'' :=
  ⟨k.os.trans h.os, k.tape.trans h.tape, k.output.trans h.output, Nat.le_trans h.size k.size, fun i hi hne => (k.block i (Nat.lt_of_lt_of_le hi h.size) hne).trans (h.block i hi hne)⟩
theorem Only.alloc {b : Nat} {w w' : World} (h : Only b w w') (o : Obj) : Only b w (w'.alloc o) := h.trans (World.grownBy_alloc w' o _)
theorem Only.setCell {b : Nat} {w w' : World} (h : Only b w w') (j : Nat) (v : Value) : Only b w (w'.setCell ⟨b, j, none⟩ v) :=
  h.trans ⟨rfl, rfl, rfl, by simp, fun k _ hk => heap_setCell_other w' ⟨b, j, none⟩ k v (fun e => hk (by simp [e]))⟩
theorem Only.below {b B : Nat} {w w' : World} (h : Only b w w') (hb : B ≤ b) (hB : B ≤ w.heap.size) : Below B w w' :=
  (Below.refl B w).grown h hB (fun k hk => by simp at hk; omega)
theorem RdI.drewN {w : World} {b : Nat} {C : Option Addr} {len cap : Nat} (h : RdI w b C len cap) (n : Nat) : RdI (w.drewN n) b C len cap := h
theorem RdI.drew {w : World} {b : Nat} {C : Option Addr} {len cap : Nat} (h : RdI w b C len cap) : RdI w.drew b C len cap := h
theorem RdI.lt {w : World} {b : Nat} {C : Option Addr} {len cap : Nat} (h : RdI w b C len cap) : b < w.heap.size := by
  obtain ⟨_, ⟨p, _, hh⟩, _⟩ := h; exact lt_of_block hh
theorem codeAt.below {w w' : World} {b : Nat} {C : Option Addr} {len : Nat} (h : codeAt w b C len) (hb : Below b w w') : codeAt w' b C len := by
  rcases h with h | ⟨g, off, h1, h2, h3⟩
  · exact .inl h
  · refine .inr ⟨g, off, h1, h2, fun i hi => ?_⟩
    obtain ⟨c, c0, c1, hc⟩ := h3 i hi
    exact ⟨c, c0, c1, (hb.cell (p := ⟨g, off + i, none⟩) h2).trans hc⟩
/-- a reader stays one where its own block and all below stand as they did -/
theorem RdI.kept {w w' : World} {b : Nat} {C : Option Addr} {len cap : Nat} (h : RdI w b C len cap) (hb : Below (b + 1) w w') : RdI w' b C len cap := by
  obtain ⟨h0, ⟨p, hp, hh⟩, hc⟩ := h
  exact ⟨h0, ⟨p, hp, (hb.block b (by omega)).trans hh⟩, hc.below (hb.mono (by omega))⟩
theorem RdI.alloc {w : World} {b : Nat} {C : Option Addr} {len cap : Nat} (h : RdI w b C len cap) (o : Obj) : RdI (w.alloc o) b C len cap :=
  h.kept ((Below.refl _ w).alloc (by have := h.lt; omega) o)

set_option maxRecDepth 100000 in
set_option maxHeartbeats 400000 in
theorem r_next (b : Nat) (C : Option Addr) (len cap : Nat) (w : World) (h : RdI w b C len cap) :
    Calls Tryd.prog 25 #[.pointer (some ⟨b, 0, none⟩)] w fun e w' => ∃ x : Int, e = .returned (.int .i64 x) ∧ 0 ≤ x ∧ x ≤ 255 ∧ RdI w' b C len cap ∧ Only b w w' := by
  obtain ⟨h0, ⟨p, hp, hh⟩, hc⟩ := h
  have hR : ∀ q : Nat, q ≤ len → RdI (w.setCell ⟨b, 1, none⟩ (.int .i64 (q : Int))) b C len cap := by
    intro q hq
    refine ⟨h0, ⟨q, hq, ?_⟩, hc.below (Below.setCell (p := ⟨b, 1, none⟩) (Below.refl b w) (Nat.le_refl b) _)⟩
    rw [heap_setCell_same w b 1 _ _ _ hh]; rfl
  have hS : RdI w b C len cap := ⟨h0, ⟨p, hp, hh⟩, hc⟩
  have c0 : w.cell? ⟨b, 0, none⟩ = some (.slice C len cap) := by rw [cell_of_row w b 0 _ _ _ hh]; rfl
  have c1 : w.cell? ⟨b, 1, none⟩ = some (.int .i64 (p : Int)) := by rw [cell_of_row w b 1 _ _ _ hh]; rfl
  have f1 := frozen_of_row w b 1 _ _ hh
  have HR : Hid (∀ q : Nat, q ≤ len → RdI (w.setCell ⟨b, 1, none⟩ (.int .i64 (q : Int))) b C len cap) := hR
  have HS : Hid (RdI w b C len cap) := hS
  clear hR hS
  by_cases hlt : p < len
  · rcases hc with hc | ⟨g, off, rfl, hg, hc⟩
    · omega
    · obtain ⟨c, k0, k1, hcell⟩ := hc p hlt
      have hcell2 : (w.setCell ⟨b, 1, none⟩ (.int .i64 ((p : Int) + 1))).cell? ⟨g, off + p, none⟩ = some (.int .u8 c) := by
        rw [← hcell]; exact (Below.setCell (p := ⟨b, 1, none⟩) (Below.refl b w) (Nat.le_refl b) _).cell (p := ⟨g, off + p, none⟩) hg
      clear hc hh
      go_enter Tryd.func25, Tryd.ntmps25
      go_wp2
      go_quiet (fail)
      go_wp2
      go_quiet (fail)
      go_wp2
      go_ret
      refine ⟨c, rfl, k0, k1, ?_, ?_⟩
      · exact HR.out (p + 1) hlt
      · exact (((Only.refl b w).drewN _).setCell 1 _).drewN _
  · clear hc hh
    go_enter Tryd.func25, Tryd.ntmps25
    go_wp2
    go_quiet (fail)
    go_wp2
    go_ret
    exact ⟨0, rfl, by omega, by omega, HS.out, (Only.refl _ _).drewN _⟩

set_option maxRecDepth 100000 in
set_option maxHeartbeats 400000 in
theorem r_below (b : Nat) (C : Option Addr) (len cap : Nat) (n : Int) (w : World) (hn : n ≤ 4611686018427387904) (h : RdI w b C len cap) :
    Calls Tryd.prog 12 #[.pointer (some ⟨b, 0, none⟩), .int .i64 n] w fun e w' => ∃ x : Int, e = .returned (.int .i64 x) ∧ 0 ≤ x ∧ (x < n ∨ x = 0) ∧ RdI w' b C len cap ∧ Only b w w' := by
  by_cases h1 : n ≤ 1
  · go_enter Tryd.func12, Tryd.ntmps12
    go_wp2
    go_ret
    exact ⟨0, rfl, by omega, .inr rfl, h, Only.refl _ _⟩
  · by_cases h2 : n ≤ 256
    · go_enter Tryd.func12, Tryd.ntmps12
      go_wp2_with (go_at_call 25; refine (r_next b C len cap _ h).mono ?_; rintro e w1 ⟨x, rfl, hx0, hx1, hR1, hO1⟩)
      go_ret
      refine ⟨x % n, rfl, Int.emod_nonneg _ (by omega), .inl (Int.emod_lt_of_pos _ (by omega)), hR1, hO1⟩
    · go_enter Tryd.func12, Tryd.ntmps12
      go_wp2_with fail
      refine (r_next b C len cap _ h).mono ?_
      rintro e w1 ⟨x, rfl, hx0, hx1, hR1, hO1⟩
      go_wp2_with fail
      refine (r_next b C len cap _ hR1).mono ?_
      rintro e w2 ⟨y, rfl, hy0, hy1, hR2, hO2⟩
      go_wp2
      go_ret
      refine ⟨(x * 256 + y) % n, rfl, Int.emod_nonneg _ (by omega), .inl (Int.emod_lt_of_pos _ (by omega)), hR2, hO1.trans hO2⟩

theorem bits_u64 (op : BinOp) (a b : Int) : 0 ≤ bits op .u64 a b ∧ bits op .u64 a b ≤ 18446744073709551615 := bounds_u64 (wf_bits _ _ _ _)

end Go.Proofs.YteflhnmoceppgaaDoor
