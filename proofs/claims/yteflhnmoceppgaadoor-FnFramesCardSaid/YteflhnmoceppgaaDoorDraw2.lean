/-
  More contracts of the reader: numbers near a range, bytes, texts that are hurt; the reader itself.
-/
import Derived.Test.YteflhnmoceppgaaDoorDraw1
namespace Go.Proofs.YteflhnmoceppgaaDoor
open Go.RowKit

theorem Tryd.infoL : (Tryd.prog.info? 2).map (fun i => (i.zero, i.size, i.bytes)) = some (some (.int .i64 0), 1, 8) := by kernel_rfl
theorem Only.beyond {b B : Nat} {w w' w'' : World} (h : Only b w w') (hB : w.heap.size ≤ B) (k : Below B w' w'') : Only b w w'' :=
  ⟨k.os.trans h.os, k.tape.trans h.tape, k.output.trans h.output, Nat.le_trans h.size k.size, fun i hi hne => (k.block i (Nat.lt_of_lt_of_le hi hB)).trans (h.block i hi hne)⟩
theorem Only.cell {b : Nat} {w w' : World} (h : Only b w w') {g j : Nat} (hg : g < w.heap.size) (hne : g ≠ b) : w'.cell? ⟨g, j, none⟩ = w.cell? ⟨g, j, none⟩ :=
  World.cell?_of_block (w := w) (a := ⟨g, j, none⟩) (h.block g hg (by simp; exact hne))
/-- i64's range -/
abbrev I64 (x : Int) : Prop := -9223372036854775808 ≤ x ∧ x ≤ 9223372036854775807

theorem and_u64 {x : Int} (h₀ : 0 ≤ x) (h₁ : x ≤ 18446744073709551615) : bits .and .u64 x 65535 = x % 65536 :=
  bits_mask .u64 64 (by decide) (fun n a b => by rw [IntKind.wrap_u64]; omega) 16 (by decide) x h₀ (by omega)

theorem ownB.kept {w w' : World} {B b : Nat} {v : Value} {l : List UInt8} (h : ownB w B v l) (hO : Only b w w') (hb : b < B) : ownB w' B v l := by
  refine World.ownsRow.kept h hO ?_
  cases hv : v.ownBlock with
  | none => exact .inl rfl
  | some k => right; have := (World.ownsRow.lt h k hv).1; simp; omega

set_option maxRecDepth 100000 in
set_option maxHeartbeats 1600000 in
theorem r_bytes (b : Nat) (C : Option Addr) (len cap : Nat) (most : Int) (w : World) (h0 : 0 ≤ most) (h1 : most ≤ 1099511627776) (h : RdI w b C len cap) :
    Calls Tryd.prog 24 #[.pointer (some ⟨b, 0, none⟩), .int .i64 most] w fun e w' => ∃ l : List UInt8, e = .returned (.string (str l)) ∧ (l.length : Int) ≤ most ∧ RdI w' b C len cap ∧ Only b w w' := by
  have hlt := h.lt
  go_enter Tryd.func24, Tryd.ntmps24
  go_wp2_with fail
  refine (r_below b C len cap _ _ (by omega) (h.alloc _)).mono ?_
  rintro e w1 ⟨n, rfl, hn0, hn1, hR1, hO1⟩
  go_wp2_with fail
  refine (r_below b C len cap _ _ (by omega) hR1).mono ?_
  rintro e w2 ⟨kd, rfl, hk0, hk1, hR2, hO2⟩
  have hown0 : ownB w2 w.heap.size (.slice (some ⟨w.heap.size, 0, none⟩) 0 0) [] := ((ownB.empty w _ (Nat.le_refl _)).kept hO1 hlt).kept hO2 hlt
  have hO3 : Only b w w2 := ((Only.refl b w).alloc _).trans (hO1.trans hO2)
  clear hO1 hO2
  obtain ⟨N, rfl⟩ := Int.eq_ofNat_of_zero_le hn0
  have hN : (N : Int) ≤ most := by omega
  clear hn1 hn0
  have hkd : kd = 0 ∨ kd = 1 ∨ kd = 2 ∨ kd = 3 := by omega
  clear hk0 hk1
  rcases hkd with rfl | rfl | rfl | rfl
  all_goals
    go_wp2_with fail
    go_loopw [5, 8] (fun v i wr => ∃ (k : Nat) (l : List UInt8), k ≤ N ∧ i = .int .i64 (k : Int) ∧ l.length = k ∧ ownB wr w.heap.size v l ∧ RdI wr b C len cap ∧ Only b w wr) (fun _ i _ => ((N : Int) - intOf i).toNat)
    case atStart => exact ⟨0, [], by omega, rfl, rfl, hown0, hR2, hO3⟩
    case round =>
      obtain ⟨k, l, hk, rfl, hl, hown, hR, hO⟩ := hrel
      have hsz := hO.size
      by_cases hlt2 : k < N
      · have hl' : Hid (l.length = k) := hl
        have hlen : l.length ≤ 70368744177664 := by omega
        clear hown0 hR2 hO3 hl
        go_wp2_with (first | (go_at_call 12; refine (r_below b C len cap _ _ (by omega) hR).mono ?_; rintro e w3 ⟨x, rfl, hx0, hx1, hR3, hO3⟩; have hown3 := hown.kept hO3 hlt; have hsz3 := hO3.size) | (at_builtin; refine wpList_append_byteg rfl _ _ rfl w.heap.size _ _ rfl (hown3.alloc _) _ _ rfl (by simp) (by omega) (by omega) hlen (by simp; omega) ?_; intro v' w4 hown4 hb4))
        go_roundw
        case rel => exact ⟨k + 1, _, by omega, by go_num, by have := hl'.out; simp; omega, hown4, (hR3.alloc _).kept (hb4.mono (by omega)), ((hO.trans hO3).alloc _).beyond (Nat.le_refl _) hb4⟩
        case measure => simp [intOf]; omega
      · have hstr := run_string_own hown
        have hl' : Hid (l.length = k) := hl
        clear hown0 hR2 hO3 hl
        go_wp2
        go_ret
        exact ⟨l, rfl, by have := hl'.out; omega, hR, hO⟩
end Go.Proofs.YteflhnmoceppgaaDoor
