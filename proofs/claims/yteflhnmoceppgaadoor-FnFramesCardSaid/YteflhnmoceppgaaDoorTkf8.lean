/-
  Frames drawn: the texts, the frames of them.
-/
import Derived.Test.YteflhnmoceppgaaDoorTkf7
import Derived.Test.YteflhnmoceppgaaDoorDraw4
namespace Go.Proofs.YteflhnmoceppgaaDoor
open Go.RowKit Go.PlainAid
abbrev tabT : Array Value := #[.string ⟨#[]⟩, .string ⟨#[97]⟩, .string ⟨#[120, 10]⟩, .string ⟨#[97, 98, 99]⟩, .string ⟨#[0]⟩]
theorem tabT_at (z : Nat) (h : z < 5) : ∃ v : ByteArray, v.size ≤ 3 ∧ tabT[z]? = some (.string v) := by
  have : z = 0 ∨ z = 1 ∨ z = 2 ∨ z = 3 ∨ z = 4 := by omega
  rcases this with rfl | rfl | rfl | rfl | rfl <;> exact ⟨_, by decide, rfl⟩
set_option maxRecDepth 100000 in
set_option maxHeartbeats 1600000 in
theorem r_text (b : Nat) (C : Option Addr) (len cap : Nat) (w : World) (h : RdI w b C len cap) :
    Calls Tryd.prog 14 #[.pointer (some ⟨b, 0, none⟩)] w fun e w' => ∃ t : ByteArray, e = .returned (.string t) ∧ t.size ≤ 3 ∧ RdI w' b C len cap ∧ Only b w w' := by
  have hlt := h.lt
  go_enter Tryd.func14, Tryd.ntmps14
  go_wp2_with fail
  refine (r_below b C len cap _ _ (by omega) (h.alloc _)).mono ?_
  rintro e w3 ⟨z, rfl, hz0, hz1, hR3, hO3⟩
  obtain ⟨Z, rfl⟩ := Int.eq_ofNat_of_zero_le hz0
  obtain ⟨v, hv, hvc⟩ := tabT_at Z (by omega)
  have f2 : w3.cell? ⟨w.heap.size, Z, none⟩ = some (.string v) := (hO3.cell (g := w.heap.size) (j := Z) (by simp) (by omega)).trans (alloc_at w tabT 9 Z _ hvc)
  have hz4 : (Z : Int) < 5 := by omega
  go_wp2
  go_ret
  exact ⟨_, rfl, hv, hR3, ((Only.refl _ _).alloc _).trans hO3⟩
set_option maxRecDepth 100000 in
set_option maxHeartbeats 1600000 in
theorem l_sameTexts (T U : Option Addr) (c e : Nat) (l : List ByteArray) (w : World) (h : CellsAt w T (stF l)) (k : CellsAt w U (stF l)) (hl : l.length ≤ 1099511627776) :
    Calls Tryd.prog 8 #[.slice T l.length c, .slice U l.length e] w fun e w' => e = .returned (.bool true) ∧ Below w.heap.size w w' := by
  have hne : ((l.length : Int) != (l.length : Int)) = false := by simp
  go_enter Tryd.func8, Tryd.ntmps8
  go_wp2
  go_loopw [5] (fun i wr => ∃ j : Nat, j ≤ l.length ∧ i = .int .i64 (j : Int) ∧ Below w.heap.size w wr) (fun i _ => ((l.length : Int) - intOf i).toNat)
  case atStart => exact ⟨0, by omega, rfl, Below.refl _ _⟩
  case round =>
    obtain ⟨j, hj, rfl, hb⟩ := hrel
    by_cases hlt : j < l.length
    · have hle := stF_len l
      rcases h with h | ⟨g, off, rfl, hg, hc⟩
      · rw [h] at hle; simp at hle; omega
      · rcases k with k | ⟨g2, off2, rfl, hg2, hc2⟩
        · rw [k] at hle; simp at hle; omega
        · have hj1 : (j : Int) < (l.length : Int) := by omega
          have hcs := (hc j (by omega)).trans (stF_at l j hlt)
          have hcs2 := (hc2 j (by omega)).trans (stF_at l j hlt)
          clear hc hc2 hle
          generalize l[j] = t at *
          have ht : (t.toList == t.toList) = true := by simp
          go_wp2_with fail
          have hne2 := BW.some wr
          have c0 := fun u : BW wr => (u.le.cell (p := ⟨g, off + j, none⟩) (Nat.lt_of_lt_of_le hg hb.size)).trans ((hb.cell (p := ⟨g, off + j, none⟩) hg).trans hcs)
          have d0 := fun u : BW wr => (u.le.cell (p := ⟨g2, off2 + j, none⟩) (Nat.lt_of_lt_of_le hg2 hb.size)).trans ((hb.cell (p := ⟨g2, off2 + j, none⟩) hg2).trans hcs2)
          refine wp_region_below (by kernel_rfl) (by kernel_rfl) ?_
          repeat (go_big_quiet_step (fail))
          refine wpQuiet_nil ?_
          intro _ hw'
          obtain ⟨u, hw''⟩ := hw'
          subst hw''
          clear c0 d0 hne2
          go_wp2
          go_roundw
          case rel => exact ⟨j + 1, by omega, by go_num, hb.trans (u.le.mono hb.size)⟩
          case measure => simp [intOf]; omega
    · go_wp2
      go_ret
      exact ⟨rfl, hb⟩
theorem frOf_len (d : ByteArray) (h : d.size ≤ 3) : (frOf (bl d)).length ≤ 11 := by
  unfold frOf; rw [bl_length, if_neg (by omega)]
  rw [List.length_append, List.length_append, be_length, bl_length]
  show 4 + 4 + d.size ≤ 11
  omega
set_option maxRecDepth 100000 in
set_option maxHeartbeats 1600000 in
theorem d_FrameOf (B : Nat) (C : Option Addr) (len cap : Nat) (w : World) (h : Code w B C len) :
    Calls Tryd.prog 10 #[.slice C len cap] w fun e w' => ∃ t : ByteArray, e = .returned (.string t) ∧ t.size ≤ 8 ∧ Below w.heap.size w w' := by
  go_enter Tryd.func10, Tryd.ntmps10
  go_wp2_with fail
  refine (r_Open B C len cap _ h).mono ?_
  rintro e w1 ⟨rfl, hR1, hb1, hs1⟩
  go_wp2_with fail
  refine (r_text _ C len cap _ hR1).mono ?_
  rintro e w2 ⟨t, rfl, ht, hR2, hO2⟩
  go_wp2_with fail
  refine (r_bytes _ C len cap _ _ (by omega) (by omega) hR2).mono ?_
  rintro e w3 ⟨l, rfl, hl, hR3, hO3⟩
  have hls : (str l).size = l.length := str_size l
  generalize str l = y at *
  go_wp2
  go_ret
  exact ⟨_, rfl, by simp; omega, hb1.trans ((hO2.trans hO3).below (Nat.le_refl _) hb1.size)⟩
set_option maxRecDepth 100000 in
set_option maxHeartbeats 1600000 in
theorem d_TakeFrames (B : Nat) (C : Option Addr) (len cap : Nat) (w : World) (h : Code w B C len) :
    Calls Tryd.prog 5 #[.slice C len cap] w fun e w' => ∃ t : ByteArray, e = .returned (.string t) ∧ t.size ≤ 34 ∧ Below w.heap.size w w' := by
  go_enter Tryd.func5, Tryd.ntmps5
  go_wp2_with fail
  refine (r_Open B C len cap _ h).mono ?_
  rintro e w1 ⟨rfl, hR1, hb1, hs1⟩
  go_wp2_with fail
  refine (r_below _ C len cap _ _ (by omega) hR1).mono ?_
  rintro e w2 ⟨z, rfl, hz0, hz1, hR2, hO2⟩
  obtain ⟨Z, rfl⟩ := Int.eq_ofNat_of_zero_le hz0
  have hZ : Z ≤ 3 := by omega
  clear hz0 hz1
  go_wp2_with fail
  go_loopw [4, 5] (fun sv i wr => ∃ (t : ByteArray) (k : Nat), sv = .string t ∧ i = .int .i64 (k : Int) ∧ t.size + 11 * k ≤ 33 ∧ RdI wr w.heap.size C len cap ∧ Only w.heap.size w1 wr) (fun _ i _ => (intOf i).toNat)
  case atStart => exact ⟨ByteArray.empty, Z, rfl, rfl, by show 0 + 11 * Z ≤ 33; omega, hR2, hO2⟩
  case round =>
    obtain ⟨t, k, rfl, rfl, ht, hR, hO⟩ := hrel
    clear hR1 hR2 hO2 hs1
    by_cases hk : 0 < k
    · have hki : (0 : Int) < (k : Int) := by omega
      go_wp2_with fail
      refine (r_text _ C len cap _ hR).mono ?_
      rintro e w4 ⟨d, rfl, hd, hR4, hO4⟩
      go_wp2_with fail
      refine (s_FrameOf d _ (by omega)).mono ?_
      rintro e w5 ⟨rfl, hb5⟩
      have hR5 := hR4.far hb5
      have hO5 := hO4.far hb5
      have hfl : (str (frOf (bl d))).size ≤ 11 := by rw [str_size]; exact frOf_len d hd
      generalize str (frOf (bl d)) = y at *
      have hkw : IntKind.i64.wrap ((k : Int) - 1) = (k : Int) - 1 := wraps_i64 _ (by omega) (by omega)
      go_wp2
      go_roundw
      case rel => exact ⟨t ++ y, k - 1, rfl, by go_num, by simp; omega, hR5, hO.trans hO5⟩
      case measure => simp [intOf]; omega
    · have hk0 : k = 0 := by omega
      subst hk0
      go_wp2_with fail
      refine (r_hurt _ C len cap _ _ (by omega) hR).mono ?_
      rintro e w5 ⟨y, rfl, hy, hR5, hO5⟩
      go_wp2
      go_ret
      exact ⟨y, rfl, by omega, hb1.trans ((hO.trans hO5).below (Nat.le_refl _) hb1.size)⟩
end Go.Proofs.YteflhnmoceppgaaDoor
