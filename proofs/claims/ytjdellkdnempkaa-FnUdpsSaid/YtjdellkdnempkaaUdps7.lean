/-
  Contracts of what is drawn for the laws on ports.
-/
import Derived.Test.YtjdellkdnempkaaUdps4
import Derived.Test.YtjdellkdnempkaaLawBase
namespace Go.Proofs.Ytjdellkdnempkaa
open Go.RowKit Go.PlainAid
theorem Bx.only {w w' : World} {b g : Nat} {vs : List Value} (h : Bx w g vs) (k : Only b w w') (hg : g ≠ b) : Bx w' g vs :=
  ⟨Nat.lt_of_lt_of_le h.1 k.size, fun i v hv => (k.cell h.1 hg).trans (h.2 i v hv)⟩
theorem Fr.only {w w' : World} {b g : Nat} (h : Fr w g) (k : Only b w w') (hg : g ≠ b) : Fr w' g :=
  ⟨Nat.lt_of_lt_of_le h.1 k.size, fun j => (World.frozen?_of_block (w := w) (a := ⟨g, j, none⟩) (k.block g h.1 (by simp; exact hg))).trans (h.2 j)⟩

set_option maxRecDepth 100000 in
set_option maxHeartbeats 400000 in
theorem r_addr (b : Nat) (C : Option Addr) (len cap : Nat) (w : World) (h : RdI w b C len cap) :
    Calls Try.prog 22 #[.pointer (some ⟨b, 0, none⟩)] w fun e w' => ∃ x : Int, e = .returned (.int .i64 x) ∧ 0 ≤ x ∧ x ≤ 4294967295 ∧ RdI w' b C len cap ∧ Only b w w' := by
  go_enter Try.func22, Try.ntmps22
  go_wp2_with fail
  refine (r_once b C len cap _ _ (by omega) (by omega) h).mono ?_
  rintro e w1 ⟨x, rfl, hR1, hO1⟩
  have hlt := hR1.lt
  cases x
  · go_wp2_with fail
    refine (r_below b C len cap _ _ (by omega) hR1).mono ?_
    rintro e w2 ⟨y, rfl, hy0, hy1, hR2, hO2⟩
    go_wp2_with fail
    refine (r_below b C len cap _ _ (by omega) hR2).mono ?_
    rintro e w3 ⟨z, rfl, hz0, hz1, hR3, hO3⟩
    go_wp2
    go_ret
    exact ⟨_, rfl, by omega, by omega, hR3, hO1.trans (hO2.trans hO3)⟩
  · go_wp2_with fail
    refine (r_below b C len cap _ _ (by omega) (hR1.alloc _)).mono ?_
    rintro e w2 ⟨y, rfl, hy0, hy1, hR2, hO2⟩
    have hc := fun j => hO2.cell (g := w1.heap.size) (j := j) (by simp) (by omega)
    have k0 := hc 0
    have k1 := hc 1
    have k2 := hc 2
    simp at k0 k1 k2
    clear hc
    have hy : y = 0 ∨ y = 1 ∨ y = 2 := by omega
    clear hy0 hy1
    rcases hy with rfl | rfl | rfl
    all_goals
      go_wp2
      go_ret
      exact ⟨_, rfl, by omega, by omega, hR2, (hO1.alloc _).trans hO2⟩

set_option maxRecDepth 100000 in
set_option maxHeartbeats 6400000 in
theorem d_UdpBytes (B : Nat) (C : Option Addr) (len cap : Nat) (w : World) (h : Code w B C len) :
    Calls Try.prog 7 #[.slice C len cap] w fun e w' => ∃ (x y : Int) (u : UdpV), e = .returned (.tuple #[.int .i64 x, .int .i64 y, .agg (udpL u)]) ∧ u.data.size ≤ 65600 ∧ Below w.heap.size w w' := by
  have hB0 : Below w.heap.size w (w.alloc (.cells #[.int .i64 0, .int .i64 0, .bool false, .string ⟨#[]⟩] 25)) := (Below.refl _ w).alloc (Nat.le_refl _) _
  have hC0 := h.below (hB0.mono h.2.1)
  have hR0 : Bx (w.alloc (.cells #[.int .i64 0, .int .i64 0, .bool false, .string ⟨#[]⟩] 25)) w.heap.size [.int .i64 0, .int .i64 0, .bool false, .string ⟨#[]⟩] := Bx.new w _ _
  have hF0 : Fr (w.alloc (.cells #[.int .i64 0, .int .i64 0, .bool false, .string ⟨#[]⟩] 25)) w.heap.size := Fr.new w _ _
  have hs0 : (w.alloc (.cells #[.int .i64 0, .int .i64 0, .bool false, .string ⟨#[]⟩] 25)).heap.size = w.heap.size + 1 := by simp
  go_enter Try.func7, Try.ntmps7
  go_wp2_with fail
  generalize w.alloc (.cells #[.int .i64 0, .int .i64 0, .bool false, .string ⟨#[]⟩] 25) = w0 at *
  refine (r_Open B C len cap _ hC0).mono ?_
  rintro e w1 ⟨rfl, hd1, hb1, hs1⟩
  rw [hs0] at hd1 ⊢
  replace hR0 := hR0.below hb1
  replace hF0 := hF0.below hb1
  replace hB0 := hB0.trans (hb1.mono hB0.size)
  clear hb1 hs1 hs0 hC0 h
  have hne1 : w.heap.size ≠ w.heap.size + 1 := by omega
  go_wp2_with fail
  refine (r_u16 _ C len cap _ hd1).mono ?_
  rintro e w2 ⟨fr, rfl, _, _, hd2, hO2⟩
  go_wp2_with fail
  refine (r_u16 _ C len cap _ hd2).mono ?_
  rintro e w3 ⟨to, rfl, _, _, hd3, hO3⟩
  go_wp2_with fail
  refine (r_once _ C len cap _ _ (by omega) (by omega) hd3).mono ?_
  rintro e w4 ⟨sn, rfl, hd4, hO4⟩
  go_wp2_with fail
  refine (r_bytes _ C len cap _ _ (by omega) (by omega) hd4).mono ?_
  rintro e w5 ⟨dl, rfl, hdl, hd5, hO5⟩
  have hO := hO2.trans (hO3.trans (hO4.trans hO5))
  replace hR0 := hR0.only hO hne1
  replace hF0 := hF0.only hO hne1
  replace hB0 := hB0.trans (hO.below (by omega) hB0.size)
  clear hO hO2 hO3 hO4 hO5 hd1 hd2 hd3 hd4
  have hU := Bx.new w5 #[.int .i64 fr, .int .i64 to, .bool sn, .string (str dl)] 25
  have hG := Fr.new w5 #[.int .i64 fr, .int .i64 to, .bool sn, .string (str dl)] 25
  have hlt := hd5.lt
  replace hd5 := hd5.alloc (.cells #[.int .i64 fr, .int .i64 to, .bool sn, .string (str dl)] 25)
  replace hR0 := hR0.below ((Below.refl _ w5).alloc (Nat.le_refl _) (.cells #[.int .i64 fr, .int .i64 to, .bool sn, .string (str dl)] 25))
  replace hF0 := hF0.below ((Below.refl _ w5).alloc (Nat.le_refl _) (.cells #[.int .i64 fr, .int .i64 to, .bool sn, .string (str dl)] 25))
  replace hB0 := hB0.alloc hB0.size (.cells #[.int .i64 fr, .int .i64 to, .bool sn, .string (str dl)] 25)
  go_wp2_with fail
  generalize w5.alloc (.cells #[.int .i64 fr, .int .i64 to, .bool sn, .string (str dl)] 25) = w6 at *
  generalize w5.heap.size = g at *
  clear w5
  have hne2 : g ≠ w.heap.size + 1 := by omega
  have hne3 : g ≠ w.heap.size := by omega
  refine (r_below _ C len cap _ _ (by omega) hd5).mono ?_
  rintro e w7 ⟨y, rfl, hy0, hy1, hd7, hO7⟩
  replace hR0 := hR0.only hO7 hne1
  replace hF0 := hF0.only hO7 hne1
  replace hU := hU.only hO7 hne2
  replace hG := hG.only hO7 hne2
  replace hB0 := hB0.trans (hO7.below (by omega) hB0.size)
  clear hO7 hd5
  have hsz : (str dl).size = dl.length := str_size dl
  have hy : y = 0 ∨ y = 1 ∨ y = 2 ∨ 2 < y := by omega
  clear hy0 hy1
  rcases hy with rfl | rfl | rfl | hy
  · have hG2 := hG.2
    have u0 := hU.2 0 _ rfl
    go_wp2_with fail
    refine (r_off _ C len cap _ _ _ (by omega) (by omega) (by omega) (by omega) hd7).mono ?_
    rintro e wA ⟨f2, rfl, _, _, hdA, hOA⟩
    clear u0 hG2
    replace hR0 := hR0.only hOA hne1
    replace hF0 := hF0.only hOA hne1
    replace hU := hU.only hOA hne2
    have hG2 := (hG.only hOA hne2).2
    replace hB0 := hB0.trans (hOA.below (by omega) hB0.size)
    clear hOA hd7
    have u0 := hU.2 0 _ rfl
    go_wp2_with fail
    clear u0
    replace hU := hU.set 0 (.int .i64 f2)
    replace hR0 := hR0.other (b' := g) (j := 0) hne3 (.int .i64 f2)
    replace hF0 := hF0.set ⟨g, 0, none⟩ (.int .i64 f2)
    replace hB0 := hB0.setCell (p := ⟨g, 0, none⟩) (by simp; omega) (.int .i64 f2)
    replace hdA := hdA.kept (w' := wA.setCell ⟨g, 0, none⟩ (.int .i64 f2)) ((Below.refl _ wA).setCell (p := ⟨g, 0, none⟩) (by simp; omega) (.int .i64 f2))
    clear hG2
    generalize wA.setCell ⟨g, 0, none⟩ (.int .i64 f2) = wB at *
    have u0 := hU.2 0 _ rfl
    have u1 := hU.2 1 _ rfl
    have u2 := hU.2 2 _ rfl
    have u3 := hU.2 3 _ rfl
    have u9 := hU.1
    go_region_with ((first | (go_at_call 22; refine (r_addr _ C len cap _ hd8).mono ?_; rintro e w9 ⟨x2, rfl, _, _, hd9, hO9⟩; have hV9 := hV8.only hO9 hne2; have hS9 := hS8.only hO9 hne1; have hH9 := (hH8.only hO9 hne1).2; have hL9 := hL8.trans (hO9.below (by omega) hL8.size); have z0 := hV9.2 0 _ rfl; have z1 := hV9.2 1 _ rfl; have z2 := hV9.2 2 _ rfl; have z3 := hV9.2 3 _ rfl; have r0 := hS9.2 0 _ rfl; have r1 := hS9.2 1 _ rfl; have r2 := hS9.2 2 _ rfl; have r3 := hS9.2 3 _ rfl) | (go_at_call 22; refine (r_addr _ C len cap _ hdA.drew).mono ?_; rintro e w8 ⟨x1, rfl, _, _, hd8, hO8⟩; have hV8 := hU.drew.only hO8 hne2; have hS8 := hR0.drew.only hO8 hne1; have hH8 := hF0.drew.only hO8 hne1; have hL8 := hB0.drew.trans (hO8.below (by omega) hB0.size); have v0 := hV8.2 0 _ rfl; have v1 := hV8.2 1 _ rfl; have v2 := hV8.2 2 _ rfl; have v3 := hV8.2 3 _ rfl)))
    all_goals
      go_wp2
      refine bodyPost_ret (v := .tuple #[.int .i64 x1, .int .i64 x2, .agg #[.int .i64 f2, .int .i64 to, .bool sn, .string (str dl)]]) ?_ rfl ⟨x1, x2, ⟨f2, to, sn, (str dl)⟩, rfl, by show (str dl).size ≤ _; omega, ?_⟩
      · simp [results, Try.results7, go_sem, r0, r1, r2, r3]
      · go_grown
  · have u0 := hU.2 0 _ rfl
    have u1 := hU.2 1 _ rfl
    have u2 := hU.2 2 _ rfl
    have u3 := hU.2 3 _ rfl
    have u9 := hU.1
    go_wp2_with fail
    go_region_with ((first | (go_at_call 22; refine (r_addr _ C len cap _ hd8).mono ?_; rintro e w9 ⟨x2, rfl, _, _, hd9, hO9⟩; have hV9 := hV8.only hO9 hne2; have hS9 := hS8.only hO9 hne1; have hH9 := (hH8.only hO9 hne1).2; have hL9 := hL8.trans (hO9.below (by omega) hL8.size); have z0 := hV9.2 0 _ rfl; have z1 := hV9.2 1 _ rfl; have z2 := hV9.2 2 _ rfl; have z3 := hV9.2 3 _ rfl; have r0 := hS9.2 0 _ rfl; have r1 := hS9.2 1 _ rfl; have r2 := hS9.2 2 _ rfl; have r3 := hS9.2 3 _ rfl) | (go_at_call 21; refine (r_off _ C len cap _ _ _ (by omega) (by omega) (by omega) (by omega) hd7.drew).mono ?_; rintro e w8 ⟨x1, rfl, _, _, hd8, hO8⟩; have hV8 := hU.drew.only hO8 hne2; have hS8 := hR0.drew.only hO8 hne1; have hH8 := hF0.drew.only hO8 hne1; have hL8 := hB0.drew.trans (hO8.below (by omega) hB0.size); have v0 := hV8.2 0 _ rfl; have v1 := hV8.2 1 _ rfl; have v2 := hV8.2 2 _ rfl; have v3 := hV8.2 3 _ rfl)))
    all_goals
      go_wp2
      refine bodyPost_ret (v := .tuple #[.int .i64 x1, .int .i64 x2, .agg #[.int .i64 fr, .int .i64 to, .bool sn, .string (str dl)]]) ?_ rfl ⟨x1, x2, ⟨fr, to, sn, (str dl)⟩, rfl, by show (str dl).size ≤ _; omega, ?_⟩
      · simp [results, Try.results7, go_sem, r0, r1, r2, r3]
      · go_grown
  · have hG2 := hG.2
    have u3 := hU.2 3 _ rfl
    go_wp2_with fail
    refine (r_below _ C len cap _ _ (by omega) hd7).mono ?_
    rintro e wA ⟨k, rfl, hk0, hk1, hdA, hOA⟩
    clear u3 hG2
    obtain ⟨K, rfl⟩ := Int.eq_ofNat_of_zero_le hk0
    replace hR0 := hR0.only hOA hne1
    replace hF0 := hF0.only hOA hne1
    replace hU := hU.only hOA hne2
    replace hG := hG.only hOA hne2
    replace hB0 := hB0.trans (hOA.below (by omega) hB0.size)
    clear hOA hd7
    have hltA := hdA.lt
    go_wp2_with (at_make; refine wpList_make_bytes rfl _ _ rfl _ _ _ _ (65506 + K) rfl rfl (by omega) (by omega) (by omega) ?_; intro wC hown hbC; have hrl : (List.replicate (65506 + K) (0 : UInt8)).length ≤ 65600 := (by rw [List.length_replicate]; omega); generalize List.replicate (65506 + K) (0 : UInt8) = rl at hown hrl; have hU2 := hU.below hbC; have hG2 := (hG.below hbC).2; have hstr := run_string_own hown; have u3 := hU2.2 3 _ rfl; have u9 := hU2.1)
    clear u3 hstr
    replace hR0 := (hR0.below hbC).other (b' := g) (j := 3) hne3 (.string (str rl))
    replace hF0 := (hF0.below hbC).set ⟨g, 3, none⟩ (.string (str rl))
    replace hU := hU2.set 3 (.string (str rl))
    replace hB0 := (hB0.trans (hbC.mono hB0.size)).setCell (p := ⟨g, 3, none⟩) (by simp; omega) (.string (str rl))
    replace hdA := (hdA.kept (hbC.mono (by omega))).kept (w' := wC.setCell ⟨g, 3, none⟩ (.string (str rl))) ((Below.refl _ wC).setCell (p := ⟨g, 3, none⟩) (by simp; omega) (.string (str rl)))
    clear hG2 hU2 hown hbC u9
    generalize wC.setCell ⟨g, 3, none⟩ (.string (str rl)) = wB at *
    have u0 := hU.2 0 _ rfl
    have u1 := hU.2 1 _ rfl
    have u2 := hU.2 2 _ rfl
    have u3 := hU.2 3 _ rfl
    have u9 := hU.1
    go_region_with ((first | (go_at_call 22; refine (r_addr _ C len cap _ hd8).mono ?_; rintro e w9 ⟨x2, rfl, _, _, hd9, hO9⟩; have hV9 := hV8.only hO9 hne2; have hS9 := hS8.only hO9 hne1; have hH9 := (hH8.only hO9 hne1).2; have hL9 := hL8.trans (hO9.below (by omega) hL8.size); have z0 := hV9.2 0 _ rfl; have z1 := hV9.2 1 _ rfl; have z2 := hV9.2 2 _ rfl; have z3 := hV9.2 3 _ rfl; have r0 := hS9.2 0 _ rfl; have r1 := hS9.2 1 _ rfl; have r2 := hS9.2 2 _ rfl; have r3 := hS9.2 3 _ rfl) | (go_at_call 22; refine (r_addr _ C len cap _ hdA.drew).mono ?_; rintro e w8 ⟨x1, rfl, _, _, hd8, hO8⟩; have hV8 := hU.drew.only hO8 hne2; have hS8 := hR0.drew.only hO8 hne1; have hH8 := hF0.drew.only hO8 hne1; have hL8 := hB0.drew.trans (hO8.below (by omega) hB0.size); have v0 := hV8.2 0 _ rfl; have v1 := hV8.2 1 _ rfl; have v2 := hV8.2 2 _ rfl; have v3 := hV8.2 3 _ rfl)))
    all_goals
      go_wp2
      refine bodyPost_ret (v := .tuple #[.int .i64 x1, .int .i64 x2, .agg #[.int .i64 fr, .int .i64 to, .bool sn, .string (str rl)]]) ?_ rfl ⟨x1, x2, ⟨fr, to, sn, (str rl)⟩, rfl, by show (str rl).size ≤ _; rw [str_size]; exact hrl, ?_⟩
      · simp [results, Try.results7, go_sem, r0, r1, r2, r3]
      · go_grown
  · have y0 : (y == 0) = false := by simp; omega
    have y1 : (y == 1) = false := by simp; omega
    have y2 : (y == 2) = false := by simp; omega
    have u0 := hU.2 0 _ rfl
    have u1 := hU.2 1 _ rfl
    have u2 := hU.2 2 _ rfl
    have u3 := hU.2 3 _ rfl
    have u9 := hU.1
    go_wp2_with fail
    go_region_with ((first | (go_at_call 22; refine (r_addr _ C len cap _ hd8).mono ?_; rintro e w9 ⟨x2, rfl, _, _, hd9, hO9⟩; have hV9 := hV8.only hO9 hne2; have hS9 := hS8.only hO9 hne1; have hH9 := (hH8.only hO9 hne1).2; have hL9 := hL8.trans (hO9.below (by omega) hL8.size); have z0 := hV9.2 0 _ rfl; have z1 := hV9.2 1 _ rfl; have z2 := hV9.2 2 _ rfl; have z3 := hV9.2 3 _ rfl; have r0 := hS9.2 0 _ rfl; have r1 := hS9.2 1 _ rfl; have r2 := hS9.2 2 _ rfl; have r3 := hS9.2 3 _ rfl) | (go_at_call 22; refine (r_addr _ C len cap _ hd7.drew).mono ?_; rintro e w8 ⟨x1, rfl, _, _, hd8, hO8⟩; have hV8 := hU.drew.only hO8 hne2; have hS8 := hR0.drew.only hO8 hne1; have hH8 := hF0.drew.only hO8 hne1; have hL8 := hB0.drew.trans (hO8.below (by omega) hB0.size); have v0 := hV8.2 0 _ rfl; have v1 := hV8.2 1 _ rfl; have v2 := hV8.2 2 _ rfl; have v3 := hV8.2 3 _ rfl)))
    all_goals
      go_wp2
      refine bodyPost_ret (v := .tuple #[.int .i64 x1, .int .i64 x2, .agg #[.int .i64 fr, .int .i64 to, .bool sn, .string (str dl)]]) ?_ rfl ⟨x1, x2, ⟨fr, to, sn, (str dl)⟩, rfl, by show (str dl).size ≤ _; omega, ?_⟩
      · simp [results, Try.results7, go_sem, r0, r1, r2, r3]
      · go_grown
end Go.Proofs.Ytjdellkdnempkaa
