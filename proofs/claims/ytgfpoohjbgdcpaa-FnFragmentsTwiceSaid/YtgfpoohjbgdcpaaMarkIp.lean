/-
  Records Ip that are marked, and held against their marks.
-/
import Derived.Test.YtgfpoohjbgdcpaaMark
import Derived.Test.YtgfpoohjbgdcpaaTabIp
namespace Go.Proofs.Ytgfpoohjbgdcpaa
open Go.RowKit Go.PlainAid
def iqM (j : Nat) : IpV := ⟨1 + (j : Int) * 11, 1 + (j : Int) * 11 + 1, (1 + (j : Int) * 11 + 1 + 1) % 3 == 0, (1 + (j : Int) * 11 + 1 + 1 + 1) % 3 == 0, 1 + (j : Int) * 11 + 1 + 1 + 1 + 1, 1 + (j : Int) * 11 + 1 + 1 + 1 + 1 + 1, 1 + (j : Int) * 11 + 1 + 1 + 1 + 1 + 1 + 1, 1 + (j : Int) * 11 + 1 + 1 + 1 + 1 + 1 + 1 + 1, 1 + (j : Int) * 11 + 1 + 1 + 1 + 1 + 1 + 1 + 1 + 1, mkT (10 + j * 11), mkT (11 + j * 11)⟩
def iqMk (n : Nat) : List IpV := (List.range n).map iqM
theorem iqMk_len (n : Nat) : (iqMk n).length = n := by simp [iqMk]
theorem iqMk_at (n j : Nat) (h : j < n) : iqA (iqMk n) j = iqM j := by
  rw [iqA_eq _ _ (by rw [iqMk_len]; exact h)]; simp [iqMk]
set_option maxRecDepth 100000 in
set_option maxHeartbeats 3200000 in
theorem l_markIpS (B : Nat) (T : Option Addr) (n c : Nat) (xs : List Value) (w : World) (h : ownV w B 28 11 (.slice T n c) n xs) (hn : n ≤ 1048576) :
    Calls Try.prog 13 #[.slice T n c, .int .i64 1] w fun e w' => e = .returned (.int .i64 (1 + (n : Int) * 11)) ∧ ownV w' B 28 11 (.slice T n c) n (iqF (iqMk n)) ∧ w.grownBy w' (Value.slice T n c).ownBlock := by
  have hxl := h.len
  have CM : Hid (∀ (k : Nat) (u : World), 1 ≤ k → k ≤ 1000000000 → Calls Try.prog 35 #[.int .i64 (k : Int)] u fun e w' => e = .returned (.string (mkT k)) ∧ Below u.heap.size u w') := fun k u h1 h2 => l_markText k u h1 h2
  have hml := iqMk_len n
  go_enter Try.func13, Try.ntmps13
  go_wp2
  go_loopw [5, 1] (fun i q wr => ∃ j : Nat, j ≤ n ∧ i = .int .i64 (j : Int) ∧ q = .int .i64 (1 + (j : Int) * 11) ∧ ownV wr B 28 11 (.slice T n c) n (iqF ((iqMk n).take j) ++ xs.drop (j * 11)) ∧ w.grownBy wr (Value.slice T n c).ownBlock) (fun i _ _ => ((n : Int) - intOf i).toNat)
  case atStart => exact ⟨0, by omega, rfl, rfl, by simpa [iqF, flatV] using h, grownBy_refl _ _⟩
  case round =>
    obtain ⟨j, hj, rfl, rfl, hown, hg⟩ := hrel
    by_cases hlt : j < n
    · rcases hown.shape with ⟨_, h0, _⟩ | ⟨g, cap, hv, hB, hgs, hcap⟩
      · omega
      · simp only [Value.slice.injEq] at hv
        obtain ⟨rfl, _, rfl⟩ := hv
        have hj1 : (j : Int) < (n : Int) := by omega
        have HF : Hid (((((((((((((iqF ((iqMk n).take j) ++ xs.drop (j * 11)).set (j * 11) (.int .i64 (1 + (j : Int) * 11))).set (j * 11 + 1) (.int .i64 (1 + (j : Int) * 11 + 1))).set (j * 11 + 2) (.bool ((1 + (j : Int) * 11 + 1 + 1) % 3 == 0))).set (j * 11 + 3) (.bool ((1 + (j : Int) * 11 + 1 + 1 + 1) % 3 == 0))).set (j * 11 + 4) (.int .i64 (1 + (j : Int) * 11 + 1 + 1 + 1 + 1))).set (j * 11 + 5) (.int .i64 (1 + (j : Int) * 11 + 1 + 1 + 1 + 1 + 1))).set (j * 11 + 6) (.int .i64 (1 + (j : Int) * 11 + 1 + 1 + 1 + 1 + 1 + 1))).set (j * 11 + 7) (.int .i64 (1 + (j : Int) * 11 + 1 + 1 + 1 + 1 + 1 + 1 + 1))).set (j * 11 + 8) (.int .i64 (1 + (j : Int) * 11 + 1 + 1 + 1 + 1 + 1 + 1 + 1 + 1))).set (j * 11 + 9) (.string (mkT (10 + j * 11)))).set (j * 11 + 10) (.string (mkT (11 + j * 11)))) = iqF ((iqMk n).take (j + 1)) ++ xs.drop ((j + 1) * 11)) := by
          have := iq_fill (iqMk n) xs (by rw [hml]; exact hxl) j (by rw [hml]; exact hlt)
          rw [iqMk_at n j hlt] at this
          exact this
        generalize iqF ((iqMk n).take j) ++ xs.drop (j * 11) = ys at *
        have CM9 : Hid (∀ u : World, Calls Try.prog 35 #[.int .i64 (1 + (j : Int) * 11 + 1 + 1 + 1 + 1 + 1 + 1 + 1 + 1 + 1)] u fun e w' => e = .returned (.string (mkT (10 + j * 11))) ∧ Below u.heap.size u w') := fun u => by
          have := CM.out (10 + j * 11) u (by omega) (by omega)
          rw [show ((10 + j * 11 : Nat) : Int) = 1 + (j : Int) * 11 + 1 + 1 + 1 + 1 + 1 + 1 + 1 + 1 + 1 by omega] at this
          exact this
        have CM10 : Hid (∀ u : World, Calls Try.prog 35 #[.int .i64 (1 + (j : Int) * 11 + 1 + 1 + 1 + 1 + 1 + 1 + 1 + 1 + 1 + 1)] u fun e w' => e = .returned (.string (mkT (11 + j * 11))) ∧ Below u.heap.size u w') := fun u => by
          have := CM.out (11 + j * 11) u (by omega) (by omega)
          rw [show ((11 + j * 11 : Nat) : Int) = 1 + (j : Int) * 11 + 1 + 1 + 1 + 1 + 1 + 1 + 1 + 1 + 1 + 1 by omega] at this
          exact this
        clear CM
        generalize mkT (10 + j * 11) = mt9 at *
        generalize mkT (11 + j * 11) = mt10 at *
        obtain ⟨x0, hx0⟩ := hown.has (j * 11) (by omega)
        have hf0 := hown.frozen (j * 11)
        obtain ⟨x1, hx1⟩ := hown.has (j * 11 + 1) (by omega)
        have hf1 := hown.frozen (j * 11 + 1)
        obtain ⟨x2, hx2⟩ := hown.has (j * 11 + 2) (by omega)
        have hf2 := hown.frozen (j * 11 + 2)
        obtain ⟨x3, hx3⟩ := hown.has (j * 11 + 3) (by omega)
        have hf3 := hown.frozen (j * 11 + 3)
        obtain ⟨x4, hx4⟩ := hown.has (j * 11 + 4) (by omega)
        have hf4 := hown.frozen (j * 11 + 4)
        obtain ⟨x5, hx5⟩ := hown.has (j * 11 + 5) (by omega)
        have hf5 := hown.frozen (j * 11 + 5)
        obtain ⟨x6, hx6⟩ := hown.has (j * 11 + 6) (by omega)
        have hf6 := hown.frozen (j * 11 + 6)
        obtain ⟨x7, hx7⟩ := hown.has (j * 11 + 7) (by omega)
        have hf7 := hown.frozen (j * 11 + 7)
        obtain ⟨x8, hx8⟩ := hown.has (j * 11 + 8) (by omega)
        have hf8 := hown.frozen (j * 11 + 8)
        have hO0 := (((((((((hown).stored (j * 11) (.int .i64 (1 + (j : Int) * 11))).stored (j * 11 + 1) (.int .i64 (1 + (j : Int) * 11 + 1))).stored (j * 11 + 2) (.bool ((1 + (j : Int) * 11 + 1 + 1) % 3 == 0))).stored (j * 11 + 3) (.bool ((1 + (j : Int) * 11 + 1 + 1 + 1) % 3 == 0))).stored (j * 11 + 4) (.int .i64 (1 + (j : Int) * 11 + 1 + 1 + 1 + 1))).stored (j * 11 + 5) (.int .i64 (1 + (j : Int) * 11 + 1 + 1 + 1 + 1 + 1))).stored (j * 11 + 6) (.int .i64 (1 + (j : Int) * 11 + 1 + 1 + 1 + 1 + 1 + 1))).stored (j * 11 + 7) (.int .i64 (1 + (j : Int) * 11 + 1 + 1 + 1 + 1 + 1 + 1 + 1))).stored (j * 11 + 8) (.int .i64 (1 + (j : Int) * 11 + 1 + 1 + 1 + 1 + 1 + 1 + 1 + 1))
        have hG0 := grown_set (grown_set (grown_set (grown_set (grown_set (grown_set (grown_set (grown_set (grown_set (hg) ⟨g, j * 11, none⟩ (.int .i64 (1 + (j : Int) * 11)) rfl) ⟨g, j * 11 + 1, none⟩ (.int .i64 (1 + (j : Int) * 11 + 1)) rfl) ⟨g, j * 11 + 2, none⟩ (.bool ((1 + (j : Int) * 11 + 1 + 1) % 3 == 0)) rfl) ⟨g, j * 11 + 3, none⟩ (.bool ((1 + (j : Int) * 11 + 1 + 1 + 1) % 3 == 0)) rfl) ⟨g, j * 11 + 4, none⟩ (.int .i64 (1 + (j : Int) * 11 + 1 + 1 + 1 + 1)) rfl) ⟨g, j * 11 + 5, none⟩ (.int .i64 (1 + (j : Int) * 11 + 1 + 1 + 1 + 1 + 1)) rfl) ⟨g, j * 11 + 6, none⟩ (.int .i64 (1 + (j : Int) * 11 + 1 + 1 + 1 + 1 + 1 + 1)) rfl) ⟨g, j * 11 + 7, none⟩ (.int .i64 (1 + (j : Int) * 11 + 1 + 1 + 1 + 1 + 1 + 1 + 1)) rfl) ⟨g, j * 11 + 8, none⟩ (.int .i64 (1 + (j : Int) * 11 + 1 + 1 + 1 + 1 + 1 + 1 + 1 + 1)) rfl
        go_wp2_with fail
        generalize hW0 : ((((((((wr.setCell ⟨g, j * 11, none⟩ (.int .i64 (1 + (j : Int) * 11))).setCell ⟨g, j * 11 + 1, none⟩ (.int .i64 (1 + (j : Int) * 11 + 1))).setCell ⟨g, j * 11 + 2, none⟩ (.bool ((1 + (j : Int) * 11 + 1 + 1) % 3 == 0))).setCell ⟨g, j * 11 + 3, none⟩ (.bool ((1 + (j : Int) * 11 + 1 + 1 + 1) % 3 == 0))).setCell ⟨g, j * 11 + 4, none⟩ (.int .i64 (1 + (j : Int) * 11 + 1 + 1 + 1 + 1))).setCell ⟨g, j * 11 + 5, none⟩ (.int .i64 (1 + (j : Int) * 11 + 1 + 1 + 1 + 1 + 1))).setCell ⟨g, j * 11 + 6, none⟩ (.int .i64 (1 + (j : Int) * 11 + 1 + 1 + 1 + 1 + 1 + 1))).setCell ⟨g, j * 11 + 7, none⟩ (.int .i64 (1 + (j : Int) * 11 + 1 + 1 + 1 + 1 + 1 + 1 + 1))).setCell ⟨g, j * 11 + 8, none⟩ (.int .i64 (1 + (j : Int) * 11 + 1 + 1 + 1 + 1 + 1 + 1 + 1 + 1)) = v0 at *
        clear hW0
        go_at_call 35
        refine (CM9.out _).mono ?_
        rintro e w3 ⟨rfl, hX⟩
        replace hO0 := hO0.far hX
        replace hG0 : w.grownBy w3 (Value.slice (some ⟨g, 0, none⟩) n c).ownBlock := ⟨hX.os.trans hG0.os, hX.tape.trans hG0.tape, hX.output.trans hG0.output, Nat.le_trans hG0.size hX.size, fun k hk hne => (hX.block k (Nat.lt_of_lt_of_le hk hG0.size)).trans (hG0.block k hk hne)⟩
        clear hX CM9 hown hg hx0 hf0 hx1 hf1 hx2 hf2 hx3 hf3 hx4 hf4 hx5 hf5 hx6 hf6 hx7 hf7 hx8 hf8
        obtain ⟨x9, hx9⟩ := hO0.has (j * 11 + 9) (by omega)
        have hf9 := hO0.frozen (j * 11 + 9)
        have hO1 := (hO0).stored (j * 11 + 9) (.string mt9)
        have hG1 := grown_set (hG0) ⟨g, j * 11 + 9, none⟩ (.string mt9) rfl
        go_wp2_with fail
        generalize hW1 : w3.setCell ⟨g, j * 11 + 9, none⟩ (.string mt9) = v1 at *
        clear hW1
        go_at_call 35
        refine (CM10.out _).mono ?_
        rintro e w4 ⟨rfl, hX⟩
        replace hO1 := hO1.far hX
        replace hG1 : w.grownBy w4 (Value.slice (some ⟨g, 0, none⟩) n c).ownBlock := ⟨hX.os.trans hG1.os, hX.tape.trans hG1.tape, hX.output.trans hG1.output, Nat.le_trans hG1.size hX.size, fun k hk hne => (hX.block k (Nat.lt_of_lt_of_le hk hG1.size)).trans (hG1.block k hk hne)⟩
        clear hX CM10 hO0 hG0 hx9 hf9
        obtain ⟨x10, hx10⟩ := hO1.has (j * 11 + 10) (by omega)
        have hf10 := hO1.frozen (j * 11 + 10)
        have hO2 := (hO1).stored (j * 11 + 10) (.string mt10)
        have hG2 := grown_set (hG1) ⟨g, j * 11 + 10, none⟩ (.string mt10) rfl
        rw [HF.out] at hO2
        go_wp2
        go_roundw
        case rel => exact ⟨j + 1, by omega, by go_num, by go_num, hO2, hG2⟩
        case measure => simp [intOf]; omega
    · have e : j = n := by omega
      subst e
      go_wp2
      go_ret
      exact ⟨rfl, by rw [List.drop_eq_nil_of_le (by omega), List.append_nil, List.take_of_length_le (by rw [hml]; exact Nat.le_refl _)] at hown; exact hown, hg⟩
set_option maxRecDepth 100000 in
set_option maxHeartbeats 3200000 in
theorem l_heldIpS (B : Nat) (T : Option Addr) (n c : Nat) (w : World) (h : ownV w B 28 11 (.slice T n c) n (iqF (iqMk n))) (hn : n ≤ 1048576) :
    Calls Try.prog 14 #[.slice T n c, .int .i64 1] w fun e w' => e = .returned (.int .i64 (1 + (n : Int) * 11)) ∧ Below w.heap.size w w' := by
  have CM : Hid (∀ (k : Nat) (u : World), 1 ≤ k → k ≤ 1000000000 → Calls Try.prog 35 #[.int .i64 (k : Int)] u fun e w' => e = .returned (.string (mkT k)) ∧ Below u.heap.size u w') := fun k u h1 h2 => l_markText k u h1 h2
  have hml := iqMk_len n
  go_enter Try.func14, Try.ntmps14
  go_wp2
  go_loopw [5, 1] (fun i q wr => ∃ j : Nat, j ≤ n ∧ i = .int .i64 (j : Int) ∧ q = .int .i64 (1 + (j : Int) * 11) ∧ Below w.heap.size w wr) (fun i _ _ => ((n : Int) - intOf i).toNat)
  case atStart => exact ⟨0, by omega, rfl, rfl, Below.refl _ _⟩
  case round =>
    obtain ⟨j, hj, rfl, rfl, hb⟩ := hrel
    by_cases hlt : j < n
    · have hown := h.far hb
      rcases hown.shape with ⟨_, h0, _⟩ | ⟨g, cap, hv, hB, hgs, hcap⟩
      · omega
      · simp only [Value.slice.injEq] at hv
        obtain ⟨rfl, _, rfl⟩ := hv
        have hj1 : (j : Int) < (n : Int) := by omega
        have hat := fun k hk => iqF_at (iqMk n) j (by rw [hml]; exact hlt) k hk
        rw [iqMk_at n j hlt] at hat
        have hx0 := (hown.cell (j * 11) (by omega)).trans (hat 0 (by omega))
        have hx1 := (hown.cell (j * 11 + 1) (by omega)).trans (hat 1 (by omega))
        have hx2 := (hown.cell (j * 11 + 2) (by omega)).trans (hat 2 (by omega))
        have hx3 := (hown.cell (j * 11 + 3) (by omega)).trans (hat 3 (by omega))
        have hx4 := (hown.cell (j * 11 + 4) (by omega)).trans (hat 4 (by omega))
        have hx5 := (hown.cell (j * 11 + 5) (by omega)).trans (hat 5 (by omega))
        have hx6 := (hown.cell (j * 11 + 6) (by omega)).trans (hat 6 (by omega))
        have hx7 := (hown.cell (j * 11 + 7) (by omega)).trans (hat 7 (by omega))
        have hx8 := (hown.cell (j * 11 + 8) (by omega)).trans (hat 8 (by omega))
        have hx9 := (hown.cell (j * 11 + 9) (by omega)).trans (hat 9 (by omega))
        have hx10 := (hown.cell (j * 11 + 10) (by omega)).trans (hat 10 (by omega))
        simp only [ipL, iqM, List.getElem?_cons_zero, List.getElem?_cons_succ] at hx0 hx1 hx2 hx3 hx4 hx5 hx6 hx7 hx8 hx9 hx10
        have CM9 : Hid (∀ u : World, Calls Try.prog 35 #[.int .i64 (1 + (j : Int) * 11 + 1 + 1 + 1 + 1 + 1 + 1 + 1 + 1 + 1)] u fun e w' => e = .returned (.string (mkT (10 + j * 11))) ∧ Below u.heap.size u w') := fun u => by
          have := CM.out (10 + j * 11) u (by omega) (by omega)
          rw [show ((10 + j * 11 : Nat) : Int) = 1 + (j : Int) * 11 + 1 + 1 + 1 + 1 + 1 + 1 + 1 + 1 + 1 by omega] at this
          exact this
        have hs9 : ((mkT (10 + j * 11)).toList == (mkT (10 + j * 11)).toList) = true := by simp
        have CM10 : Hid (∀ u : World, Calls Try.prog 35 #[.int .i64 (1 + (j : Int) * 11 + 1 + 1 + 1 + 1 + 1 + 1 + 1 + 1 + 1 + 1)] u fun e w' => e = .returned (.string (mkT (11 + j * 11))) ∧ Below u.heap.size u w') := fun u => by
          have := CM.out (11 + j * 11) u (by omega) (by omega)
          rw [show ((11 + j * 11 : Nat) : Int) = 1 + (j : Int) * 11 + 1 + 1 + 1 + 1 + 1 + 1 + 1 + 1 + 1 + 1 by omega] at this
          exact this
        have hs10 : ((mkT (11 + j * 11)).toList == (mkT (11 + j * 11)).toList) = true := by simp
        have hs2 : (((1 + (j : Int) * 11 + 1 + 1) % 3 == 0) != ((1 + (j : Int) * 11 + 1 + 1) % 3 == 0)) = false := by simp
        have hs3 : (((1 + (j : Int) * 11 + 1 + 1 + 1) % 3 == 0) != ((1 + (j : Int) * 11 + 1 + 1 + 1) % 3 == 0)) = false := by simp
        clear CM hat hown
        generalize mkT (10 + j * 11) = mt9 at *
        generalize mkT (11 + j * 11) = mt10 at *
        go_wp2_with fail
        have hne := BW.some wr
        have a9 := fun u : BW wr => (u.le.cell (p := ⟨g, j * 11 + 9, none⟩) hgs).trans hx9
        refine wp_region_below (by kernel_rfl) (by kernel_rfl) ?_
        repeat (go_big_quiet_step (first | (go_at_call 35; exact Calls.into (CM9.out _))))
        refine wpQuiet_nil ?_
        intro _ hw'
        obtain ⟨u, hw''⟩ := hw'
        subst hw''
        clear a9 hne hx9
        have hb9 := hb.trans (u.le.mono hb.size)
        replace hx10 := (u.le.cell (p := ⟨g, j * 11 + 10, none⟩) hgs).trans hx10
        replace hgs := Nat.lt_of_lt_of_le hgs u.le.size
        generalize hU : u.u = U9 at *
        clear hU u
        go_wp2_with fail
        have hne := BW.some U9
        have a10 := fun u : BW U9 => (u.le.cell (p := ⟨g, j * 11 + 10, none⟩) hgs).trans hx10
        refine wp_region_below (by kernel_rfl) (by kernel_rfl) ?_
        repeat (go_big_quiet_step (first | (go_at_call 35; exact Calls.into (CM10.out _))))
        refine wpQuiet_nil ?_
        intro _ hw'
        obtain ⟨u, hw''⟩ := hw'
        subst hw''
        clear a10 hne hx10
        have hb10 := hb9.trans (u.le.mono hb9.size)
        replace hgs := Nat.lt_of_lt_of_le hgs u.le.size
        generalize hU : u.u = U10 at *
        clear hU u
        go_wp2
        go_roundw
        case rel => exact ⟨j + 1, by omega, by go_num, by go_num, hb10⟩
        case measure => simp [intOf]; omega
    · have e : j = n := by omega
      subst e
      go_wp2
      go_ret
      exact ⟨rfl, hb⟩
end Go.Proofs.Ytgfpoohjbgdcpaa
