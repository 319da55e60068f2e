/-
  Options that are marked, and held against their marks.
-/
import Derived.Test.YtnheppkjeoiipaaMark
import Derived.Test.YtnheppkjeoiipaaTabOpt
namespace Go.Proofs.Ytnheppkjeoiipaa
open Go.RowKit Go.PlainAid
def opM (j : Nat) : OpV := ⟨1 + (j : Int) * 3, 1 + (j : Int) * 3 + 1, mkT (3 + j * 3)⟩
def opMk (n : Nat) : List OpV := (List.range n).map opM
theorem opMk_len (n : Nat) : (opMk n).length = n := by simp [opMk]
theorem opMk_at (n j : Nat) (h : j < n) : opA (opMk n) j = opM j := by
  rw [opA_eq _ _ (by rw [opMk_len]; exact h)]; simp [opMk]
theorem cell_not {w : World} {g j : Nat} {v : Value} (h : w.cell? ⟨g, j, none⟩ = some v) : g < w.heap.size := lt_of_cell h
set_option maxRecDepth 100000 in
set_option maxHeartbeats 3200000 in
theorem l_markOptS (B : Nat) (T : Option Addr) (n c : Nat) (xs : List Value) (w : World) (h : ownV w B 33 3 (.slice T n c) n xs) (hn : n ≤ 1048576) :
    Calls Try.prog 47 #[.slice T n c, .int .i64 1] w fun e w' => e = .returned (.int .i64 (1 + (n : Int) * 3)) ∧ ownV w' B 33 3 (.slice T n c) n (opF (opMk n)) ∧ w.grownBy w' (Value.slice T n c).ownBlock := by
  have hxl := h.len
  have CM : Hid (∀ (k : Nat) (u : World), 1 ≤ k → k ≤ 1000000000 → Calls Try.prog 72 #[.int .i64 (k : Int)] u fun e w' => e = .returned (.string (mkT k)) ∧ Below u.heap.size u w') := fun k u h1 h2 => l_markText k u h1 h2
  have hml := opMk_len n
  go_enter Try.func47, Try.ntmps47
  go_wp2
  go_loopw [5, 1] (fun i q wr => ∃ j : Nat, j ≤ n ∧ i = .int .i64 (j : Int) ∧ q = .int .i64 (1 + (j : Int) * 3) ∧ ownV wr B 33 3 (.slice T n c) n (opF ((opMk n).take j) ++ xs.drop (j * 3)) ∧ w.grownBy wr (Value.slice T n c).ownBlock) (fun i _ _ => ((n : Int) - intOf i).toNat)
  case atStart => exact ⟨0, by omega, rfl, rfl, by simpa [opF, flatV] using h, grownBy_refl _ _⟩
  case round =>
    obtain ⟨j, hj, rfl, rfl, hown, hg⟩ := hrel
    by_cases hlt : j < n
    · rcases hown.shape with ⟨_, h0, _⟩ | ⟨g, cap, hv, hB, hgs, hcap⟩
      · omega
      · simp only [Value.slice.injEq] at hv
        obtain ⟨rfl, _, rfl⟩ := hv
        have hj1 : (j : Int) < (n : Int) := by omega
        have HF : Hid (((((opF ((opMk n).take j) ++ xs.drop (j * 3)).set (j * 3) (.int .i64 (1 + (j : Int) * 3))).set (j * 3 + 1) (.int .i64 (1 + (j : Int) * 3 + 1))).set (j * 3 + 2) (.string (mkT (3 + j * 3)))) = opF ((opMk n).take (j + 1)) ++ xs.drop ((j + 1) * 3)) := by
          have := op_fill (opMk n) xs (by rw [hml]; exact hxl) j (by rw [hml]; exact hlt)
          rw [opMk_at n j hlt] at this
          exact this
        generalize opF ((opMk n).take j) ++ xs.drop (j * 3) = ys at *
        obtain ⟨x0, hx0⟩ := hown.has (j * 3) (by omega)
        obtain ⟨x1, hx1⟩ := hown.has (j * 3 + 1) (by omega)
        have hf0 := hown.frozen (j * 3)
        have hf1 := hown.frozen (j * 3 + 1)
        have hO2 := (hown.stored (j * 3) (.int .i64 (1 + (j : Int) * 3))).stored (j * 3 + 1) (.int .i64 (1 + (j : Int) * 3 + 1))
        have hg2 := grown_set (grown_set hg ⟨g, j * 3, none⟩ (.int .i64 (1 + (j : Int) * 3)) rfl) ⟨g, j * 3 + 1, none⟩ (.int .i64 (1 + (j : Int) * 3 + 1)) rfl
        have CM2 : Hid (∀ u : World, Calls Try.prog 72 #[.int .i64 (1 + (j : Int) * 3 + 2)] u fun e w' => e = .returned (.string (mkT (3 + j * 3))) ∧ Below u.heap.size u w') := fun u => by
          have := CM.out (3 + j * 3) u (by omega) (by omega)
          rw [show ((3 + j * 3 : Nat) : Int) = 1 + (j : Int) * 3 + 2 by omega] at this
          exact this
        clear CM
        go_wp2_with fail
        generalize (wr.setCell ⟨g, j * 3, none⟩ (.int .i64 (1 + (j : Int) * 3))).setCell ⟨g, j * 3 + 1, none⟩ (.int .i64 (1 + (j : Int) * 3 + 1)) = w2 at *
        go_at_call 72
        refine (CM2.out _).mono ?_
        rintro e w3 ⟨rfl, hX⟩
        replace hO2 := hO2.far hX
        replace hg2 : w.grownBy w3 (Value.slice (some ⟨g, 0, none⟩) n c).ownBlock := ⟨hX.os.trans hg2.os, hX.tape.trans hg2.tape, hX.output.trans hg2.output, Nat.le_trans hg2.size hX.size, fun k hk hne => (hX.block k (Nat.lt_of_lt_of_le hk hg2.size)).trans (hg2.block k hk hne)⟩
        clear hX CM2 hx0 hx1 hf0 hf1
        obtain ⟨x2, hx2⟩ := hO2.has (j * 3 + 2) (by omega)
        have hf2 := hO2.frozen (j * 3 + 2)
        have hO3 := hO2.stored (j * 3 + 2) (.string (mkT (3 + j * 3)))
        have hg3 := grown_set hg2 ⟨g, j * 3 + 2, none⟩ (.string (mkT (3 + j * 3))) rfl
        rw [HF.out] at hO3
        generalize mkT (3 + j * 3) = mt at *
        go_wp2
        go_roundw
        case rel => exact ⟨j + 1, by omega, by go_num, by go_num, hO3, hg3⟩
        case measure => simp [intOf]; omega
    · have e : j = n := by omega
      subst e
      go_wp2
      go_ret
      exact ⟨rfl, by rw [List.drop_eq_nil_of_le (by omega), List.append_nil, List.take_of_length_le (by rw [hml]; exact Nat.le_refl _)] at hown; exact hown, hg⟩
set_option maxRecDepth 100000 in
set_option maxHeartbeats 3200000 in
theorem l_heldOptS (B : Nat) (T : Option Addr) (n c : Nat) (w : World) (h : ownV w B 33 3 (.slice T n c) n (opF (opMk n))) (hn : n ≤ 1048576) :
    Calls Try.prog 48 #[.slice T n c, .int .i64 1] w fun e w' => e = .returned (.int .i64 (1 + (n : Int) * 3)) ∧ Below w.heap.size w w' := by
  have CM : Hid (∀ (k : Nat) (u : World), 1 ≤ k → k ≤ 1000000000 → Calls Try.prog 72 #[.int .i64 (k : Int)] u fun e w' => e = .returned (.string (mkT k)) ∧ Below u.heap.size u w') := fun k u h1 h2 => l_markText k u h1 h2
  have hml := opMk_len n
  go_enter Try.func48, Try.ntmps48
  go_wp2
  go_loopw [5, 1] (fun i q wr => ∃ j : Nat, j ≤ n ∧ i = .int .i64 (j : Int) ∧ q = .int .i64 (1 + (j : Int) * 3) ∧ Below w.heap.size w wr) (fun i _ _ => ((n : Int) - intOf i).toNat)
  case atStart => exact ⟨0, by omega, rfl, rfl, Below.refl _ _⟩
  case round =>
    obtain ⟨j, hj, rfl, rfl, hb⟩ := hrel
    by_cases hlt : j < n
    · have hown := h.far hb
      rcases hown.shape with ⟨_, h0, _⟩ | ⟨g, cap, hv, hB, hgs, hcap⟩
      · omega
      · simp only [Value.slice.injEq] at hv
        obtain ⟨rfl, _, rfl⟩ := hv
        have hj1 : (j : Int) < (n : Int) := by omega
        have hat := fun k hk => opF_at (opMk n) j (by rw [hml]; exact hlt) k hk
        rw [opMk_at n j hlt] at hat
        have hx0 := (hown.cell (j * 3) (by omega)).trans (hat 0 (by omega))
        have hx1 := (hown.cell (j * 3 + 1) (by omega)).trans (hat 1 (by omega))
        have hx2 := (hown.cell (j * 3 + 2) (by omega)).trans (hat 2 (by omega))
        simp only [opL, opM, List.getElem?_cons_zero, List.getElem?_cons_succ] at hx0 hx1 hx2
        have CM2 : Hid (∀ u : World, Calls Try.prog 72 #[.int .i64 (1 + (j : Int) * 3 + 2)] u fun e w' => e = .returned (.string (mkT (3 + j * 3))) ∧ Below u.heap.size u w') := fun u => by
          have := CM.out (3 + j * 3) u (by omega) (by omega)
          rw [show ((3 + j * 3 : Nat) : Int) = 1 + (j : Int) * 3 + 2 by omega] at this
          exact this
        have hb9 : ((mkT (3 + j * 3)).toList == (mkT (3 + j * 3)).toList) = true := by simp
        clear CM hat hown
        generalize mkT (3 + j * 3) = mt at *
        go_wp2_with fail
        have hne := BW.some wr
        have a2 := fun u : BW wr => (u.le.cell (p := ⟨g, j * 3 + 2, none⟩) hgs).trans hx2
        refine wp_region_below (by kernel_rfl) (by kernel_rfl) ?_
        repeat (go_big_quiet_step (first | (go_at_call 72; exact Calls.into (CM2.out _))))
        refine wpQuiet_nil ?_
        intro _ hw'
        obtain ⟨u, hw''⟩ := hw'
        subst hw''
        clear a2 hne
        have hB3 := hb.trans (u.le.mono hb.size)
        generalize hU : u.u = U at *
        clear hU u
        go_wp2
        go_roundw
        case rel => exact ⟨j + 1, by omega, by go_num, by go_num, hB3⟩
        case measure => simp [intOf]; omega
    · have e : j = n := by omega
      subst e
      go_wp2
      go_ret
      exact ⟨rfl, hb⟩
end Go.Proofs.Ytnheppkjeoiipaa
