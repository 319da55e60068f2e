/-
  Pieces: where one ends, which lists of them are right; the model and the program.
-/
import Derived.Test.YtfaaopcmgadkjaaTabPiece
import Derived.Test.YtfaaopcmgadkjaaWalks4
namespace Go.Proofs.Ytfaaopcmgadkjaa
open Go.RowKit Go.PlainAid
def pcEnd (a : PcV) : Int := a.pos + (a.data.size : Int)
/-- the i-th one is right, and behind the one ahead of it -/
def pcOne (l : List PcV) (i : Nat) : Bool := decide (0 ≤ (pcA l i).pos) && decide (0 < (pcA l i).data.size) && decide (pcEnd (pcA l i) ≤ 65515) && (decide (i = 0) || decide (pcEnd (pcA l (i - 1)) < (pcA l i).pos))
def pcOk (l : List PcV) : Bool := (List.range l.length).all (pcOne l) && decide (l.length ≤ 16)
theorem pcOk_yes {l : List PcV} (h : ∀ i, i < l.length → pcOne l i = true) : pcOk l = decide (l.length ≤ 16) := by
  have : (List.range l.length).all (pcOne l) = true := List.all_eq_true.2 fun i hi => h i (List.mem_range.1 hi)
  unfold pcOk; rw [this]; rfl
theorem pcOk_no {l : List PcV} {i : Nat} (hi : i < l.length) (h : pcOne l i = false) : pcOk l = false := by
  have : (List.range l.length).all (pcOne l) = false := by
    rw [List.all_eq_false]; exact ⟨i, List.mem_range.2 hi, by rw [h]; decide⟩
  unfold pcOk; rw [this]; rfl
theorem pcOne_iff {l : List PcV} {i : Nat} : pcOne l i = true ↔ 0 ≤ (pcA l i).pos ∧ 0 < (pcA l i).data.size ∧ pcEnd (pcA l i) ≤ 65515 ∧ (i = 0 ∨ pcEnd (pcA l (i - 1)) < (pcA l i).pos) := by
  unfold pcOne; simp [and_assoc]
/-- each has at most a million bytes -/
def pcShort (l : List PcV) : Prop := ∀ i, i < l.length → (pcA l i).data.size ≤ 1048576
set_option maxRecDepth 100000 in
theorem s_l8End (x : Int) (d : ByteArray) (w : World) (h0 : 0 ≤ x) (h1 : x ≤ 65515) (h2 : d.size ≤ 1048576) :
    Calls Try.prog 65 #[.agg #[.int .i64 x, .string d]] w fun e w' => e = .returned (.int .i64 (x + (d.size : Int))) ∧ Below w.heap.size w w' := by
  go_enter Try.func65, Try.ntmps65
  go_wp2
  go_ret
  exact ⟨rfl, (Below.refl _ w).alloc (Nat.le_refl _) _⟩
set_option maxRecDepth 100000 in
theorem i_pieceEnd (x : Int) (d : ByteArray) (w : World) (h0 : 0 ≤ x) (h1 : x ≤ 65515) (h2 : d.size ≤ 1048576) :
    Calls Try.prog 68 #[.agg #[.int .i64 x, .string d]] w fun e w' => e = .returned (.int .i64 (x + (d.size : Int))) ∧ Below w.heap.size w w' := by
  go_enter Try.func68, Try.ntmps68
  go_wp2
  go_ret
  exact ⟨rfl, (Below.refl _ w).alloc (Nat.le_refl _) _⟩
def reachB (x : Int) (d : ByteArray) : Bool := decide (0 ≤ x) && decide (x + (d.size : Int) ≤ 65515)
theorem reachB_iff (x : Int) (d : ByteArray) : reachB x d = true ↔ 0 ≤ x ∧ x + (d.size : Int) ≤ 65515 := by
  unfold reachB; rw [Bool.and_eq_true, decide_eq_true_iff, decide_eq_true_iff]
set_option maxRecDepth 100000 in
theorem i_isInReach (x : Int) (d : ByteArray) (w : World) (h2 : d.size ≤ 1048576) :
    Calls Try.prog 67 #[.int .i64 x, .string d] w fun e w' => e = .returned (.bool (reachB x d)) ∧ Below w.heap.size w w' := by
  go_enter Try.func67, Try.ntmps67
  by_cases h0 : 0 ≤ x
  all_goals
    go_wp2
    go_ret
    exact ⟨ret_bool (by unfold reachB; rw [Bool.eq_iff_iff]; simp; omega), Below.refl _ _⟩
set_option maxRecDepth 100000 in
set_option maxHeartbeats 6400000 in
theorem s_PiecesOk (T : Option Addr) (c : Nat) (l : List PcV) (w : World) (h : CellsAt w T (pcF l)) (hl : l.length ≤ 1099511627776) (hs : pcShort l) :
    Calls Try.prog 30 #[.slice T l.length c] w fun e w' => e = .returned (.bool (pcOk l)) ∧ Below w.heap.size w w' := by
  have HY : Hid ((∀ i, i < l.length → pcOne l i = true) → pcOk l = decide (l.length ≤ 16)) := pcOk_yes
  have HN0 : Hid (∀ i, i < l.length → pcOne l i = false → pcOk l = false) := fun i hi h => pcOk_no hi h
  have CE : Hid (∀ (x : Int) (d : ByteArray) (u : World), 0 ≤ x → x ≤ 65515 → d.size ≤ 1048576 → Calls Try.prog 65 #[.agg #[.int .i64 x, .string d]] u fun e w' => e = .returned (.int .i64 (x + (d.size : Int))) ∧ Below u.heap.size u w') := fun x d u a b c => s_l8End x d u a b c
  generalize pcOk l = t at *
  go_enter Try.func30, Try.ntmps30
  go_wp2
  go_loopw [3] (fun i wr => ∃ j : Nat, j ≤ l.length ∧ i = .int .i64 (j : Int) ∧ Hid (∀ i, i < j → pcOne l i = true) ∧ Below w.heap.size w wr) (fun i _ => ((l.length : Int) - intOf i).toNat)
  case atStart => exact ⟨0, by omega, rfl, fun i hi => by omega, Below.refl _ _⟩
  case round =>
    obtain ⟨j, hj, rfl, hst, hb⟩ := hrel
    by_cases hlt : j < l.length
    · rcases h.below hb with h | ⟨g, off, rfl, hg, hc⟩
      · have := pcF_len l; rw [h] at this; simp at this; omega
      · have hj1 : (j : Int) < (l.length : Int) := by omega
        have hcs := pc_cells hc j hlt
        have hcp : Hid (0 < j → wr.cell? ⟨g, off + (j - 1) * 2, none⟩ = some (.int .i64 (pcA l (j - 1)).pos) ∧ wr.cell? ⟨g, off + (j - 1) * 2 + 1, none⟩ = some (.string (pcA l (j - 1)).data)) := fun h0 => pc_cells hc (j - 1) (by omega)
        clear hc
        have HN : Hid (pcOne l j = false → t = false) := fun h => HN0.out j hlt h
        have HR : Hid (pcOne l j = true → ∀ i, i < j + 1 → pcOne l i = true) := fun h1 i hi => by
          by_cases e : i = j
          · rw [e]; exact h1
          · exact hst.out i (by omega)
        have HP : Hid (0 < j → 0 ≤ (pcA l (j - 1)).pos ∧ pcEnd (pcA l (j - 1)) ≤ 65515) := fun h0 => by have := pcOne_iff.1 (hst.out (j - 1) (by omega)); exact ⟨this.1, this.2.2.1⟩
        have HI : Hid (pcOne l j = true ↔ 0 ≤ (pcA l j).pos ∧ 0 < (pcA l j).data.size ∧ pcEnd (pcA l j) ≤ 65515 ∧ (j = 0 ∨ pcEnd (pcA l (j - 1)) < (pcA l j).pos)) := pcOne_iff
        have hsj := hs j hlt
        have hsp : Hid (0 < j → (pcA l (j - 1)).data.size ≤ 1048576) := fun h0 => hs (j - 1) (by omega)
        generalize pcOne l j = sb at *
        generalize pcA l j = a at *
        generalize pcA l (j - 1) = b at *
        obtain ⟨x, d⟩ := a
        obtain ⟨y, f⟩ := b
        simp only [pcEnd] at *
        have c0 := fun u : BW wr => (u.le.cell (p := ⟨g, off + j * 2, none⟩) hg).trans hcs.1
        have c1 := fun u : BW wr => (u.le.cell (p := ⟨g, off + j * 2 + 1, none⟩) hg).trans hcs.2
        have hne := BW.some wr
        have hB2 : ∀ u : BW wr, Below w.heap.size w u.u := fun u => hb.trans (u.le.mono hb.size)
        clear hcs
        by_cases h1 : x < 0
        · have hbad : sb = false := by have := HI.out; cases sb; rfl; exfalso; have := this.1 rfl; omega
          go_wp2_with fail
          refine wp_region_below (by kernel_rfl) (by kernel_rfl) ?_
          repeat (go_big_quiet_step (first | (go_at_call 65; exact Calls.into (CE.out _ _ _ (by omega) (by omega) (by omega)))))
          refine wpQuiet_nil ?_
          intro _ hw'
          obtain ⟨u, hw''⟩ := hw'
          subst hw''
          clear c0 c1 hne
          go_wp2
          go_ret
          exact ⟨ret_bool (HN.out hbad).symm, hB2 u⟩
        · have g1 : decide (x < 0) = false := by simp; omega
          by_cases h2 : 65515 < x
          · have hbad : sb = false := by have := HI.out; cases sb; rfl; exfalso; have := this.1 rfl; omega
            go_wp2_with fail
            refine wp_region_below (by kernel_rfl) (by kernel_rfl) ?_
            repeat (go_big_quiet_step (first | (go_at_call 65; exact Calls.into (CE.out _ _ _ (by omega) (by omega) (by omega)))))
            refine wpQuiet_nil ?_
            intro _ hw'
            obtain ⟨u, hw''⟩ := hw'
            subst hw''
            clear c0 c1 hne
            go_wp2
            go_ret
            exact ⟨ret_bool (HN.out hbad).symm, hB2 u⟩
          · have g2 : decide (65515 < x) = false := by simp; omega
            by_cases h3 : d.size = 0
            · have h3' : (d.size : Int) = 0 := by omega
              have hbad : sb = false := by have := HI.out; cases sb; rfl; exfalso; have := this.1 rfl; omega
              go_wp2_with fail
              refine wp_region_below (by kernel_rfl) (by kernel_rfl) ?_
              repeat (go_big_quiet_step (first | (go_at_call 65; exact Calls.into (CE.out _ _ _ (by omega) (by omega) (by omega)))))
              refine wpQuiet_nil ?_
              intro _ hw'
              obtain ⟨u, hw''⟩ := hw'
              subst hw''
              clear c0 c1 hne
              go_wp2
              go_ret
              exact ⟨ret_bool (HN.out hbad).symm, hB2 u⟩
            · have h3' : ((d.size : Int) == 0) = false := beq_eq_false_iff_ne.2 (by omega)
              have h3'' : decide ((d.size : Int) = 0) = false := decide_eq_false (by omega)
              by_cases h4 : 65515 < x + (d.size : Int)
              · have hbad : sb = false := by have := HI.out; cases sb; rfl; exfalso; have := this.1 rfl; omega
                go_wp2_with fail
                refine wp_region_below (by kernel_rfl) (by kernel_rfl) ?_
                repeat (go_big_quiet_step (first | (go_at_call 65; exact Calls.into (CE.out _ _ _ (by omega) (by omega) (by omega)))))
                refine wpQuiet_nil ?_
                intro _ hw'
                obtain ⟨u, hw''⟩ := hw'
                subst hw''
                clear c0 c1 hne
                go_wp2
                go_ret
                exact ⟨ret_bool (HN.out hbad).symm, hB2 u⟩
              · have g4 : decide (65515 < x + (d.size : Int)) = false := by simp; omega
                by_cases h0 : 0 < j
                · have hp := HP.out h0
                  have hpv := hcp.out h0
                  have hsp1 := hsp.out h0
                  have hd : decide (0 < (j : Int)) = true := by simp; omega
                  have hj2 : (j : Int) - 1 = ((j - 1 : Nat) : Int) := by omega
                  have hj3 : ((j - 1 : Nat) : Int) < (l.length : Int) := by omega
                  have b0 := fun u : BW wr => (u.le.cell (p := ⟨g, off + (j - 1) * 2, none⟩) hg).trans hpv.1
                  have b1 := fun u : BW wr => (u.le.cell (p := ⟨g, off + (j - 1) * 2 + 1, none⟩) hg).trans hpv.2
                  clear hpv
                  by_cases h5 : x ≤ y + (f.size : Int)
                  · have hbad : sb = false := by have := HI.out; cases sb; rfl; exfalso; have := this.1 rfl; omega
                    go_wp2_with fail
                    refine wp_region_below (by kernel_rfl) (by kernel_rfl) ?_
                    repeat (go_big_quiet_step (first | (go_at_call 65; exact Calls.into (CE.out _ _ _ (by omega) (by omega) (by omega)))))
                    refine wpQuiet_nil ?_
                    intro _ hw'
                    obtain ⟨u, hw''⟩ := hw'
                    subst hw''
                    clear c0 c1 hne b0 b1
                    go_wp2
                    go_ret
                    exact ⟨ret_bool (HN.out hbad).symm, hB2 u⟩
                  · have g5 : decide (x ≤ y + (f.size : Int)) = false := by simp; omega
                    have hgood : sb = true := HI.out.2 (by omega)
                    go_wp2_with fail
                    refine wp_region_below (by kernel_rfl) (by kernel_rfl) ?_
                    repeat (go_big_quiet_step (first | (go_at_call 65; exact Calls.into (CE.out _ _ _ (by omega) (by omega) (by omega)))))
                    refine wpQuiet_nil ?_
                    intro _ hw'
                    obtain ⟨u, hw''⟩ := hw'
                    subst hw''
                    clear c0 c1 hne b0 b1
                    go_wp2
                    go_roundw
                    case rel => exact ⟨j + 1, by omega, by go_num, HR.out hgood, hB2 u⟩
                    case measure => simp [intOf]; omega
                · have hj0 : j = 0 := by omega
                  subst hj0
                  simp only [Nat.zero_mul, Nat.add_zero] at c0 c1
                  have hgood : sb = true := HI.out.2 (by omega)
                  go_wp2_with fail
                  refine wp_region_below (by kernel_rfl) (by kernel_rfl) ?_
                  repeat (go_big_quiet_step (first | (go_at_call 65; exact Calls.into (CE.out _ _ _ (by omega) (by omega) (by omega)))))
                  refine wpQuiet_nil ?_
                  intro _ hw'
                  obtain ⟨u, hw''⟩ := hw'
                  subst hw''
                  clear c0 c1 hne
                  go_wp2
                  go_roundw
                  case rel => exact ⟨1, by omega, by go_num, HR.out hgood, hB2 u⟩
                  case measure => simp [intOf]; omega
    · have e : j = l.length := by omega
      subst e
      go_wp2
      go_ret
      exact ⟨ret_bool (by rw [HY.out hst.out]; rw [Bool.eq_iff_iff]; simp; omega), hb⟩
set_option maxRecDepth 100000 in
set_option maxHeartbeats 6400000 in
theorem i_PiecesOk (T : Option Addr) (c : Nat) (l : List PcV) (w : World) (h : CellsAt w T (pcF l)) (hl : l.length ≤ 1099511627776) (hs : pcShort l) :
    Calls Try.prog 32 #[.slice T l.length c] w fun e w' => e = .returned (.bool (pcOk l)) ∧ Below w.heap.size w w' := by
  have HY : Hid ((∀ i, i < l.length → pcOne l i = true) → pcOk l = decide (l.length ≤ 16)) := pcOk_yes
  have HN0 : Hid (∀ i, i < l.length → pcOne l i = false → pcOk l = false) := fun i hi h => pcOk_no hi h
  have CE : Hid (∀ (x : Int) (d : ByteArray) (u : World), 0 ≤ x → x ≤ 65515 → d.size ≤ 1048576 → Calls Try.prog 68 #[.agg #[.int .i64 x, .string d]] u fun e w' => e = .returned (.int .i64 (x + (d.size : Int))) ∧ Below u.heap.size u w') := fun x d u a b c => i_pieceEnd x d u a b c
  generalize pcOk l = t at *
  go_enter Try.func32, Try.ntmps32
  go_wp2
  go_loopw [7] (fun i wr => ∃ j : Nat, j ≤ l.length ∧ i = .int .i64 (j : Int) ∧ Hid (∀ i, i < j → pcOne l i = true) ∧ Below w.heap.size w wr) (fun i _ => ((l.length : Int) - intOf i).toNat)
  case atStart => exact ⟨0, by omega, rfl, fun i hi => by omega, Below.refl _ _⟩
  case round =>
    obtain ⟨j, hj, rfl, hst, hb⟩ := hrel
    by_cases hlt : j < l.length
    · rcases h.below hb with h | ⟨g, off, rfl, hg, hc⟩
      · have := pcF_len l; rw [h] at this; simp at this; omega
      · have hj1 : (j : Int) < (l.length : Int) := by omega
        have hcs := pc_cells hc j hlt
        have hcp : Hid (0 < j → wr.cell? ⟨g, off + (j - 1) * 2, none⟩ = some (.int .i64 (pcA l (j - 1)).pos) ∧ wr.cell? ⟨g, off + (j - 1) * 2 + 1, none⟩ = some (.string (pcA l (j - 1)).data)) := fun h0 => pc_cells hc (j - 1) (by omega)
        clear hc
        have HN : Hid (pcOne l j = false → t = false) := fun h => HN0.out j hlt h
        have HR : Hid (pcOne l j = true → ∀ i, i < j + 1 → pcOne l i = true) := fun h1 i hi => by
          by_cases e : i = j
          · rw [e]; exact h1
          · exact hst.out i (by omega)
        have HP : Hid (0 < j → 0 ≤ (pcA l (j - 1)).pos ∧ pcEnd (pcA l (j - 1)) ≤ 65515) := fun h0 => by have := pcOne_iff.1 (hst.out (j - 1) (by omega)); exact ⟨this.1, this.2.2.1⟩
        have HI : Hid (pcOne l j = true ↔ 0 ≤ (pcA l j).pos ∧ 0 < (pcA l j).data.size ∧ pcEnd (pcA l j) ≤ 65515 ∧ (j = 0 ∨ pcEnd (pcA l (j - 1)) < (pcA l j).pos)) := pcOne_iff
        have hsj := hs j hlt
        have hsp : Hid (0 < j → (pcA l (j - 1)).data.size ≤ 1048576) := fun h0 => hs (j - 1) (by omega)
        generalize pcOne l j = sb at *
        generalize pcA l j = a at *
        generalize pcA l (j - 1) = b at *
        obtain ⟨x, d⟩ := a
        obtain ⟨y, f⟩ := b
        simp only [pcEnd] at *
        have CR : Hid (∀ u : World, Calls Try.prog 67 #[.int .i64 x, .string d] u fun e w' => e = .returned (.bool (reachB x d)) ∧ Below u.heap.size u w') := fun u => i_isInReach x d u hsj
        have HE : Hid (reachB x d = true ↔ 0 ≤ x ∧ x + (d.size : Int) ≤ 65515) := reachB_iff x d
        have hB1 : Below w.heap.size w (wr.alloc (.cells #[.int .i64 x, .string d] 101)) := hb.alloc hb.size _
        have hW1 : Below wr.heap.size wr (wr.alloc (.cells #[.int .i64 x, .string d] 101)) := (Below.refl _ wr).alloc (Nat.le_refl _) _
        have hz1 : wr.heap.size < (wr.alloc (.cells #[.int .i64 x, .string d] 101)).heap.size := by simp
        have hn0 : (wr.alloc (.cells #[.int .i64 x, .string d] 101)).cell? ⟨wr.heap.size, 0, none⟩ = some (.int .i64 x) := by simp
        have hn1 : (wr.alloc (.cells #[.int .i64 x, .string d] 101)).cell? ⟨wr.heap.size, 1, none⟩ = some (.string d) := by simp
        go_wp2_with fail
        generalize hW : wr.alloc _ = w1 at *
        clear hW hcs
        have hne := BW.some w1
        have hB2 : ∀ u : BW w1, Below w.heap.size w u.u := fun u => hB1.trans (u.le.mono hB1.size)
        have c0 := fun u : BW w1 => (u.le.cell (p := ⟨wr.heap.size, 0, none⟩) hz1).trans hn0
        have c1 := fun u : BW w1 => (u.le.cell (p := ⟨wr.heap.size, 1, none⟩) hz1).trans hn1
        have hgz : g < w1.heap.size := Nat.lt_of_lt_of_le hg hW1.size
        by_cases h3 : d.toList = []
        · have hd0 : d.size = 0 := by have := congrArg List.length h3; simpa [ByteArray.toList_eq] using this
          have hbad : sb = false := by have := HI.out; cases sb; rfl; exfalso; have := this.1 rfl; omega
          refine wp_region_below (by kernel_rfl) (by kernel_rfl) ?_
          repeat (go_big_quiet_step (first | (go_at_call 68; exact Calls.into (CE.out _ _ _ (by omega) (by omega) (by omega))) | (go_at_call 67; exact Calls.into (CR.out _))))
          refine wpQuiet_nil ?_
          intro _ hw'
          obtain ⟨u, hw''⟩ := hw'
          subst hw''
          clear c0 c1 hne
          go_wp2
          go_ret
          exact ⟨ret_bool (HN.out hbad).symm, hB2 u⟩
        · have hd0 : 0 < d.size := Nat.pos_of_ne_zero fun e => h3 (by rw [ByteArray.toList_eq]; exact Array.toList_eq_nil_iff.2 (Array.eq_empty_of_size_eq_zero e))
          have hd1 : decide (d.toList = []) = false := decide_eq_false h3
          have hd2 : (d.toList == []) = false := beq_eq_false_iff_ne.2 h3
          cases hr : reachB x d
          · have hr1 : ¬ (0 ≤ x ∧ x + (d.size : Int) ≤ 65515) := fun h => by have := HE.out.2 h; rw [hr] at this; exact absurd this (by decide)
            rw [hr] at CR
            have hbad : sb = false := by have := HI.out; cases sb; rfl; exfalso; have := this.1 rfl; omega
            refine wp_region_below (by kernel_rfl) (by kernel_rfl) ?_
            repeat (go_big_quiet_step (first | (go_at_call 68; exact Calls.into (CE.out _ _ _ (by omega) (by omega) (by omega))) | (go_at_call 67; exact Calls.into (CR.out _))))
            refine wpQuiet_nil ?_
            intro _ hw'
            obtain ⟨u, hw''⟩ := hw'
            subst hw''
            clear c0 c1 hne
            go_wp2
            go_ret
            exact ⟨ret_bool (HN.out hbad).symm, hB2 u⟩
          · have hr1 := HE.out.1 hr
            rw [hr] at CR
            by_cases h0 : 0 < j
            · have hp := HP.out h0
              have hpv := hcp.out h0
              have hsp1 := hsp.out h0
              have hd : decide (0 < (j : Int)) = true := by simp; omega
              have hj2 : (j : Int) - 1 = ((j - 1 : Nat) : Int) := by omega
              have hj3 : ((j - 1 : Nat) : Int) < (l.length : Int) := by omega
              have b0 := fun u : BW w1 => (u.le.cell (p := ⟨g, off + (j - 1) * 2, none⟩) hgz).trans ((hW1.cell (p := ⟨g, off + (j - 1) * 2, none⟩) hg).trans hpv.1)
              have b1 := fun u : BW w1 => (u.le.cell (p := ⟨g, off + (j - 1) * 2 + 1, none⟩) hgz).trans ((hW1.cell (p := ⟨g, off + (j - 1) * 2 + 1, none⟩) hg).trans hpv.2)
              clear hpv
              by_cases h5 : x ≤ y + (f.size : Int)
              · have hbad : sb = false := by have := HI.out; cases sb; rfl; exfalso; have := this.1 rfl; omega
                refine wp_region_below (by kernel_rfl) (by kernel_rfl) ?_
                repeat (go_big_quiet_step (first | (go_at_call 68; exact Calls.into (CE.out _ _ _ (by omega) (by omega) (by omega))) | (go_at_call 67; exact Calls.into (CR.out _))))
                refine wpQuiet_nil ?_
                intro _ hw'
                obtain ⟨u, hw''⟩ := hw'
                subst hw''
                clear c0 c1 hne b0 b1
                go_wp2
                go_ret
                exact ⟨ret_bool (HN.out hbad).symm, hB2 u⟩
              · have g5 : decide (x ≤ y + (f.size : Int)) = false := by simp; omega
                have hgood : sb = true := HI.out.2 (by omega)
                refine wp_region_below (by kernel_rfl) (by kernel_rfl) ?_
                repeat (go_big_quiet_step (first | (go_at_call 68; exact Calls.into (CE.out _ _ _ (by omega) (by omega) (by omega))) | (go_at_call 67; exact Calls.into (CR.out _))))
                refine wpQuiet_nil ?_
                intro _ hw'
                obtain ⟨u, hw''⟩ := hw'
                subst hw''
                clear c0 c1 hne b0 b1
                go_wp2
                go_roundw
                case rel => exact ⟨j + 1, by omega, by go_num, HR.out hgood, hB2 u⟩
                case measure => simp [intOf]; omega
            · have hj0 : j = 0 := by omega
              subst hj0
              have hgood : sb = true := HI.out.2 (by omega)
              refine wp_region_below (by kernel_rfl) (by kernel_rfl) ?_
              repeat (go_big_quiet_step (first | (go_at_call 68; exact Calls.into (CE.out _ _ _ (by omega) (by omega) (by omega))) | (go_at_call 67; exact Calls.into (CR.out _))))
              refine wpQuiet_nil ?_
              intro _ hw'
              obtain ⟨u, hw''⟩ := hw'
              subst hw''
              clear c0 c1 hne
              go_wp2
              go_roundw
              case rel => exact ⟨1, by omega, by go_num, HR.out hgood, hB2 u⟩
              case measure => simp [intOf]; omega
    · have e : j = l.length := by omega
      subst e
      go_wp2
      go_ret
      exact ⟨ret_bool (by rw [HY.out hst.out]; rw [Bool.eq_iff_iff]; simp; omega), hb⟩
end Go.Proofs.Ytfaaopcmgadkjaa
