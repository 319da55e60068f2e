/-
  Rows of the record Piece: what is read of them, what the exact laws do with them.
-/
import Derived.Test.YtfaaopcmgadkjaaRecsV
import Derived.Test.YtfaaopcmgadkjaaRecsV
namespace Go.Proofs.Ytfaaopcmgadkjaa
open Go.RowKit Go.PlainAid
structure PcV where
  pos : Int
  data : ByteArray
def pcL (a : PcV) : Array Value := #[.int .i64 a.pos, .string a.data]
def pcF (l : List PcV) : List Value := flatV (fun a => (pcL a).toList) l
def pcA (l : List PcV) (i : Nat) : PcV := l.getD i ⟨0, ByteArray.empty⟩
def pcSz (a : PcV) : Nat := a.data.size
def pcTot (l : List PcV) : Nat := totV pcSz l
theorem pcL_len (a : PcV) : (pcL a).toList.length = 2 := rfl
theorem pcF_len (l : List PcV) : (pcF l).length = l.length * 2 := flatV_len pcL_len l
theorem pcA_eq (l : List PcV) (i : Nat) (h : i < l.length) : pcA l i = l[i] := by simp [pcA, List.getD, h]
theorem pcF_at (l : List PcV) (i : Nat) (h : i < l.length) (j : Nat) (hj : j < 2) : (pcF l)[i * 2 + j]? = (pcL (pcA l i)).toList[j]? := by
  rw [pcA_eq l i h]; exact flatV_at pcL_len l i h j hj
theorem pcF_app (l m : List PcV) : pcF (l ++ m) = pcF l ++ pcF m := flatV_app l m
theorem pcF_take (l : List PcV) (j : Nat) (h : j < l.length) : pcF (l.take (j + 1)) = pcF (l.take j) ++ (pcL (pcA l j)).toList := by
  rw [pcA_eq l j h]; exact flatV_take l j h
theorem pcTot_take (l : List PcV) (j : Nat) (h : j < l.length) : pcTot (l.take (j + 1)) = pcTot (l.take j) + pcSz (pcA l j) := by
  rw [pcA_eq l j h]; exact totV_take _ l j h
theorem pcTot_le (l : List PcV) (j : Nat) : pcTot (l.take j) ≤ pcTot l := totV_le _ l j
theorem pc_cells {w : World} {g off : Nat} {l : List PcV} (hc : ∀ i, i < (pcF l).length → w.cell? ⟨g, off + i, none⟩ = (pcF l)[i]?) (i : Nat) (h : i < l.length) :
    w.cell? ⟨g, off + i * 2, none⟩ = some (.int .i64 (pcA l i).pos) ∧ w.cell? ⟨g, off + i * 2 + 1, none⟩ = some (.string (pcA l i).data) := by
  have hl := pcF_len l
  have ha := pcF_at l i h
  refine ⟨?_, ?_⟩
  · exact (hc (i * 2) (by omega)).trans (ha 0 (by omega))
  · rw [Nat.add_assoc]; exact (hc (i * 2 + 1) (by omega)).trans (ha 1 (by omega))
theorem pc_below {w w' : World} {g off i : Nat} {l : List PcV} (hb : Below w.heap.size w w') (hg : g < w.heap.size) (h : w.cell? ⟨g, off + i * 2, none⟩ = some (.int .i64 (pcA l i).pos) ∧ w.cell? ⟨g, off + i * 2 + 1, none⟩ = some (.string (pcA l i).data)) :
    w'.cell? ⟨g, off + i * 2, none⟩ = some (.int .i64 (pcA l i).pos) ∧ w'.cell? ⟨g, off + i * 2 + 1, none⟩ = some (.string (pcA l i).data) := ⟨(hb.cell (p := ⟨g, off + i * 2, none⟩) hg).trans h.1, (hb.cell (p := ⟨g, off + i * 2 + 1, none⟩) hg).trans h.2⟩
theorem pc_fill (l : List PcV) (Z : List Value) (hZ : Z.length = l.length * 2) (j : Nat) (h : j < l.length) : (((pcF (l.take j) ++ Z.drop (j * 2)).set (j * 2) (.int .i64 (pcA l j).pos)).set (j * 2 + 1) (.string (pcA l j).data)) = pcF (l.take (j + 1)) ++ Z.drop ((j + 1) * 2) := by
  have e1 : (pcF (l.take j)).length = j * 2 := by rw [pcF_len, List.length_take]; congr 1; omega
  rw [fill_set _ Z (j * 2) e1 (by omega)]
  rw [fill_set _ Z (j * 2 + 1) (by simp [e1]) (by omega)]
  rw [pcF_take l j h, show (j + 1) * 2 = j * 2 + 2 from by omega]
  simp only [List.append_assoc, List.cons_append, List.nil_append, pcL]
set_option maxRecDepth 100000 in
theorem l_szPiece_yes (a : PcV) (left : Int) (w : World) (h : (pcSz a : Int) ≤ left) (hl : left ≤ 1048576) :
    Calls Try.prog 64 #[.agg (pcL a), .int .i64 left] w fun e w' => e = .returned (.int .i64 (left - (pcSz a : Int))) ∧ Below w.heap.size w w' := by
  obtain ⟨pos, data⟩ := a
  simp only [pcL, pcSz] at *
  go_enter Try.func64, Try.ntmps64
  go_wp2
  go_ret
  exact ⟨rfl, (Below.refl _ w).alloc (Nat.le_refl _) _⟩
set_option maxRecDepth 100000 in
theorem l_szPiece_no (a : PcV) (left : Int) (w : World) (h : left < (pcSz a : Int)) (h0 : 0 ≤ left) (hl : left ≤ 1048576) (hdata : a.data.size ≤ 9223372036854775807) :
    Calls Try.prog 64 #[.agg (pcL a), .int .i64 left] w fun e w' => e = .returned (.int .i64 (-1)) ∧ Below w.heap.size w w' := by
  obtain ⟨pos, data⟩ := a
  simp only [pcL, pcSz] at *
  go_enter Try.func64, Try.ntmps64
  go_wp2
  go_ret
  exact ⟨rfl, (Below.refl _ w).alloc (Nat.le_refl _) _⟩
def pcLong (l : List PcV) : Prop := ∀ i, i < l.length → (pcA l i).data.size ≤ 9223372036854775807
set_option maxRecDepth 100000 in
set_option maxHeartbeats 1600000 in
theorem l_szPieceS_yes (T : Option Addr) (c : Nat) (l : List PcV) (w : World) (h : CellsAt w T (pcF l)) (hn : l.length + pcTot l ≤ 1048576) :
    Calls Try.prog 29 #[.slice T l.length c, .int .i64 1048576] w fun e w' => e = .returned (.int .i64 (1048576 - (l.length : Int) - (pcTot l : Int))) ∧ Below w.heap.size w w' := by
  have CY : Hid (∀ (a : PcV) (left : Int) (u : World), (pcSz a : Int) ≤ left → left ≤ 1048576 → Calls Try.prog 64 #[.agg (pcL a), .int .i64 left] u fun e w' => e = .returned (.int .i64 (left - (pcSz a : Int))) ∧ Below u.heap.size u w') := fun a left u h1 h2 => l_szPiece_yes a left u h1 h2
  go_enter Try.func29, Try.ntmps29
  go_wp2
  go_loopw [5, 1] (fun i q wr => ∃ j : Nat, j ≤ l.length ∧ i = .int .i64 (j : Int) ∧ q = .int .i64 (1048576 - (l.length : Int) - (pcTot (l.take j) : Int)) ∧ Below w.heap.size w wr) (fun i _ _ => ((l.length : Int) - intOf i).toNat)
  case atStart => exact ⟨0, by omega, rfl, by simp [pcTot, totV], Below.refl _ _⟩
  case round =>
    obtain ⟨j, hj, rfl, rfl, hb⟩ := hrel
    by_cases hlt : j < l.length
    · rcases h.below hb with h | ⟨g, off, rfl, hg, hc⟩
      · have := pcF_len l; rw [h] at this; simp at this; omega
      · have hcs := pc_cells hc j hlt
        clear hc
        have hj1 : (j : Int) < (l.length : Int) := by omega
        have ht := pcTot_take l j hlt
        have htl := pcTot_le l (j + 1)
        obtain ⟨lf, hlf, hlf'⟩ : ∃ lf : Int, lf ≤ 1048576 - (l.length : Int) - (pcTot (l.take j) : Int) ∧ 1048576 - (l.length : Int) - (pcTot (l.take j) : Int) ≤ lf := ⟨_, Int.le_refl _, Int.le_refl _⟩
        rw [show 1048576 - (l.length : Int) - (pcTot (l.take j) : Int) = lf from by omega]
        go_wp2_with fail
        go_at_call 64
        refine (CY.out (pcA l j) lf _ (by omega) (by omega)).mono ?_
        rintro e w2 ⟨rfl, hb2⟩
        obtain ⟨lg, hlg, hlg'⟩ : ∃ lg : Int, lg ≤ lf - (pcSz (pcA l j) : Int) ∧ lf - (pcSz (pcA l j) : Int) ≤ lg := ⟨_, Int.le_refl _, Int.le_refl _⟩
        rw [show lf - (pcSz (pcA l j) : Int) = lg from by omega]
        have hlg0 : 0 ≤ lg := by omega
        clear hcs
        go_wp2
        go_roundw
        case rel => exact ⟨j + 1, by omega, by go_num, by congr 1; omega, hb.trans (hb2.mono hb.size)⟩
        case measure => simp [intOf]; omega
    · have e : j = l.length := by omega
      subst e
      rw [List.take_length]
      go_wp2
      go_ret
      exact ⟨rfl, hb⟩
set_option maxRecDepth 100000 in
set_option maxHeartbeats 1600000 in
theorem l_szPieceS_no (T : Option Addr) (c : Nat) (l : List PcV) (w : World) (h : CellsAt w T (pcF l)) (hm : l.length ≤ 9223372036854775807) (hs : pcLong l) (hn : 1048576 < l.length + pcTot l) :
    Calls Try.prog 29 #[.slice T l.length c, .int .i64 1048576] w fun e w' => e = .returned (.int .i64 (-1)) ∧ Below w.heap.size w w' := by
  have CY : Hid (∀ (a : PcV) (left : Int) (u : World), (pcSz a : Int) ≤ left → left ≤ 1048576 → Calls Try.prog 64 #[.agg (pcL a), .int .i64 left] u fun e w' => e = .returned (.int .i64 (left - (pcSz a : Int))) ∧ Below u.heap.size u w') := fun a left u h1 h2 => l_szPiece_yes a left u h1 h2
  have CN : Hid (∀ (a : PcV) (left : Int) (u : World), left < (pcSz a : Int) → 0 ≤ left → left ≤ 1048576 → (a.data.size ≤ 9223372036854775807) → Calls Try.prog 64 #[.agg (pcL a), .int .i64 left] u fun e w' => e = .returned (.int .i64 (-1)) ∧ Below u.heap.size u w') := fun a left u h1 h2 h3 hh => l_szPiece_no a left u h1 h2 h3 hh
  by_cases hlen : l.length ≤ 1048576
  · go_enter Try.func29, Try.ntmps29
    go_wp2
    go_loopw [5, 1] (fun i q wr => ∃ j : Nat, j ≤ l.length ∧ i = .int .i64 (j : Int) ∧ q = .int .i64 (1048576 - (l.length : Int) - (pcTot (l.take j) : Int)) ∧ l.length + pcTot (l.take j) ≤ 1048576 ∧ Below w.heap.size w wr) (fun i _ _ => ((l.length : Int) - intOf i).toNat)
    case atStart => exact ⟨0, by omega, rfl, by simp [pcTot, totV], by simp [pcTot, totV]; omega, Below.refl _ _⟩
    case round =>
      obtain ⟨j, hj, rfl, rfl, hle, hb⟩ := hrel
      by_cases hlt : j < l.length
      · rcases h.below hb with h | ⟨g, off, rfl, hg, hc⟩
        · have := pcF_len l; rw [h] at this; simp at this; omega
        · have hcs := pc_cells hc j hlt
          clear hc
          have hj1 : (j : Int) < (l.length : Int) := by omega
          have ht := pcTot_take l j hlt
          obtain ⟨lf, hlf, hlf'⟩ : ∃ lf : Int, lf ≤ 1048576 - (l.length : Int) - (pcTot (l.take j) : Int) ∧ 1048576 - (l.length : Int) - (pcTot (l.take j) : Int) ≤ lf := ⟨_, Int.le_refl _, Int.le_refl _⟩
          rw [show 1048576 - (l.length : Int) - (pcTot (l.take j) : Int) = lf from by omega]
          by_cases hok : l.length + pcTot (l.take (j + 1)) ≤ 1048576
          · go_wp2_with fail
            go_at_call 64
            refine (CY.out (pcA l j) lf _ (by omega) (by omega)).mono ?_
            rintro e w2 ⟨rfl, hb2⟩
            obtain ⟨lg, hlg, hlg'⟩ : ∃ lg : Int, lg ≤ lf - (pcSz (pcA l j) : Int) ∧ lf - (pcSz (pcA l j) : Int) ≤ lg := ⟨_, Int.le_refl _, Int.le_refl _⟩
            rw [show lf - (pcSz (pcA l j) : Int) = lg from by omega]
            have hlg0 : 0 ≤ lg := by omega
            clear hcs
            go_wp2
            go_roundw
            case rel => exact ⟨j + 1, by omega, by go_num, by congr 1; omega, hok, hb.trans (hb2.mono hb.size)⟩
            case measure => simp [intOf]; omega
          · go_wp2_with fail
            go_at_call 64
            refine (CN.out (pcA l j) lf _ (by omega) (by omega) (by omega) (hs j hlt)).mono ?_
            rintro e w2 ⟨rfl, hb2⟩
            clear hcs
            go_wp2
            go_ret
            exact ⟨rfl, hb.trans (hb2.mono hb.size)⟩
      · have e : j = l.length := by omega
        subst e
        rw [List.take_length] at hle
        omega
  · go_enter Try.func29, Try.ntmps29
    go_wp2
    go_ret
    exact ⟨rfl, Below.refl _ _⟩

set_option maxRecDepth 100000 in
set_option maxHeartbeats 1600000 in
theorem l_toPiece (a : PcV) (w : World) :
    Calls Try.prog 66 #[.agg (pcL a)] w fun e w' => e = .returned (.agg (pcL a)) ∧ Below w.heap.size w w' := by
  obtain ⟨pos, data⟩ := a
  simp only [pcL] at *
  go_enter Try.func66, Try.ntmps66
  go_wp2
  refine bodyPost_ret (v := .agg #[.int .i64 pos, .string data]) ?_ rfl ⟨rfl, ?_⟩
  · simp [results, Try.results66, go_sem]
  · go_grown
set_option maxRecDepth 100000 in
set_option maxHeartbeats 1600000 in
theorem l_eqPiece (a : PcV) (w : World) :
    Calls Try.prog 69 #[.agg (pcL a), .agg (pcL a)] w fun e w' => e = .returned (.bool true) ∧ Below w.heap.size w w' := by
  obtain ⟨pos, data⟩ := a
  simp only [pcL] at *
  go_enter Try.func69, Try.ntmps69
  go_wp2
  go_ret
  exact ⟨rfl, ((Below.refl _ w).alloc (Nat.le_refl _) _).alloc (by simp) _⟩
theorem Try.infPiece : InfV 47 101 2 24 #[.int .i64 0, .string ByteArray.empty] := ⟨Try.underlying47, by kernel_rfl, by decide, by decide, rfl⟩
set_option maxRecDepth 100000 in
set_option maxHeartbeats 3200000 in
theorem l_toPieceS (T : Option Addr) (c : Nat) (l : List PcV) (w : World) (h : CellsAt w T (pcF l)) (hl : l.length ≤ 1048576) :
    Calls Try.prog 31 #[.slice T l.length c] w fun e w' => ∃ g, e = .returned (.slice (some ⟨g, 0, none⟩) l.length l.length) ∧ ownV w' w.heap.size 101 2 (.slice (some ⟨g, 0, none⟩) l.length l.length) l.length (pcF l) ∧ Below w.heap.size w w' := by
  have CT : Hid (∀ (a : PcV) (u : World), Calls Try.prog 66 #[.agg (pcL a)] u fun e w' => e = .returned (.agg (pcL a)) ∧ Below u.heap.size u w') := fun a u => l_toPiece a u
  go_enter Try.func31, Try.ntmps31
  go_wp2_with (refine wpList_make_vals Try.infPiece rfl _ _ rfl _ _ _ _ l.length rfl rfl rfl rfl (by omega) ?_; intro Z w1 hown hb)
  have hZ := hown.len
  go_loopw [4] (fun i wr => ∃ j : Nat, j ≤ l.length ∧ i = .int .i64 (j : Int) ∧ ownV wr w.heap.size 101 2 (.slice (some ⟨w.heap.size, 0, none⟩) l.length l.length) l.length (pcF (l.take j) ++ Z.drop (j * 2)) ∧ Below w.heap.size w wr) (fun i _ => ((l.length : Int) - intOf i).toNat)
  case atStart => exact ⟨0, by omega, rfl, by simpa [pcF, flatV] using hown, hb⟩
  case round =>
    obtain ⟨j, hj, rfl, hown, hb⟩ := hrel
    by_cases hlt : j < l.length
    · rcases h.below hb with h | ⟨g, off, rfl, hg, hc⟩
      · have := pcF_len l; rw [h] at this; simp at this; omega
      · have hcs := pc_cells hc j hlt
        clear hc
        have hj1 : (j : Int) < (l.length : Int) := by omega
        go_wp2_with fail
        refine (CT.out (pcA l j) _).mono ?_
        rintro e w2 ⟨rfl, hb2⟩
        have ho2 := hown.far hb2
        have hB2 := hb.trans (hb2.mono hb.size)
        obtain ⟨x0, hx0⟩ := ho2.has (j * 2) (by omega)
        have hf0 := ho2.frozen (j * 2)
        obtain ⟨x1, hx1⟩ := ho2.has (j * 2 + 1) (by omega)
        have hf1 := ho2.frozen (j * 2 + 1)
        simp only [pcL]
        clear hb2 hcs
        go_wp2
        go_roundw
        case rel =>
          have hb3 := below_set (below_set ((Below.refl w.heap.size w2)) ⟨w.heap.size, j * 2, none⟩ (.int .i64 (pcA l j).pos) (Nat.le_refl _)) ⟨w.heap.size, j * 2 + 1, none⟩ (.string (pcA l j).data) (Nat.le_refl _)
          refine ⟨j + 1, by omega, by go_num, ?_, hB2.trans hb3⟩
          rw [← pc_fill l Z hZ j hlt]
          exact ((ho2).stored (j * 2) (.int .i64 (pcA l j).pos)).stored (j * 2 + 1) (.string (pcA l j).data)
        case measure => simp [intOf]; omega
    · have e : j = l.length := by omega
      subst e
      go_wp2
      go_ret
      refine ⟨w.heap.size, rfl, ?_, hb⟩
      rw [List.take_length, List.drop_eq_nil_of_le (by omega), List.append_nil] at hown
      exact hown
set_option maxRecDepth 100000 in
set_option maxHeartbeats 3200000 in
theorem l_eqPieceS (T U : Option Addr) (c e : Nat) (l : List PcV) (w : World) (h : CellsAt w T (pcF l)) (k : CellsAt w U (pcF l)) (hl : l.length ≤ 1099511627776) :
    Calls Try.prog 33 #[.slice T l.length c, .slice U l.length e] w fun e w' => e = .returned (.bool true) ∧ Below w.heap.size w w' := by
  have hne : ((l.length : Int) != (l.length : Int)) = false := by simp
  have CE : Hid (∀ (a : PcV) (u : World), Calls Try.prog 69 #[.agg (pcL a), .agg (pcL a)] u fun e w' => e = .returned (.bool true) ∧ Below u.heap.size u w') := fun a u => l_eqPiece a u
  go_enter Try.func33, Try.ntmps33
  go_wp2
  go_loopw [5] (fun i wr => ∃ j : Nat, j ≤ l.length ∧ i = .int .i64 (j : Int) ∧ Below w.heap.size w wr) (fun i _ => ((l.length : Int) - intOf i).toNat)
  case atStart => exact ⟨0, by omega, rfl, Below.refl _ _⟩
  case round =>
    obtain ⟨j, hj, rfl, hb⟩ := hrel
    by_cases hlt : j < l.length
    · have hle := pcF_len l
      rcases h with h | ⟨g, off, rfl, hg, hc⟩
      · rw [h] at hle; simp at hle; omega
      · rcases k with k | ⟨g2, off2, rfl, hg2, hc2⟩
        · rw [k] at hle; simp at hle; omega
        · have hj1 : (j : Int) < (l.length : Int) := by omega
          have hcs := pc_cells hc j hlt
          have hcs2 := pc_cells hc2 j hlt
          clear hc hc2 hle
          generalize pcA l j = a at *
          obtain ⟨pos, data⟩ := a
          have hr := Below.refl wr.heap.size wr
          go_wp2_with fail
          have hne2 := BW.some wr
          have c0 := fun u : BW wr => (u.le.cell (p := ⟨g, off + j * 2, none⟩) (Nat.lt_of_lt_of_le hg hb.size)).trans ((hb.cell (p := ⟨g, off + j * 2, none⟩) hg).trans hcs.1)
          have d0 := fun u : BW wr => (u.le.cell (p := ⟨g2, off2 + j * 2, none⟩) (Nat.lt_of_lt_of_le hg2 hb.size)).trans ((hb.cell (p := ⟨g2, off2 + j * 2, none⟩) hg2).trans hcs2.1)
          have c1 := fun u : BW wr => (u.le.cell (p := ⟨g, off + j * 2 + 1, none⟩) (Nat.lt_of_lt_of_le hg hb.size)).trans ((hb.cell (p := ⟨g, off + j * 2 + 1, none⟩) hg).trans hcs.2)
          have d1 := fun u : BW wr => (u.le.cell (p := ⟨g2, off2 + j * 2 + 1, none⟩) (Nat.lt_of_lt_of_le hg2 hb.size)).trans ((hb.cell (p := ⟨g2, off2 + j * 2 + 1, none⟩) hg2).trans hcs2.2)
          refine wp_region_below (by kernel_rfl) (by kernel_rfl) ?_
          repeat (go_big_quiet_step (first | (go_at_call 69; exact Calls.into (CE.out ⟨pos, data⟩ _))))
          refine wpQuiet_nil ?_
          intro _ hw'
          obtain ⟨u, hw''⟩ := hw'
          subst hw''
          clear c0 d0 c1 d1 hne2
          go_wp2
          go_roundw
          case rel => exact ⟨j + 1, by omega, by go_num, hb.trans (u.le.mono hb.size)⟩
          case measure => simp [intOf]; omega
    · go_wp2
      go_ret
      exact ⟨rfl, hb⟩
end Go.Proofs.Ytfaaopcmgadkjaa
