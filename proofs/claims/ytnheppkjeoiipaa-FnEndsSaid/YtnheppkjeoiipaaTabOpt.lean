/-
  Rows of the record Opt: what is read of them, what the exact laws do with them.
-/
import Derived.Test.YtnheppkjeoiipaaRecsV
import Derived.Test.YtnheppkjeoiipaaRecsV
namespace Go.Proofs.Ytnheppkjeoiipaa
open Go.RowKit Go.PlainAid
structure OpV where
  cls : Int
  typ : Int
  data : ByteArray
def opL (a : OpV) : Array Value := #[.int .i64 a.cls, .int .i64 a.typ, .string a.data]
def opF (l : List OpV) : List Value := flatV (fun a => (opL a).toList) l
def opA (l : List OpV) (i : Nat) : OpV := l.getD i ⟨0, 0, ByteArray.empty⟩
def opSz (a : OpV) : Nat := a.data.size
def opTot (l : List OpV) : Nat := totV opSz l
theorem opL_len (a : OpV) : (opL a).toList.length = 3 := rfl
theorem opF_len (l : List OpV) : (opF l).length = l.length * 3 := flatV_len opL_len l
theorem opA_eq (l : List OpV) (i : Nat) (h : i < l.length) : opA l i = l[i] := by simp [opA, List.getD, h]
theorem opF_at (l : List OpV) (i : Nat) (h : i < l.length) (j : Nat) (hj : j < 3) : (opF l)[i * 3 + j]? = (opL (opA l i)).toList[j]? := by
  rw [opA_eq l i h]; exact flatV_at opL_len l i h j hj
theorem opF_app (l m : List OpV) : opF (l ++ m) = opF l ++ opF m := flatV_app l m
theorem opF_take (l : List OpV) (j : Nat) (h : j < l.length) : opF (l.take (j + 1)) = opF (l.take j) ++ (opL (opA l j)).toList := by
  rw [opA_eq l j h]; exact flatV_take l j h
theorem opTot_take (l : List OpV) (j : Nat) (h : j < l.length) : opTot (l.take (j + 1)) = opTot (l.take j) + opSz (opA l j) := by
  rw [opA_eq l j h]; exact totV_take _ l j h
theorem opTot_le (l : List OpV) (j : Nat) : opTot (l.take j) ≤ opTot l := totV_le _ l j
theorem op_cells {w : World} {g off : Nat} {l : List OpV} (hc : ∀ i, i < (opF l).length → w.cell? ⟨g, off + i, none⟩ = (opF l)[i]?) (i : Nat) (h : i < l.length) :
    w.cell? ⟨g, off + i * 3, none⟩ = some (.int .i64 (opA l i).cls) ∧ w.cell? ⟨g, off + i * 3 + 1, none⟩ = some (.int .i64 (opA l i).typ) ∧ w.cell? ⟨g, off + i * 3 + 2, none⟩ = some (.string (opA l i).data) := by
  have hl := opF_len l
  have ha := opF_at l i h
  refine ⟨?_, ?_, ?_⟩
  · exact (hc (i * 3) (by omega)).trans (ha 0 (by omega))
  · rw [Nat.add_assoc]; exact (hc (i * 3 + 1) (by omega)).trans (ha 1 (by omega))
  · rw [Nat.add_assoc]; exact (hc (i * 3 + 2) (by omega)).trans (ha 2 (by omega))
theorem op_below {w w' : World} {g off i : Nat} {l : List OpV} (hb : Below w.heap.size w w') (hg : g < w.heap.size) (h : w.cell? ⟨g, off + i * 3, none⟩ = some (.int .i64 (opA l i).cls) ∧ w.cell? ⟨g, off + i * 3 + 1, none⟩ = some (.int .i64 (opA l i).typ) ∧ w.cell? ⟨g, off + i * 3 + 2, none⟩ = some (.string (opA l i).data)) :
    w'.cell? ⟨g, off + i * 3, none⟩ = some (.int .i64 (opA l i).cls) ∧ w'.cell? ⟨g, off + i * 3 + 1, none⟩ = some (.int .i64 (opA l i).typ) ∧ w'.cell? ⟨g, off + i * 3 + 2, none⟩ = some (.string (opA l i).data) := ⟨(hb.cell (p := ⟨g, off + i * 3, none⟩) hg).trans h.1, (hb.cell (p := ⟨g, off + i * 3 + 1, none⟩) hg).trans h.2.1, (hb.cell (p := ⟨g, off + i * 3 + 2, none⟩) hg).trans h.2.2⟩
theorem op_fill (l : List OpV) (Z : List Value) (hZ : Z.length = l.length * 3) (j : Nat) (h : j < l.length) : ((((opF (l.take j) ++ Z.drop (j * 3)).set (j * 3) (.int .i64 (opA l j).cls)).set (j * 3 + 1) (.int .i64 (opA l j).typ)).set (j * 3 + 2) (.string (opA l j).data)) = opF (l.take (j + 1)) ++ Z.drop ((j + 1) * 3) := by
  have e1 : (opF (l.take j)).length = j * 3 := by rw [opF_len, List.length_take]; congr 1; omega
  rw [fill_set _ Z (j * 3) e1 (by omega)]
  rw [fill_set _ Z (j * 3 + 1) (by simp [e1]) (by omega)]
  rw [fill_set _ Z (j * 3 + 2) (by simp [e1]) (by omega)]
  rw [opF_take l j h, show (j + 1) * 3 = j * 3 + 3 from by omega]
  simp only [List.append_assoc, List.cons_append, List.nil_append, opL]
set_option maxRecDepth 100000 in
theorem l_szOptV_yes (a : OpV) (left : Int) (w : World) (h : (opSz a : Int) ≤ left) (hl : left ≤ 1048576) :
    Calls Try.prog 68 #[.agg (opL a), .int .i64 left] w fun e w' => e = .returned (.int .i64 (left - (opSz a : Int))) ∧ Below w.heap.size w w' := by
  obtain ⟨qcls, qtyp, qdata⟩ := a
  simp only [opL, opSz] at *
  go_enter Try.func68, Try.ntmps68
  go_wp2
  go_ret
  exact ⟨rfl, (Below.refl _ w).alloc (Nat.le_refl _) _⟩
set_option maxRecDepth 100000 in
theorem l_szOptV_no (a : OpV) (left : Int) (w : World) (h : left < (opSz a : Int)) (h0 : 0 ≤ left) (hl : left ≤ 1048576) (hdata : a.data.size ≤ 9223372036854775807) :
    Calls Try.prog 68 #[.agg (opL a), .int .i64 left] w fun e w' => e = .returned (.int .i64 (-1)) ∧ Below w.heap.size w w' := by
  obtain ⟨qcls, qtyp, qdata⟩ := a
  simp only [opL, opSz] at *
  go_enter Try.func68, Try.ntmps68
  go_wp2
  go_ret
  exact ⟨rfl, (Below.refl _ w).alloc (Nat.le_refl _) _⟩
def opLong (l : List OpV) : Prop := ∀ i, i < l.length → (opA l i).data.size ≤ 9223372036854775807
set_option maxRecDepth 100000 in
set_option maxHeartbeats 1600000 in
theorem l_szOptS_yes (T : Option Addr) (c : Nat) (l : List OpV) (w : World) (h : CellsAt w T (opF l)) (hn : l.length + opTot l ≤ 1048576) :
    Calls Try.prog 43 #[.slice T l.length c, .int .i64 1048576] w fun e w' => e = .returned (.int .i64 (1048576 - (l.length : Int) - (opTot l : Int))) ∧ Below w.heap.size w w' := by
  have CY : Hid (∀ (a : OpV) (left : Int) (u : World), (opSz a : Int) ≤ left → left ≤ 1048576 → Calls Try.prog 68 #[.agg (opL a), .int .i64 left] u fun e w' => e = .returned (.int .i64 (left - (opSz a : Int))) ∧ Below u.heap.size u w') := fun a left u h1 h2 => l_szOptV_yes a left u h1 h2
  go_enter Try.func43, Try.ntmps43
  go_wp2
  go_loopw [5, 1] (fun i q wr => ∃ j : Nat, j ≤ l.length ∧ i = .int .i64 (j : Int) ∧ q = .int .i64 (1048576 - (l.length : Int) - (opTot (l.take j) : Int)) ∧ Below w.heap.size w wr) (fun i _ _ => ((l.length : Int) - intOf i).toNat)
  case atStart => exact ⟨0, by omega, rfl, by simp [opTot, totV], Below.refl _ _⟩
  case round =>
    obtain ⟨j, hj, rfl, rfl, hb⟩ := hrel
    by_cases hlt : j < l.length
    · rcases h.below hb with h | ⟨g, off, rfl, hg, hc⟩
      · have := opF_len l; rw [h] at this; simp at this; omega
      · have hcs := op_cells hc j hlt
        clear hc
        have hj1 : (j : Int) < (l.length : Int) := by omega
        have ht := opTot_take l j hlt
        have htl := opTot_le l (j + 1)
        obtain ⟨lf, hlf, hlf'⟩ : ∃ lf : Int, lf ≤ 1048576 - (l.length : Int) - (opTot (l.take j) : Int) ∧ 1048576 - (l.length : Int) - (opTot (l.take j) : Int) ≤ lf := ⟨_, Int.le_refl _, Int.le_refl _⟩
        rw [show 1048576 - (l.length : Int) - (opTot (l.take j) : Int) = lf from by omega]
        go_wp2_with fail
        go_at_call 68
        refine (CY.out (opA l j) lf _ (by omega) (by omega)).mono ?_
        rintro e w2 ⟨rfl, hb2⟩
        obtain ⟨lg, hlg, hlg'⟩ : ∃ lg : Int, lg ≤ lf - (opSz (opA l j) : Int) ∧ lf - (opSz (opA l j) : Int) ≤ lg := ⟨_, Int.le_refl _, Int.le_refl _⟩
        rw [show lf - (opSz (opA l j) : Int) = lg from by omega]
        have hlg0 : 0 ≤ lg := by omega
        clear hcs
        go_wp2
        go_roundw
        case rel => exact ⟨j + 1, by omega, by go_num, by congr 1; omega, hb.trans (hb2.mono hb.size)⟩
        case measure => simp [intOf]; omega
    · have e : j = l.length := by omega
      subst e
      rw [List.take_length]
      go_wp2
      go_ret
      exact ⟨rfl, hb⟩
set_option maxRecDepth 100000 in
set_option maxHeartbeats 1600000 in
theorem l_szOptS_no (T : Option Addr) (c : Nat) (l : List OpV) (w : World) (h : CellsAt w T (opF l)) (hm : l.length ≤ 9223372036854775807) (hs : opLong l) (hn : 1048576 < l.length + opTot l) :
    Calls Try.prog 43 #[.slice T l.length c, .int .i64 1048576] w fun e w' => e = .returned (.int .i64 (-1)) ∧ Below w.heap.size w w' := by
  have CY : Hid (∀ (a : OpV) (left : Int) (u : World), (opSz a : Int) ≤ left → left ≤ 1048576 → Calls Try.prog 68 #[.agg (opL a), .int .i64 left] u fun e w' => e = .returned (.int .i64 (left - (opSz a : Int))) ∧ Below u.heap.size u w') := fun a left u h1 h2 => l_szOptV_yes a left u h1 h2
  have CN : Hid (∀ (a : OpV) (left : Int) (u : World), left < (opSz a : Int) → 0 ≤ left → left ≤ 1048576 → (a.data.size ≤ 9223372036854775807) → Calls Try.prog 68 #[.agg (opL a), .int .i64 left] u fun e w' => e = .returned (.int .i64 (-1)) ∧ Below u.heap.size u w') := fun a left u h1 h2 h3 hh => l_szOptV_no a left u h1 h2 h3 hh
  by_cases hlen : l.length ≤ 1048576
  · go_enter Try.func43, Try.ntmps43
    go_wp2
    go_loopw [5, 1] (fun i q wr => ∃ j : Nat, j ≤ l.length ∧ i = .int .i64 (j : Int) ∧ q = .int .i64 (1048576 - (l.length : Int) - (opTot (l.take j) : Int)) ∧ l.length + opTot (l.take j) ≤ 1048576 ∧ Below w.heap.size w wr) (fun i _ _ => ((l.length : Int) - intOf i).toNat)
    case atStart => exact ⟨0, by omega, rfl, by simp [opTot, totV], by simp [opTot, totV]; omega, Below.refl _ _⟩
    case round =>
      obtain ⟨j, hj, rfl, rfl, hle, hb⟩ := hrel
      by_cases hlt : j < l.length
      · rcases h.below hb with h | ⟨g, off, rfl, hg, hc⟩
        · have := opF_len l; rw [h] at this; simp at this; omega
        · have hcs := op_cells hc j hlt
          clear hc
          have hj1 : (j : Int) < (l.length : Int) := by omega
          have ht := opTot_take l j hlt
          obtain ⟨lf, hlf, hlf'⟩ : ∃ lf : Int, lf ≤ 1048576 - (l.length : Int) - (opTot (l.take j) : Int) ∧ 1048576 - (l.length : Int) - (opTot (l.take j) : Int) ≤ lf := ⟨_, Int.le_refl _, Int.le_refl _⟩
          rw [show 1048576 - (l.length : Int) - (opTot (l.take j) : Int) = lf from by omega]
          by_cases hok : l.length + opTot (l.take (j + 1)) ≤ 1048576
          · go_wp2_with fail
            go_at_call 68
            refine (CY.out (opA l j) lf _ (by omega) (by omega)).mono ?_
            rintro e w2 ⟨rfl, hb2⟩
            obtain ⟨lg, hlg, hlg'⟩ : ∃ lg : Int, lg ≤ lf - (opSz (opA l j) : Int) ∧ lf - (opSz (opA l j) : Int) ≤ lg := ⟨_, Int.le_refl _, Int.le_refl _⟩
            rw [show lf - (opSz (opA l j) : Int) = lg from by omega]
            have hlg0 : 0 ≤ lg := by omega
            clear hcs
            go_wp2
            go_roundw
            case rel => exact ⟨j + 1, by omega, by go_num, by congr 1; omega, hok, hb.trans (hb2.mono hb.size)⟩
            case measure => simp [intOf]; omega
          · go_wp2_with fail
            go_at_call 68
            refine (CN.out (opA l j) lf _ (by omega) (by omega) (by omega) (hs j hlt)).mono ?_
            rintro e w2 ⟨rfl, hb2⟩
            clear hcs
            go_wp2
            go_ret
            exact ⟨rfl, hb.trans (hb2.mono hb.size)⟩
      · have e : j = l.length := by omega
        subst e
        rw [List.take_length] at hle
        omega
  · go_enter Try.func43, Try.ntmps43
    go_wp2
    go_ret
    exact ⟨rfl, Below.refl _ _⟩

set_option maxRecDepth 100000 in
set_option maxHeartbeats 1600000 in
theorem l_toOpt (a : OpV) (w : World) :
    Calls Try.prog 69 #[.agg (opL a)] w fun e w' => e = .returned (.agg (opL a)) ∧ Below w.heap.size w w' := by
  obtain ⟨qcls, qtyp, qdata⟩ := a
  simp only [opL] at *
  go_enter Try.func69, Try.ntmps69
  go_wp2
  refine bodyPost_ret (v := .agg #[.int .i64 qcls, .int .i64 qtyp, .string qdata]) ?_ rfl ⟨rfl, ?_⟩
  · simp [results, Try.results69, go_sem]
  · go_grown
set_option maxRecDepth 100000 in
set_option maxHeartbeats 1600000 in
theorem l_eqOpt (a : OpV) (w : World) :
    Calls Try.prog 71 #[.agg (opL a), .agg (opL a)] w fun e w' => e = .returned (.bool true) ∧ Below w.heap.size w w' := by
  obtain ⟨qcls, qtyp, qdata⟩ := a
  simp only [opL] at *
  go_enter Try.func71, Try.ntmps71
  go_wp2
  go_ret
  exact ⟨rfl, ((Below.refl _ w).alloc (Nat.le_refl _) _).alloc (by simp) _⟩
theorem Try.infOpt : InfV 24 33 3 32 #[.int .i64 0, .int .i64 0, .string ByteArray.empty] := ⟨Try.underlying24, by kernel_rfl, by decide, by decide, rfl⟩
set_option maxRecDepth 100000 in
set_option maxHeartbeats 3200000 in
theorem l_toOptS (T : Option Addr) (c : Nat) (l : List OpV) (w : World) (h : CellsAt w T (opF l)) (hl : l.length ≤ 1048576) :
    Calls Try.prog 44 #[.slice T l.length c] w fun e w' => ∃ g, e = .returned (.slice (some ⟨g, 0, none⟩) l.length l.length) ∧ ownV w' w.heap.size 33 3 (.slice (some ⟨g, 0, none⟩) l.length l.length) l.length (opF l) ∧ Below w.heap.size w w' := by
  have CT : Hid (∀ (a : OpV) (u : World), Calls Try.prog 69 #[.agg (opL a)] u fun e w' => e = .returned (.agg (opL a)) ∧ Below u.heap.size u w') := fun a u => l_toOpt a u
  go_enter Try.func44, Try.ntmps44
  go_wp2_with (refine wpList_make_vals Try.infOpt rfl _ _ rfl _ _ _ _ l.length rfl rfl rfl rfl (by omega) ?_; intro Z w1 hown hb)
  have hZ := hown.len
  go_loopw [4] (fun i wr => ∃ j : Nat, j ≤ l.length ∧ i = .int .i64 (j : Int) ∧ ownV wr w.heap.size 33 3 (.slice (some ⟨w.heap.size, 0, none⟩) l.length l.length) l.length (opF (l.take j) ++ Z.drop (j * 3)) ∧ Below w.heap.size w wr) (fun i _ => ((l.length : Int) - intOf i).toNat)
  case atStart => exact ⟨0, by omega, rfl, by simpa [opF, flatV] using hown, hb⟩
  case round =>
    obtain ⟨j, hj, rfl, hown, hb⟩ := hrel
    by_cases hlt : j < l.length
    · rcases h.below hb with h | ⟨g, off, rfl, hg, hc⟩
      · have := opF_len l; rw [h] at this; simp at this; omega
      · have hcs := op_cells hc j hlt
        clear hc
        have hj1 : (j : Int) < (l.length : Int) := by omega
        go_wp2_with fail
        refine (CT.out (opA l j) _).mono ?_
        rintro e w2 ⟨rfl, hb2⟩
        have ho2 := hown.far hb2
        have hB2 := hb.trans (hb2.mono hb.size)
        obtain ⟨x0, hx0⟩ := ho2.has (j * 3) (by omega)
        have hf0 := ho2.frozen (j * 3)
        obtain ⟨x1, hx1⟩ := ho2.has (j * 3 + 1) (by omega)
        have hf1 := ho2.frozen (j * 3 + 1)
        obtain ⟨x2, hx2⟩ := ho2.has (j * 3 + 2) (by omega)
        have hf2 := ho2.frozen (j * 3 + 2)
        simp only [opL]
        clear hb2 hcs
        go_wp2
        go_roundw
        case rel =>
          have hb3 := below_set (below_set (below_set ((Below.refl w.heap.size w2)) ⟨w.heap.size, j * 3, none⟩ (.int .i64 (opA l j).cls) (Nat.le_refl _)) ⟨w.heap.size, j * 3 + 1, none⟩ (.int .i64 (opA l j).typ) (Nat.le_refl _)) ⟨w.heap.size, j * 3 + 2, none⟩ (.string (opA l j).data) (Nat.le_refl _)
          refine ⟨j + 1, by omega, by go_num, ?_, hB2.trans hb3⟩
          rw [← op_fill l Z hZ j hlt]
          exact (((ho2).stored (j * 3) (.int .i64 (opA l j).cls)).stored (j * 3 + 1) (.int .i64 (opA l j).typ)).stored (j * 3 + 2) (.string (opA l j).data)
        case measure => simp [intOf]; omega
    · have e : j = l.length := by omega
      subst e
      go_wp2
      go_ret
      refine ⟨w.heap.size, rfl, ?_, hb⟩
      rw [List.take_length, List.drop_eq_nil_of_le (by omega), List.append_nil] at hown
      exact hown
set_option maxRecDepth 100000 in
set_option maxHeartbeats 3200000 in
theorem l_eqOptS (T U : Option Addr) (c e : Nat) (l : List OpV) (w : World) (h : CellsAt w T (opF l)) (k : CellsAt w U (opF l)) (hl : l.length ≤ 1099511627776) :
    Calls Try.prog 46 #[.slice T l.length c, .slice U l.length e] w fun e w' => e = .returned (.bool true) ∧ Below w.heap.size w w' := by
  have hne : ((l.length : Int) != (l.length : Int)) = false := by simp
  have CE : Hid (∀ (a : OpV) (u : World), Calls Try.prog 71 #[.agg (opL a), .agg (opL a)] u fun e w' => e = .returned (.bool true) ∧ Below u.heap.size u w') := fun a u => l_eqOpt a u
  go_enter Try.func46, Try.ntmps46
  go_wp2
  go_loopw [5] (fun i wr => ∃ j : Nat, j ≤ l.length ∧ i = .int .i64 (j : Int) ∧ Below w.heap.size w wr) (fun i _ => ((l.length : Int) - intOf i).toNat)
  case atStart => exact ⟨0, by omega, rfl, Below.refl _ _⟩
  case round =>
    obtain ⟨j, hj, rfl, hb⟩ := hrel
    by_cases hlt : j < l.length
    · have hle := opF_len l
      rcases h with h | ⟨g, off, rfl, hg, hc⟩
      · rw [h] at hle; simp at hle; omega
      · rcases k with k | ⟨g2, off2, rfl, hg2, hc2⟩
        · rw [k] at hle; simp at hle; omega
        · have hj1 : (j : Int) < (l.length : Int) := by omega
          have hcs := op_cells hc j hlt
          have hcs2 := op_cells hc2 j hlt
          clear hc hc2 hle
          generalize opA l j = a at *
          obtain ⟨qcls, qtyp, qdata⟩ := a
          have hr := Below.refl wr.heap.size wr
          go_wp2_with fail
          have hne2 := BW.some wr
          have c0 := fun u : BW wr => (u.le.cell (p := ⟨g, off + j * 3, none⟩) (Nat.lt_of_lt_of_le hg hb.size)).trans ((hb.cell (p := ⟨g, off + j * 3, none⟩) hg).trans hcs.1)
          have d0 := fun u : BW wr => (u.le.cell (p := ⟨g2, off2 + j * 3, none⟩) (Nat.lt_of_lt_of_le hg2 hb.size)).trans ((hb.cell (p := ⟨g2, off2 + j * 3, none⟩) hg2).trans hcs2.1)
          have c1 := fun u : BW wr => (u.le.cell (p := ⟨g, off + j * 3 + 1, none⟩) (Nat.lt_of_lt_of_le hg hb.size)).trans ((hb.cell (p := ⟨g, off + j * 3 + 1, none⟩) hg).trans hcs.2.1)
          have d1 := fun u : BW wr => (u.le.cell (p := ⟨g2, off2 + j * 3 + 1, none⟩) (Nat.lt_of_lt_of_le hg2 hb.size)).trans ((hb.cell (p := ⟨g2, off2 + j * 3 + 1, none⟩) hg2).trans hcs2.2.1)
          have c2 := fun u : BW wr => (u.le.cell (p := ⟨g, off + j * 3 + 2, none⟩) (Nat.lt_of_lt_of_le hg hb.size)).trans ((hb.cell (p := ⟨g, off + j * 3 + 2, none⟩) hg).trans hcs.2.2)
          have d2 := fun u : BW wr => (u.le.cell (p := ⟨g2, off2 + j * 3 + 2, none⟩) (Nat.lt_of_lt_of_le hg2 hb.size)).trans ((hb.cell (p := ⟨g2, off2 + j * 3 + 2, none⟩) hg2).trans hcs2.2.2)
          refine wp_region_below (by kernel_rfl) (by kernel_rfl) ?_
          repeat (go_big_quiet_step (first | (go_at_call 71; exact Calls.into (CE.out ⟨qcls, qtyp, qdata⟩ _))))
          refine wpQuiet_nil ?_
          intro _ hw'
          obtain ⟨u, hw''⟩ := hw'
          subst hw''
          clear c0 d0 c1 d1 c2 d2 hne2
          go_wp2
          go_roundw
          case rel => exact ⟨j + 1, by omega, by go_num, hb.trans (u.le.mono hb.size)⟩
          case measure => simp [intOf]; omega
    · go_wp2
      go_ret
      exact ⟨rfl, hb⟩
end Go.Proofs.Ytnheppkjeoiipaa
