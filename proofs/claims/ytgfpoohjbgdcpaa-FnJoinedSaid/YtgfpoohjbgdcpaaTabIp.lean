/-
  Rows of the record Ip: what is read of them, what the exact laws do with them.
-/
import Derived.Test.YtgfpoohjbgdcpaaIps5
import Derived.Test.YtgfpoohjbgdcpaaRecsV
namespace Go.Proofs.Ytgfpoohjbgdcpaa
open Go.RowKit Go.PlainAid
def iqF (l : List IpV) : List Value := flatV (fun a => (ipL a).toList) l
def iqA (l : List IpV) (i : Nat) : IpV := l.getD i ⟨0, 0, false, false, 0, 0, 0, 0, 0, ByteArray.empty, ByteArray.empty⟩
def iqSz (a : IpV) : Nat := a.opts.size + a.data.size
def iqTot (l : List IpV) : Nat := totV iqSz l
theorem iqL_len (a : IpV) : (ipL a).toList.length = 11 := rfl
theorem iqF_len (l : List IpV) : (iqF l).length = l.length * 11 := flatV_len iqL_len l
theorem iqA_eq (l : List IpV) (i : Nat) (h : i < l.length) : iqA l i = l[i] := by simp [iqA, List.getD, h]
theorem iqF_at (l : List IpV) (i : Nat) (h : i < l.length) (j : Nat) (hj : j < 11) : (iqF l)[i * 11 + j]? = (ipL (iqA l i)).toList[j]? := by
  rw [iqA_eq l i h]; exact flatV_at iqL_len l i h j hj
theorem iqF_app (l m : List IpV) : iqF (l ++ m) = iqF l ++ iqF m := flatV_app l m
theorem iqF_take (l : List IpV) (j : Nat) (h : j < l.length) : iqF (l.take (j + 1)) = iqF (l.take j) ++ (ipL (iqA l j)).toList := by
  rw [iqA_eq l j h]; exact flatV_take l j h
theorem iqTot_take (l : List IpV) (j : Nat) (h : j < l.length) : iqTot (l.take (j + 1)) = iqTot (l.take j) + iqSz (iqA l j) := by
  rw [iqA_eq l j h]; exact totV_take _ l j h
theorem iqTot_le (l : List IpV) (j : Nat) : iqTot (l.take j) ≤ iqTot l := totV_le _ l j
theorem iq_cells {w : World} {g off : Nat} {l : List IpV} (hc : ∀ i, i < (iqF l).length → w.cell? ⟨g, off + i, none⟩ = (iqF l)[i]?) (i : Nat) (h : i < l.length) :
    w.cell? ⟨g, off + i * 11, none⟩ = some (.int .i64 (iqA l i).tos) ∧ w.cell? ⟨g, off + i * 11 + 1, none⟩ = some (.int .i64 (iqA l i).id) ∧ w.cell? ⟨g, off + i * 11 + 2, none⟩ = some (.bool (iqA l i).df) ∧ w.cell? ⟨g, off + i * 11 + 3, none⟩ = some (.bool (iqA l i).mf) ∧ w.cell? ⟨g, off + i * 11 + 4, none⟩ = some (.int .i64 (iqA l i).off) ∧ w.cell? ⟨g, off + i * 11 + 5, none⟩ = some (.int .i64 (iqA l i).ttl) ∧ w.cell? ⟨g, off + i * 11 + 6, none⟩ = some (.int .i64 (iqA l i).pro) ∧ w.cell? ⟨g, off + i * 11 + 7, none⟩ = some (.int .i64 (iqA l i).src) ∧ w.cell? ⟨g, off + i * 11 + 8, none⟩ = some (.int .i64 (iqA l i).dst) ∧ w.cell? ⟨g, off + i * 11 + 9, none⟩ = some (.string (iqA l i).opts) ∧ w.cell? ⟨g, off + i * 11 + 10, none⟩ = some (.string (iqA l i).data) := by
  have hl := iqF_len l
  have ha := iqF_at l i h
  refine ⟨?_, ?_, ?_, ?_, ?_, ?_, ?_, ?_, ?_, ?_, ?_⟩
  · exact (hc (i * 11) (by omega)).trans (ha 0 (by omega))
  · rw [Nat.add_assoc]; exact (hc (i * 11 + 1) (by omega)).trans (ha 1 (by omega))
  · rw [Nat.add_assoc]; exact (hc (i * 11 + 2) (by omega)).trans (ha 2 (by omega))
  · rw [Nat.add_assoc]; exact (hc (i * 11 + 3) (by omega)).trans (ha 3 (by omega))
  · rw [Nat.add_assoc]; exact (hc (i * 11 + 4) (by omega)).trans (ha 4 (by omega))
  · rw [Nat.add_assoc]; exact (hc (i * 11 + 5) (by omega)).trans (ha 5 (by omega))
  · rw [Nat.add_assoc]; exact (hc (i * 11 + 6) (by omega)).trans (ha 6 (by omega))
  · rw [Nat.add_assoc]; exact (hc (i * 11 + 7) (by omega)).trans (ha 7 (by omega))
  · rw [Nat.add_assoc]; exact (hc (i * 11 + 8) (by omega)).trans (ha 8 (by omega))
  · rw [Nat.add_assoc]; exact (hc (i * 11 + 9) (by omega)).trans (ha 9 (by omega))
  · rw [Nat.add_assoc]; exact (hc (i * 11 + 10) (by omega)).trans (ha 10 (by omega))
theorem iq_below {w w' : World} {g off i : Nat} {l : List IpV} (hb : Below w.heap.size w w') (hg : g < w.heap.size) (h : w.cell? ⟨g, off + i * 11, none⟩ = some (.int .i64 (iqA l i).tos) ∧ w.cell? ⟨g, off + i * 11 + 1, none⟩ = some (.int .i64 (iqA l i).id) ∧ w.cell? ⟨g, off + i * 11 + 2, none⟩ = some (.bool (iqA l i).df) ∧ w.cell? ⟨g, off + i * 11 + 3, none⟩ = some (.bool (iqA l i).mf) ∧ w.cell? ⟨g, off + i * 11 + 4, none⟩ = some (.int .i64 (iqA l i).off) ∧ w.cell? ⟨g, off + i * 11 + 5, none⟩ = some (.int .i64 (iqA l i).ttl) ∧ w.cell? ⟨g, off + i * 11 + 6, none⟩ = some (.int .i64 (iqA l i).pro) ∧ w.cell? ⟨g, off + i * 11 + 7, none⟩ = some (.int .i64 (iqA l i).src) ∧ w.cell? ⟨g, off + i * 11 + 8, none⟩ = some (.int .i64 (iqA l i).dst) ∧ w.cell? ⟨g, off + i * 11 + 9, none⟩ = some (.string (iqA l i).opts) ∧ w.cell? ⟨g, off + i * 11 + 10, none⟩ = some (.string (iqA l i).data)) :
    w'.cell? ⟨g, off + i * 11, none⟩ = some (.int .i64 (iqA l i).tos) ∧ w'.cell? ⟨g, off + i * 11 + 1, none⟩ = some (.int .i64 (iqA l i).id) ∧ w'.cell? ⟨g, off + i * 11 + 2, none⟩ = some (.bool (iqA l i).df) ∧ w'.cell? ⟨g, off + i * 11 + 3, none⟩ = some (.bool (iqA l i).mf) ∧ w'.cell? ⟨g, off + i * 11 + 4, none⟩ = some (.int .i64 (iqA l i).off) ∧ w'.cell? ⟨g, off + i * 11 + 5, none⟩ = some (.int .i64 (iqA l i).ttl) ∧ w'.cell? ⟨g, off + i * 11 + 6, none⟩ = some (.int .i64 (iqA l i).pro) ∧ w'.cell? ⟨g, off + i * 11 + 7, none⟩ = some (.int .i64 (iqA l i).src) ∧ w'.cell? ⟨g, off + i * 11 + 8, none⟩ = some (.int .i64 (iqA l i).dst) ∧ w'.cell? ⟨g, off + i * 11 + 9, none⟩ = some (.string (iqA l i).opts) ∧ w'.cell? ⟨g, off + i * 11 + 10, none⟩ = some (.string (iqA l i).data) := ⟨(hb.cell (p := ⟨g, off + i * 11, none⟩) hg).trans h.1, (hb.cell (p := ⟨g, off + i * 11 + 1, none⟩) hg).trans h.2.1, (hb.cell (p := ⟨g, off + i * 11 + 2, none⟩) hg).trans h.2.2.1, (hb.cell (p := ⟨g, off + i * 11 + 3, none⟩) hg).trans h.2.2.2.1, (hb.cell (p := ⟨g, off + i * 11 + 4, none⟩) hg).trans h.2.2.2.2.1, (hb.cell (p := ⟨g, off + i * 11 + 5, none⟩) hg).trans h.2.2.2.2.2.1, (hb.cell (p := ⟨g, off + i * 11 + 6, none⟩) hg).trans h.2.2.2.2.2.2.1, (hb.cell (p := ⟨g, off + i * 11 + 7, none⟩) hg).trans h.2.2.2.2.2.2.2.1, (hb.cell (p := ⟨g, off + i * 11 + 8, none⟩) hg).trans h.2.2.2.2.2.2.2.2.1, (hb.cell (p := ⟨g, off + i * 11 + 9, none⟩) hg).trans h.2.2.2.2.2.2.2.2.2.1, (hb.cell (p := ⟨g, off + i * 11 + 10, none⟩) hg).trans h.2.2.2.2.2.2.2.2.2.2⟩
theorem iq_fill (l : List IpV) (Z : List Value) (hZ : Z.length = l.length * 11) (j : Nat) (h : j < l.length) : ((((((((((((iqF (l.take j) ++ Z.drop (j * 11)).set (j * 11) (.int .i64 (iqA l j).tos)).set (j * 11 + 1) (.int .i64 (iqA l j).id)).set (j * 11 + 2) (.bool (iqA l j).df)).set (j * 11 + 3) (.bool (iqA l j).mf)).set (j * 11 + 4) (.int .i64 (iqA l j).off)).set (j * 11 + 5) (.int .i64 (iqA l j).ttl)).set (j * 11 + 6) (.int .i64 (iqA l j).pro)).set (j * 11 + 7) (.int .i64 (iqA l j).src)).set (j * 11 + 8) (.int .i64 (iqA l j).dst)).set (j * 11 + 9) (.string (iqA l j).opts)).set (j * 11 + 10) (.string (iqA l j).data)) = iqF (l.take (j + 1)) ++ Z.drop ((j + 1) * 11) := by
  have e1 : (iqF (l.take j)).length = j * 11 := by rw [iqF_len, List.length_take]; congr 1; omega
  rw [fill_set _ Z (j * 11) e1 (by omega)]
  rw [fill_set _ Z (j * 11 + 1) (by simp [e1]) (by omega)]
  rw [fill_set _ Z (j * 11 + 2) (by simp [e1]) (by omega)]
  rw [fill_set _ Z (j * 11 + 3) (by simp [e1]) (by omega)]
  rw [fill_set _ Z (j * 11 + 4) (by simp [e1]) (by omega)]
  rw [fill_set _ Z (j * 11 + 5) (by simp [e1]) (by omega)]
  rw [fill_set _ Z (j * 11 + 6) (by simp [e1]) (by omega)]
  rw [fill_set _ Z (j * 11 + 7) (by simp [e1]) (by omega)]
  rw [fill_set _ Z (j * 11 + 8) (by simp [e1]) (by omega)]
  rw [fill_set _ Z (j * 11 + 9) (by simp [e1]) (by omega)]
  rw [fill_set _ Z (j * 11 + 10) (by simp [e1]) (by omega)]
  rw [iqF_take l j h, show (j + 1) * 11 = j * 11 + 11 from by omega]
  simp only [List.append_assoc, List.cons_append, List.nil_append, ipL]
set_option maxRecDepth 100000 in
theorem l_szIpV_yes (a : IpV) (left : Int) (w : World) (h : (iqSz a : Int) ≤ left) (hl : left ≤ 1048576) :
    Calls Try.prog 8 #[.agg (ipL a), .int .i64 left] w fun e w' => e = .returned (.int .i64 (left - (iqSz a : Int))) ∧ Below w.heap.size w w' := by
  obtain ⟨qtos, qid, qdf, qmf, qoff, qttl, qpro, qsrc, qdst, qopts, qdata⟩ := a
  simp only [ipL, iqSz] at *
  go_enter Try.func8, Try.ntmps8
  go_wp2
  go_ret
  exact ⟨by rw [show left - ((qopts.size + qdata.size : Nat) : Int) = left - (qopts.size : Int) - (qdata.size : Int) from by omega]; rfl, (Below.refl _ w).alloc (Nat.le_refl _) _⟩
set_option maxRecDepth 100000 in
theorem l_szIpV_no (a : IpV) (left : Int) (w : World) (h : left < (iqSz a : Int)) (h0 : 0 ≤ left) (hl : left ≤ 1048576) (hopts : a.opts.size ≤ 9223372036854775807) (hdata : a.data.size ≤ 9223372036854775807) :
    Calls Try.prog 8 #[.agg (ipL a), .int .i64 left] w fun e w' => e = .returned (.int .i64 (-1)) ∧ Below w.heap.size w w' := by
  obtain ⟨qtos, qid, qdf, qmf, qoff, qttl, qpro, qsrc, qdst, qopts, qdata⟩ := a
  simp only [ipL, iqSz] at *
  by_cases h1 : (qopts.size : Int) ≤ left
  all_goals
    go_enter Try.func8, Try.ntmps8
    go_wp2
    go_ret
    exact ⟨rfl, (Below.refl _ w).alloc (Nat.le_refl _) _⟩
def iqLong (l : List IpV) : Prop := ∀ i, i < l.length → (iqA l i).opts.size ≤ 9223372036854775807 ∧ (iqA l i).data.size ≤ 9223372036854775807
set_option maxRecDepth 100000 in
set_option maxHeartbeats 1600000 in
theorem l_eqIp (a : IpV) (w : World) :
    Calls Try.prog 34 #[.agg (ipL a), .agg (ipL a)] w fun e w' => e = .returned (.bool true) ∧ Below w.heap.size w w' := by
  obtain ⟨qtos, qid, qdf, qmf, qoff, qttl, qpro, qsrc, qdst, qopts, qdata⟩ := a
  simp only [ipL] at *
  go_enter Try.func34, Try.ntmps34
  go_wp2
  go_ret
  exact ⟨rfl, ((Below.refl _ w).alloc (Nat.le_refl _) _).alloc (by simp) _⟩
theorem Try.infIp : InfV 25 28 11 96 #[.int .i64 0, .int .i64 0, .bool false, .bool false, .int .i64 0, .int .i64 0, .int .i64 0, .int .i64 0, .int .i64 0, .string ByteArray.empty, .string ByteArray.empty] := ⟨Try.underlying25, by kernel_rfl, by decide, by decide, rfl⟩
set_option maxRecDepth 100000 in
set_option maxHeartbeats 3200000 in
theorem l_eqIpS (T U : Option Addr) (c e : Nat) (l : List IpV) (w : World) (h : CellsAt w T (iqF l)) (k : CellsAt w U (iqF l)) (hl : l.length ≤ 1099511627776) :
    Calls Try.prog 12 #[.slice T l.length c, .slice U l.length e] w fun e w' => e = .returned (.bool true) ∧ Below w.heap.size w w' := by
  have hne : ((l.length : Int) != (l.length : Int)) = false := by simp
  have CE : Hid (∀ (a : IpV) (u : World), Calls Try.prog 34 #[.agg (ipL a), .agg (ipL a)] u fun e w' => e = .returned (.bool true) ∧ Below u.heap.size u w') := fun a u => l_eqIp a u
  go_enter Try.func12, Try.ntmps12
  go_wp2
  go_loopw [5] (fun i wr => ∃ j : Nat, j ≤ l.length ∧ i = .int .i64 (j : Int) ∧ Below w.heap.size w wr) (fun i _ => ((l.length : Int) - intOf i).toNat)
  case atStart => exact ⟨0, by omega, rfl, Below.refl _ _⟩
  case round =>
    obtain ⟨j, hj, rfl, hb⟩ := hrel
    by_cases hlt : j < l.length
    · have hle := iqF_len l
      rcases h with h | ⟨g, off, rfl, hg, hc⟩
      · rw [h] at hle; simp at hle; omega
      · rcases k with k | ⟨g2, off2, rfl, hg2, hc2⟩
        · rw [k] at hle; simp at hle; omega
        · have hj1 : (j : Int) < (l.length : Int) := by omega
          have hcs := iq_cells hc j hlt
          have hcs2 := iq_cells hc2 j hlt
          clear hc hc2 hle
          generalize iqA l j = a at *
          obtain ⟨qtos, qid, qdf, qmf, qoff, qttl, qpro, qsrc, qdst, qopts, qdata⟩ := a
          have hr := Below.refl wr.heap.size wr
          go_wp2_with fail
          have hne2 := BW.some wr
          have c0 := fun u : BW wr => (u.le.cell (p := ⟨g, off + j * 11, none⟩) (Nat.lt_of_lt_of_le hg hb.size)).trans ((hb.cell (p := ⟨g, off + j * 11, none⟩) hg).trans hcs.1)
          have d0 := fun u : BW wr => (u.le.cell (p := ⟨g2, off2 + j * 11, none⟩) (Nat.lt_of_lt_of_le hg2 hb.size)).trans ((hb.cell (p := ⟨g2, off2 + j * 11, none⟩) hg2).trans hcs2.1)
          have c1 := fun u : BW wr => (u.le.cell (p := ⟨g, off + j * 11 + 1, none⟩) (Nat.lt_of_lt_of_le hg hb.size)).trans ((hb.cell (p := ⟨g, off + j * 11 + 1, none⟩) hg).trans hcs.2.1)
          have d1 := fun u : BW wr => (u.le.cell (p := ⟨g2, off2 + j * 11 + 1, none⟩) (Nat.lt_of_lt_of_le hg2 hb.size)).trans ((hb.cell (p := ⟨g2, off2 + j * 11 + 1, none⟩) hg2).trans hcs2.2.1)
          have c2 := fun u : BW wr => (u.le.cell (p := ⟨g, off + j * 11 + 2, none⟩) (Nat.lt_of_lt_of_le hg hb.size)).trans ((hb.cell (p := ⟨g, off + j * 11 + 2, none⟩) hg).trans hcs.2.2.1)
          have d2 := fun u : BW wr => (u.le.cell (p := ⟨g2, off2 + j * 11 + 2, none⟩) (Nat.lt_of_lt_of_le hg2 hb.size)).trans ((hb.cell (p := ⟨g2, off2 + j * 11 + 2, none⟩) hg2).trans hcs2.2.2.1)
          have c3 := fun u : BW wr => (u.le.cell (p := ⟨g, off + j * 11 + 3, none⟩) (Nat.lt_of_lt_of_le hg hb.size)).trans ((hb.cell (p := ⟨g, off + j * 11 + 3, none⟩) hg).trans hcs.2.2.2.1)
          have d3 := fun u : BW wr => (u.le.cell (p := ⟨g2, off2 + j * 11 + 3, none⟩) (Nat.lt_of_lt_of_le hg2 hb.size)).trans ((hb.cell (p := ⟨g2, off2 + j * 11 + 3, none⟩) hg2).trans hcs2.2.2.2.1)
          have c4 := fun u : BW wr => (u.le.cell (p := ⟨g, off + j * 11 + 4, none⟩) (Nat.lt_of_lt_of_le hg hb.size)).trans ((hb.cell (p := ⟨g, off + j * 11 + 4, none⟩) hg).trans hcs.2.2.2.2.1)
          have d4 := fun u : BW wr => (u.le.cell (p := ⟨g2, off2 + j * 11 + 4, none⟩) (Nat.lt_of_lt_of_le hg2 hb.size)).trans ((hb.cell (p := ⟨g2, off2 + j * 11 + 4, none⟩) hg2).trans hcs2.2.2.2.2.1)
          have c5 := fun u : BW wr => (u.le.cell (p := ⟨g, off + j * 11 + 5, none⟩) (Nat.lt_of_lt_of_le hg hb.size)).trans ((hb.cell (p := ⟨g, off + j * 11 + 5, none⟩) hg).trans hcs.2.2.2.2.2.1)
          have d5 := fun u : BW wr => (u.le.cell (p := ⟨g2, off2 + j * 11 + 5, none⟩) (Nat.lt_of_lt_of_le hg2 hb.size)).trans ((hb.cell (p := ⟨g2, off2 + j * 11 + 5, none⟩) hg2).trans hcs2.2.2.2.2.2.1)
          have c6 := fun u : BW wr => (u.le.cell (p := ⟨g, off + j * 11 + 6, none⟩) (Nat.lt_of_lt_of_le hg hb.size)).trans ((hb.cell (p := ⟨g, off + j * 11 + 6, none⟩) hg).trans hcs.2.2.2.2.2.2.1)
          have d6 := fun u : BW wr => (u.le.cell (p := ⟨g2, off2 + j * 11 + 6, none⟩) (Nat.lt_of_lt_of_le hg2 hb.size)).trans ((hb.cell (p := ⟨g2, off2 + j * 11 + 6, none⟩) hg2).trans hcs2.2.2.2.2.2.2.1)
          have c7 := fun u : BW wr => (u.le.cell (p := ⟨g, off + j * 11 + 7, none⟩) (Nat.lt_of_lt_of_le hg hb.size)).trans ((hb.cell (p := ⟨g, off + j * 11 + 7, none⟩) hg).trans hcs.2.2.2.2.2.2.2.1)
          have d7 := fun u : BW wr => (u.le.cell (p := ⟨g2, off2 + j * 11 + 7, none⟩) (Nat.lt_of_lt_of_le hg2 hb.size)).trans ((hb.cell (p := ⟨g2, off2 + j * 11 + 7, none⟩) hg2).trans hcs2.2.2.2.2.2.2.2.1)
          have c8 := fun u : BW wr => (u.le.cell (p := ⟨g, off + j * 11 + 8, none⟩) (Nat.lt_of_lt_of_le hg hb.size)).trans ((hb.cell (p := ⟨g, off + j * 11 + 8, none⟩) hg).trans hcs.2.2.2.2.2.2.2.2.1)
          have d8 := fun u : BW wr => (u.le.cell (p := ⟨g2, off2 + j * 11 + 8, none⟩) (Nat.lt_of_lt_of_le hg2 hb.size)).trans ((hb.cell (p := ⟨g2, off2 + j * 11 + 8, none⟩) hg2).trans hcs2.2.2.2.2.2.2.2.2.1)
          have c9 := fun u : BW wr => (u.le.cell (p := ⟨g, off + j * 11 + 9, none⟩) (Nat.lt_of_lt_of_le hg hb.size)).trans ((hb.cell (p := ⟨g, off + j * 11 + 9, none⟩) hg).trans hcs.2.2.2.2.2.2.2.2.2.1)
          have d9 := fun u : BW wr => (u.le.cell (p := ⟨g2, off2 + j * 11 + 9, none⟩) (Nat.lt_of_lt_of_le hg2 hb.size)).trans ((hb.cell (p := ⟨g2, off2 + j * 11 + 9, none⟩) hg2).trans hcs2.2.2.2.2.2.2.2.2.2.1)
          have c10 := fun u : BW wr => (u.le.cell (p := ⟨g, off + j * 11 + 10, none⟩) (Nat.lt_of_lt_of_le hg hb.size)).trans ((hb.cell (p := ⟨g, off + j * 11 + 10, none⟩) hg).trans hcs.2.2.2.2.2.2.2.2.2.2)
          have d10 := fun u : BW wr => (u.le.cell (p := ⟨g2, off2 + j * 11 + 10, none⟩) (Nat.lt_of_lt_of_le hg2 hb.size)).trans ((hb.cell (p := ⟨g2, off2 + j * 11 + 10, none⟩) hg2).trans hcs2.2.2.2.2.2.2.2.2.2.2)
          refine wp_region_below (by kernel_rfl) (by kernel_rfl) ?_
          repeat (go_big_quiet_step (first | (go_at_call 34; exact Calls.into (CE.out ⟨qtos, qid, qdf, qmf, qoff, qttl, qpro, qsrc, qdst, qopts, qdata⟩ _))))
          refine wpQuiet_nil ?_
          intro _ hw'
          obtain ⟨u, hw''⟩ := hw'
          subst hw''
          clear c0 d0 c1 d1 c2 d2 c3 d3 c4 d4 c5 d5 c6 d6 c7 d7 c8 d8 c9 d9 c10 d10 hne2
          go_wp2
          go_roundw
          case rel => exact ⟨j + 1, by omega, by go_num, hb.trans (u.le.mono hb.size)⟩
          case measure => simp [intOf]; omega
    · go_wp2
      go_ret
      exact ⟨rfl, hb⟩
end Go.Proofs.Ytgfpoohjbgdcpaa
