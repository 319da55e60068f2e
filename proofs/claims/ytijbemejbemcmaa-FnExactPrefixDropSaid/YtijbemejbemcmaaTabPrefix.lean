/-
  Rows of the record Prefix: what is read of them, what the exact laws do with them.
-/
import Derived.Test.YtijbemejbemcmaaRecs
namespace Go.Proofs.Ytijbemejbemcmaa
open Go.RowKit Go.PlainAid
structure PfV where
  addr : Int
  bits : Int
  act : Int
def pfL (a : PfV) : Array Value := #[.int .i64 a.addr, .int .i64 a.bits, .int .i64 a.act]
def pfI (a : PfV) : List Int := [a.addr, a.bits, a.act]
def pfF (l : List PfV) : List Int := l.flatMap pfI
def pfA (l : List PfV) (i : Nat) : PfV := l.getD i ⟨0, 0, 0⟩
theorem pfF_len (l : List PfV) : (pfF l).length = l.length * 3 := by
  induction l with
  | nil => rfl
  | cons a l ih =>
    have e : pfF (a :: l) = pfI a ++ pfF l := rfl
    rw [e, List.length_append, ih, List.length_cons]
    simp [pfI]; omega
theorem pfF_at (l : List PfV) (i : Nat) (h : i < l.length) : ia (pfF l) (i * 3) = (pfA l i).addr ∧ ia (pfF l) (i * 3 + 1) = (pfA l i).bits ∧ ia (pfF l) (i * 3 + 2) = (pfA l i).act := by
  induction l generalizing i with
  | nil => simp at h
  | cons a l ih =>
    have e : pfF (a :: l) = pfI a ++ pfF l := rfl
    cases i with
    | zero => simp [e, pfI, ia, pfA]
    | succ i =>
      have := ih i (by simpa using h)
      have e2 : (i + 1) * 3 = i * 3 + 3 := by omega
      have e3 : ∀ j, ia (pfI a ++ pfF l) (i * 3 + 3 + j) = ia (pfF l) (i * 3 + j) := fun j => by
        rw [show i * 3 + 3 + j = (pfI a).length + (i * 3 + j) from by simp [pfI]; omega]; exact ia_app _ _ _
      rw [e, e2]
      exact ⟨(e3 0).trans this.1, (e3 1).trans this.2.1, (e3 2).trans this.2.2⟩
theorem pfA_eq (l : List PfV) (i : Nat) (h : i < l.length) : pfA l i = l[i] := by simp [pfA, List.getD, h]
theorem pf_cells {w : World} {g off : Nat} {l : List PfV} (hc : ∀ i, i < (pfF l).length → w.cell? ⟨g, off + i, none⟩ = some (.int .i64 (ia (pfF l) i))) (i : Nat) (h : i < l.length) :
    w.cell? ⟨g, off + i * 3, none⟩ = some (.int .i64 (pfA l i).addr) ∧ w.cell? ⟨g, off + i * 3 + 1, none⟩ = some (.int .i64 (pfA l i).bits) ∧ w.cell? ⟨g, off + i * 3 + 2, none⟩ = some (.int .i64 (pfA l i).act) := by
  have hl := pfF_len l
  have ha := pfF_at l i h
  refine ⟨?_, ?_, ?_⟩
  · rw [← ha.1]; exact hc (i * 3) (by omega)
  · rw [← ha.2.1, Nat.add_assoc]; exact hc (i * 3 + 1) (by omega)
  · rw [← ha.2.2, Nat.add_assoc]; exact hc (i * 3 + 2) (by omega)
theorem pf_below {w w' : World} {g off i : Nat} {l : List PfV} (hb : Below w.heap.size w w') (hg : g < w.heap.size) (h : w.cell? ⟨g, off + i * 3, none⟩ = some (.int .i64 (pfA l i).addr) ∧ w.cell? ⟨g, off + i * 3 + 1, none⟩ = some (.int .i64 (pfA l i).bits) ∧ w.cell? ⟨g, off + i * 3 + 2, none⟩ = some (.int .i64 (pfA l i).act)) :
    w'.cell? ⟨g, off + i * 3, none⟩ = some (.int .i64 (pfA l i).addr) ∧ w'.cell? ⟨g, off + i * 3 + 1, none⟩ = some (.int .i64 (pfA l i).bits) ∧ w'.cell? ⟨g, off + i * 3 + 2, none⟩ = some (.int .i64 (pfA l i).act) := ⟨(hb.cell (p := ⟨g, off + i * 3, none⟩) hg).trans h.1, (hb.cell (p := ⟨g, off + i * 3 + 1, none⟩) hg).trans h.2.1, (hb.cell (p := ⟨g, off + i * 3 + 2, none⟩) hg).trans h.2.2⟩
theorem pfF_take (l : List PfV) (j : Nat) (h : j < l.length) : pfF (l.take (j + 1)) = pfF (l.take j) ++ pfI (pfA l j) := by
  rw [List.take_succ_eq_append_getElem h, pfA_eq l j h]; simp only [pfF, List.flatMap_append, List.flatMap_cons, List.flatMap_nil, List.append_nil]
theorem pf_fill (l : List PfV) (j : Nat) (h : j < l.length) : ((((pfF (l.take j) ++ List.replicate ((l.length - j) * 3) 0).set (j * 3) (pfA l j).addr).set (j * 3 + 1) (pfA l j).bits).set (j * 3 + 2) (pfA l j).act) = pfF (l.take (j + 1)) ++ List.replicate ((l.length - (j + 1)) * 3) 0 := by
  have e1 : (pfF (l.take j)).length = j * 3 := by rw [pfF_len, List.length_take]; congr 1; omega
  have e2 : (l.length - j) * 3 = (l.length - (j + 1)) * 3 + 3 := by omega
  rw [pfF_take l j h, e2]
  generalize (l.length - (j + 1)) * 3 = m
  have e3 : List.replicate (m + 3) (0 : Int) = 0 :: 0 :: 0 :: List.replicate m 0 := rfl
  rw [e3]
  generalize pfF (l.take j) = a at *
  simp [← e1, pfI]
theorem pfF_app (l m : List PfV) : pfF (l ++ m) = pfF l ++ pfF m := by simp [pfF]
set_option maxRecDepth 100000 in
theorem l_szPrefix (T : Option Addr) (n c : Nat) (w : World) (hn : n ≤ 9223372036854775807) :
    Calls Try.prog 21 #[.slice T n c, .int .i64 1048576] w fun e w' => e = .returned (.int .i64 (if n ≤ 1048576 then 1048576 - (n : Int) else -1)) ∧ w' = w := by
  by_cases h : n ≤ 1048576
  · rw [if_pos h]
    go_enter Try.func21, Try.ntmps21
    go_wp2
    go_ret
    exact ⟨rfl, rfl⟩
  · rw [if_neg h]
    go_enter Try.func21, Try.ntmps21
    go_wp2
    go_ret
    exact ⟨rfl, rfl⟩
set_option maxRecDepth 100000 in
set_option maxHeartbeats 1600000 in
theorem l_toPrefix (a : PfV) (w : World) :
    Calls Try.prog 57 #[.agg (pfL a)] w fun e w' => e = .returned (.agg (pfL a)) ∧ Below w.heap.size w w' := by
  obtain ⟨addr, bits, act⟩ := a
  simp only [pfL] at *
  go_enter Try.func57, Try.ntmps57
  go_wp2
  refine bodyPost_ret (v := .agg #[.int .i64 addr, .int .i64 bits, .int .i64 act]) ?_ rfl ⟨rfl, ?_⟩
  · simp [results, Try.results57, go_sem]
  · go_grown
set_option maxRecDepth 100000 in
set_option maxHeartbeats 800000 in
theorem l_eqPrefix (a : PfV) (w : World) :
    Calls Try.prog 60 #[.agg (pfL a), .agg (pfL a)] w fun e w' => e = .returned (.bool true) ∧ Below w.heap.size w w' := by
  obtain ⟨addr, bits, act⟩ := a
  simp only [pfL] at *
  go_enter Try.func60, Try.ntmps60
  go_wp2
  go_ret
  exact ⟨rfl, ((Below.refl _ w).alloc (Nat.le_refl _) _).alloc (by simp) _⟩
theorem Try.infPrefix : Inf 35 74 3 := ⟨Try.underlying35, by kernel_rfl, by decide, by decide⟩
set_option maxRecDepth 100000 in
set_option maxHeartbeats 1600000 in
theorem l_toPrefixS (T : Option Addr) (c : Nat) (l : List PfV) (w : World) (h : IntsAt w T (pfF l)) (hl : l.length ≤ 1048576) :
    Calls Try.prog 23 #[.slice T l.length c] w fun e w' => ∃ g, e = .returned (.slice (some ⟨g, 0, none⟩) l.length l.length) ∧ ownR w' w.heap.size 74 3 (.slice (some ⟨g, 0, none⟩) l.length l.length) l.length (pfF l) ∧ Below w.heap.size w w' := by
  have CT : Hid (∀ (a : PfV) (u : World), Calls Try.prog 57 #[.agg (pfL a)] u fun e w' => e = .returned (.agg (pfL a)) ∧ Below u.heap.size u w') := fun a u => l_toPrefix a u
  go_enter Try.func23, Try.ntmps23
  go_wp2_with (refine wpList_make_recs Try.infPrefix rfl _ _ rfl _ _ _ _ l.length rfl rfl rfl rfl (by omega) ?_; intro w1 hown hb)
  go_loopw [4] (fun i wr => ∃ j : Nat, j ≤ l.length ∧ i = .int .i64 (j : Int) ∧ ownR wr w.heap.size 74 3 (.slice (some ⟨w.heap.size, 0, none⟩) l.length l.length) l.length (pfF (l.take j) ++ List.replicate ((l.length - j) * 3) 0) ∧ Below w.heap.size w wr) (fun i _ => ((l.length : Int) - intOf i).toNat)
  case atStart => exact ⟨0, by omega, rfl, by simpa [pfF] using hown, hb⟩
  case round =>
    obtain ⟨j, hj, rfl, hown, hb⟩ := hrel
    by_cases hlt : j < l.length
    · rcases h.below hb with h | ⟨g, off, rfl, hg, hc⟩
      · have := pfF_len l; rw [h] at this; simp at this; omega
      · have hcs := pf_cells hc j hlt
        clear hc
        have hj1 : (j : Int) < (l.length : Int) := by omega
        go_wp2_with fail
        refine (CT.out (pfA l j) _).mono ?_
        rintro e w2 ⟨rfl, hb2⟩
        have ho2 := hown.far hb2
        have hB2 := hb.trans (hb2.mono hb.size)
        have hx0 := ho2.cell (j * 3) (by omega)
        have hf0 := ho2.frozen (j * 3)
        have hx1 := ho2.cell (j * 3 + 1) (by omega)
        have hf1 := ho2.frozen (j * 3 + 1)
        have hx2 := ho2.cell (j * 3 + 2) (by omega)
        have hf2 := ho2.frozen (j * 3 + 2)
        simp only [pfL]
        clear hb2 hcs
        go_wp2
        go_roundw
        case rel =>
          have hb3 := below_set (below_set (below_set ((Below.refl w.heap.size w2)) ⟨w.heap.size, j * 3, none⟩ (.int .i64 (pfA l j).addr) (Nat.le_refl _)) ⟨w.heap.size, j * 3 + 1, none⟩ (.int .i64 (pfA l j).bits) (Nat.le_refl _)) ⟨w.heap.size, j * 3 + 2, none⟩ (.int .i64 (pfA l j).act) (Nat.le_refl _)
          refine ⟨j + 1, by omega, by go_num, ?_, hB2.trans hb3⟩
          rw [← pf_fill l j hlt]
          exact (((ho2).stored (j * 3) ((pfA l j).addr)).stored (j * 3 + 1) ((pfA l j).bits)).stored (j * 3 + 2) ((pfA l j).act)
        case measure => simp [intOf]; omega
    · have e : j = l.length := by omega
      subst e
      go_wp2
      go_ret
      exact ⟨w.heap.size, rfl, by simpa using hown, hb⟩
set_option maxRecDepth 100000 in
set_option maxHeartbeats 1600000 in
theorem l_eqPrefixS (T U : Option Addr) (c e : Nat) (l : List PfV) (w : World) (h : IntsAt w T (pfF l)) (k : IntsAt w U (pfF l)) (hl : l.length ≤ 1099511627776) :
    Calls Try.prog 25 #[.slice T l.length c, .slice U l.length e] w fun e w' => e = .returned (.bool true) ∧ Below w.heap.size w w' := by
  have hne : ((l.length : Int) != (l.length : Int)) = false := by simp
  have CE : Hid (∀ (a : PfV) (u : World), Calls Try.prog 60 #[.agg (pfL a), .agg (pfL a)] u fun e w' => e = .returned (.bool true) ∧ Below u.heap.size u w') := fun a u => l_eqPrefix a u
  go_enter Try.func25, Try.ntmps25
  go_wp2
  go_loopw [5] (fun i wr => ∃ j : Nat, j ≤ l.length ∧ i = .int .i64 (j : Int) ∧ Below w.heap.size w wr) (fun i _ => ((l.length : Int) - intOf i).toNat)
  case atStart => exact ⟨0, by omega, rfl, Below.refl _ _⟩
  case round =>
    obtain ⟨j, hj, rfl, hb⟩ := hrel
    by_cases hlt : j < l.length
    · have hle := pfF_len l
      rcases h with h | ⟨g, off, rfl, hg, hc⟩
      · rw [h] at hle; simp at hle; omega
      · rcases k with k | ⟨g2, off2, rfl, hg2, hc2⟩
        · rw [k] at hle; simp at hle; omega
        · have hj1 : (j : Int) < (l.length : Int) := by omega
          have hcs := pf_cells hc j hlt
          have hcs2 := pf_cells hc2 j hlt
          clear hc hc2 hle
          generalize pfA l j = a at *
          obtain ⟨addr, bits, act⟩ := a
          have hr := Below.refl wr.heap.size wr
          go_wp2_with fail
          have hne2 := BW.some wr
          have c0 := fun u : BW wr => (u.le.cell (p := ⟨g, off + j * 3, none⟩) (Nat.lt_of_lt_of_le hg hb.size)).trans ((hb.cell (p := ⟨g, off + j * 3, none⟩) hg).trans hcs.1)
          have d0 := fun u : BW wr => (u.le.cell (p := ⟨g2, off2 + j * 3, none⟩) (Nat.lt_of_lt_of_le hg2 hb.size)).trans ((hb.cell (p := ⟨g2, off2 + j * 3, none⟩) hg2).trans hcs2.1)
          have c1 := fun u : BW wr => (u.le.cell (p := ⟨g, off + j * 3 + 1, none⟩) (Nat.lt_of_lt_of_le hg hb.size)).trans ((hb.cell (p := ⟨g, off + j * 3 + 1, none⟩) hg).trans hcs.2.1)
          have d1 := fun u : BW wr => (u.le.cell (p := ⟨g2, off2 + j * 3 + 1, none⟩) (Nat.lt_of_lt_of_le hg2 hb.size)).trans ((hb.cell (p := ⟨g2, off2 + j * 3 + 1, none⟩) hg2).trans hcs2.2.1)
          have c2 := fun u : BW wr => (u.le.cell (p := ⟨g, off + j * 3 + 2, none⟩) (Nat.lt_of_lt_of_le hg hb.size)).trans ((hb.cell (p := ⟨g, off + j * 3 + 2, none⟩) hg).trans hcs.2.2)
          have d2 := fun u : BW wr => (u.le.cell (p := ⟨g2, off2 + j * 3 + 2, none⟩) (Nat.lt_of_lt_of_le hg2 hb.size)).trans ((hb.cell (p := ⟨g2, off2 + j * 3 + 2, none⟩) hg2).trans hcs2.2.2)
          refine wp_region_below (by kernel_rfl) (by kernel_rfl) ?_
          repeat (go_big_quiet_step (first | (go_at_call 60; exact Calls.into (CE.out ⟨addr, bits, act⟩ _))))
          refine wpQuiet_nil ?_
          intro _ hw'
          obtain ⟨u, hw''⟩ := hw'
          subst hw''
          clear c0 d0 c1 d1 c2 d2 hne2
          go_wp2
          go_roundw
          case rel => exact ⟨j + 1, by omega, by go_num, hb.trans (u.le.mono hb.size)⟩
          case measure => simp [intOf]; omega
    · go_wp2
      go_ret
      exact ⟨rfl, hb⟩
set_option maxRecDepth 100000 in
set_option maxHeartbeats 1600000 in
theorem l_markPrefixS (B : Nat) (T : Option Addr) (n c : Nat) (xs : List Int) (w : World) (h : ownR w B 74 3 (.slice T n c) n xs) (hn : n ≤ 4194304) :
    Calls Try.prog 26 #[.slice T n c, .int .i64 1] w fun e w' => e = .returned (.int .i64 (1 + (n : Int) * 3)) ∧ ownR w' B 74 3 (.slice T n c) n (marks (n * 3)) ∧ w.grownBy w' (Value.slice T n c).ownBlock := by
  have hxl := h.len
  go_enter Try.func26, Try.ntmps26
  go_wp2
  go_loopw [5, 1] (fun i q wr => ∃ j : Nat, j ≤ n ∧ i = .int .i64 (j : Int) ∧ q = .int .i64 (1 + (j : Int) * 3) ∧ ownR wr B 74 3 (.slice T n c) n (marks (j * 3) ++ xs.drop (j * 3)) ∧ w.grownBy wr (Value.slice T n c).ownBlock) (fun i _ _ => ((n : Int) - intOf i).toNat)
  case atStart => exact ⟨0, by omega, rfl, rfl, by simpa [marks] using h, grownBy_refl _ _⟩
  case round =>
    obtain ⟨j, hj, rfl, rfl, hown, hg⟩ := hrel
    by_cases hlt : j < n
    · rcases hown.shape with ⟨_, h0, _⟩ | ⟨g, cap, hv, hB, hgs, hcap⟩
      · omega
      · simp only [Value.slice.injEq] at hv
        obtain ⟨rfl, _, rfl⟩ := hv
        have hj1 : (j : Int) < (n : Int) := by omega
        have hx0 := hown.cell (j * 3) (by omega)
        have hf0 := hown.frozen (j * 3)
        have hx1 := hown.cell (j * 3 + 1) (by omega)
        have hf1 := hown.frozen (j * 3 + 1)
        have hx2 := hown.cell (j * 3 + 2) (by omega)
        have hf2 := hown.frozen (j * 3 + 2)
        go_wp2
        go_roundw
        case rel =>
          refine ⟨j + 1, by omega, by go_num, by go_num, ?_, ?_⟩
          · rw [← marks_fill3 xs j (by omega)]
            exact (((hown).stored (j * 3) (1 + (j : Int) * 3)).stored (j * 3 + 1) (1 + (j : Int) * 3 + 1)).stored (j * 3 + 2) (1 + (j : Int) * 3 + 2)
          · exact grown_set (grown_set (grown_set (hg) ⟨g, j * 3, none⟩ _ rfl) ⟨g, j * 3 + 1, none⟩ _ rfl) ⟨g, j * 3 + 2, none⟩ _ rfl
        case measure => simp [intOf]; omega
    · have e : j = n := by omega
      subst e
      go_wp2
      go_ret
      exact ⟨rfl, by rw [List.drop_eq_nil_of_le (by omega), List.append_nil] at hown; exact hown, hg⟩
set_option maxRecDepth 100000 in
set_option maxHeartbeats 1600000 in
theorem l_heldPrefixS (B : Nat) (T : Option Addr) (n c : Nat) (w : World) (h : ownR w B 74 3 (.slice T n c) n (marks (n * 3))) (hn : n ≤ 4194304) :
    Calls Try.prog 27 #[.slice T n c, .int .i64 1] w fun e w' => e = .returned (.int .i64 (1 + (n : Int) * 3)) ∧ Below w.heap.size w w' := by
  go_enter Try.func27, Try.ntmps27
  go_wp2
  go_loopw [5, 1] (fun i q wr => ∃ j : Nat, j ≤ n ∧ i = .int .i64 (j : Int) ∧ q = .int .i64 (1 + (j : Int) * 3) ∧ Below w.heap.size w wr) (fun i _ _ => ((n : Int) - intOf i).toNat)
  case atStart => exact ⟨0, by omega, rfl, rfl, Below.refl _ _⟩
  case round =>
    obtain ⟨j, hj, rfl, rfl, hb⟩ := hrel
    by_cases hlt : j < n
    · have hown := h.far hb
      rcases hown.shape with ⟨_, h0, _⟩ | ⟨g, cap, hv, hB, hgs, hcap⟩
      · omega
      · simp only [Value.slice.injEq] at hv
        obtain ⟨rfl, _, rfl⟩ := hv
        have hj1 : (j : Int) < (n : Int) := by omega
        have hx0 := hown.cell (j * 3) (by omega)
        rw [ia_marks _ _ (by omega)] at hx0
        have hx1 := hown.cell (j * 3 + 1) (by omega)
        rw [ia_marks _ _ (by omega)] at hx1
        have hx2 := hown.cell (j * 3 + 2) (by omega)
        rw [ia_marks _ _ (by omega)] at hx2
        go_wp2
        go_roundw
        case rel => exact ⟨j + 1, by omega, by go_num, by go_num, hb⟩
        case measure => simp [intOf]; omega
    · have e : j = n := by omega
      subst e
      go_wp2
      go_ret
      exact ⟨rfl, hb⟩

end Go.Proofs.Ytijbemejbemcmaa
