/-
  Rows of the record Exact: what is read of them, what the exact laws do with them.
-/
import Derived.Test.YtijbemejbemcmaaRecs
namespace Go.Proofs.Ytijbemejbemcmaa
open Go.RowKit Go.PlainAid
structure ExV where
  key : Int
  act : Int
def exL (a : ExV) : Array Value := #[.int .i64 a.key, .int .i64 a.act]
def exI (a : ExV) : List Int := [a.key, a.act]
def exF (l : List ExV) : List Int := l.flatMap exI
def exA (l : List ExV) (i : Nat) : ExV := l.getD i ⟨0, 0⟩
theorem exF_len (l : List ExV) : (exF l).length = l.length * 2 := by
  induction l with
  | nil => rfl
  | cons a l ih =>
    have e : exF (a :: l) = exI a ++ exF l := rfl
    rw [e, List.length_append, ih, List.length_cons]
    simp [exI]; omega
theorem exF_at (l : List ExV) (i : Nat) (h : i < l.length) : ia (exF l) (i * 2) = (exA l i).key ∧ ia (exF l) (i * 2 + 1) = (exA l i).act := by
  induction l generalizing i with
  | nil => simp at h
  | cons a l ih =>
    have e : exF (a :: l) = exI a ++ exF l := rfl
    cases i with
    | zero => simp [e, exI, ia, exA]
    | succ i =>
      have := ih i (by simpa using h)
      have e2 : (i + 1) * 2 = i * 2 + 2 := by omega
      have e3 : ∀ j, ia (exI a ++ exF l) (i * 2 + 2 + j) = ia (exF l) (i * 2 + j) := fun j => by
        rw [show i * 2 + 2 + j = (exI a).length + (i * 2 + j) from by simp [exI]; omega]; exact ia_app _ _ _
      rw [e, e2]
      exact ⟨(e3 0).trans this.1, (e3 1).trans this.2⟩
theorem exA_eq (l : List ExV) (i : Nat) (h : i < l.length) : exA l i = l[i] := by simp [exA, List.getD, h]
theorem ex_cells {w : World} {g off : Nat} {l : List ExV} (hc : ∀ i, i < (exF l).length → w.cell? ⟨g, off + i, none⟩ = some (.int .i64 (ia (exF l) i))) (i : Nat) (h : i < l.length) :
    w.cell? ⟨g, off + i * 2, none⟩ = some (.int .i64 (exA l i).key) ∧ w.cell? ⟨g, off + i * 2 + 1, none⟩ = some (.int .i64 (exA l i).act) := by
  have hl := exF_len l
  have ha := exF_at l i h
  refine ⟨?_, ?_⟩
  · rw [← ha.1]; exact hc (i * 2) (by omega)
  · rw [← ha.2, Nat.add_assoc]; exact hc (i * 2 + 1) (by omega)
theorem ex_below {w w' : World} {g off i : Nat} {l : List ExV} (hb : Below w.heap.size w w') (hg : g < w.heap.size) (h : w.cell? ⟨g, off + i * 2, none⟩ = some (.int .i64 (exA l i).key) ∧ w.cell? ⟨g, off + i * 2 + 1, none⟩ = some (.int .i64 (exA l i).act)) :
    w'.cell? ⟨g, off + i * 2, none⟩ = some (.int .i64 (exA l i).key) ∧ w'.cell? ⟨g, off + i * 2 + 1, none⟩ = some (.int .i64 (exA l i).act) := ⟨(hb.cell (p := ⟨g, off + i * 2, none⟩) hg).trans h.1, (hb.cell (p := ⟨g, off + i * 2 + 1, none⟩) hg).trans h.2⟩
theorem exF_take (l : List ExV) (j : Nat) (h : j < l.length) : exF (l.take (j + 1)) = exF (l.take j) ++ exI (exA l j) := by
  rw [List.take_succ_eq_append_getElem h, exA_eq l j h]; simp only [exF, List.flatMap_append, List.flatMap_cons, List.flatMap_nil, List.append_nil]
theorem ex_fill (l : List ExV) (j : Nat) (h : j < l.length) : (((exF (l.take j) ++ List.replicate ((l.length - j) * 2) 0).set (j * 2) (exA l j).key).set (j * 2 + 1) (exA l j).act) = exF (l.take (j + 1)) ++ List.replicate ((l.length - (j + 1)) * 2) 0 := by
  have e1 : (exF (l.take j)).length = j * 2 := by rw [exF_len, List.length_take]; congr 1; omega
  have e2 : (l.length - j) * 2 = (l.length - (j + 1)) * 2 + 2 := by omega
  rw [exF_take l j h, e2]
  generalize (l.length - (j + 1)) * 2 = m
  have e3 : List.replicate (m + 2) (0 : Int) = 0 :: 0 :: List.replicate m 0 := rfl
  rw [e3]
  generalize exF (l.take j) = a at *
  simp [← e1, exI]
theorem exF_app (l m : List ExV) : exF (l ++ m) = exF l ++ exF m := by simp [exF]
set_option maxRecDepth 100000 in
theorem l_szExact (T : Option Addr) (n c : Nat) (w : World) (hn : n ≤ 9223372036854775807) :
    Calls Try.prog 12 #[.slice T n c, .int .i64 1048576] w fun e w' => e = .returned (.int .i64 (if n ≤ 1048576 then 1048576 - (n : Int) else -1)) ∧ w' = w := by
  by_cases h : n ≤ 1048576
  · rw [if_pos h]
    go_enter Try.func12, Try.ntmps12
    go_wp2
    go_ret
    exact ⟨rfl, rfl⟩
  · rw [if_neg h]
    go_enter Try.func12, Try.ntmps12
    go_wp2
    go_ret
    exact ⟨rfl, rfl⟩
set_option maxRecDepth 100000 in
set_option maxHeartbeats 1600000 in
theorem l_toExact (a : ExV) (w : World) :
    Calls Try.prog 48 #[.agg (exL a)] w fun e w' => e = .returned (.agg (exL a)) ∧ Below w.heap.size w w' := by
  obtain ⟨key, act⟩ := a
  simp only [exL] at *
  go_enter Try.func48, Try.ntmps48
  go_wp2
  refine bodyPost_ret (v := .agg #[.int .i64 key, .int .i64 act]) ?_ rfl ⟨rfl, ?_⟩
  · simp [results, Try.results48, go_sem]
  · go_grown
set_option maxRecDepth 100000 in
set_option maxHeartbeats 800000 in
theorem l_eqExact (a : ExV) (w : World) :
    Calls Try.prog 50 #[.agg (exL a), .agg (exL a)] w fun e w' => e = .returned (.bool true) ∧ Below w.heap.size w w' := by
  obtain ⟨key, act⟩ := a
  simp only [exL] at *
  go_enter Try.func50, Try.ntmps50
  go_wp2
  go_ret
  exact ⟨rfl, ((Below.refl _ w).alloc (Nat.le_refl _) _).alloc (by simp) _⟩
theorem Try.infExact : Inf 24 63 2 := ⟨Try.underlying24, by kernel_rfl, by decide, by decide⟩
set_option maxRecDepth 100000 in
set_option maxHeartbeats 1600000 in
theorem l_toExactS (T : Option Addr) (c : Nat) (l : List ExV) (w : World) (h : IntsAt w T (exF l)) (hl : l.length ≤ 1048576) :
    Calls Try.prog 14 #[.slice T l.length c] w fun e w' => ∃ g, e = .returned (.slice (some ⟨g, 0, none⟩) l.length l.length) ∧ ownR w' w.heap.size 63 2 (.slice (some ⟨g, 0, none⟩) l.length l.length) l.length (exF l) ∧ Below w.heap.size w w' := by
  have CT : Hid (∀ (a : ExV) (u : World), Calls Try.prog 48 #[.agg (exL a)] u fun e w' => e = .returned (.agg (exL a)) ∧ Below u.heap.size u w') := fun a u => l_toExact a u
  go_enter Try.func14, Try.ntmps14
  go_wp2_with (refine wpList_make_recs Try.infExact rfl _ _ rfl _ _ _ _ l.length rfl rfl rfl rfl (by omega) ?_; intro w1 hown hb)
  go_loopw [4] (fun i wr => ∃ j : Nat, j ≤ l.length ∧ i = .int .i64 (j : Int) ∧ ownR wr w.heap.size 63 2 (.slice (some ⟨w.heap.size, 0, none⟩) l.length l.length) l.length (exF (l.take j) ++ List.replicate ((l.length - j) * 2) 0) ∧ Below w.heap.size w wr) (fun i _ => ((l.length : Int) - intOf i).toNat)
  case atStart => exact ⟨0, by omega, rfl, by simpa [exF] using hown, hb⟩
  case round =>
    obtain ⟨j, hj, rfl, hown, hb⟩ := hrel
    by_cases hlt : j < l.length
    · rcases h.below hb with h | ⟨g, off, rfl, hg, hc⟩
      · have := exF_len l; rw [h] at this; simp at this; omega
      · have hcs := ex_cells hc j hlt
        clear hc
        have hj1 : (j : Int) < (l.length : Int) := by omega
        go_wp2_with fail
        refine (CT.out (exA l j) _).mono ?_
        rintro e w2 ⟨rfl, hb2⟩
        have ho2 := hown.far hb2
        have hB2 := hb.trans (hb2.mono hb.size)
        have hx0 := ho2.cell (j * 2) (by omega)
        have hf0 := ho2.frozen (j * 2)
        have hx1 := ho2.cell (j * 2 + 1) (by omega)
        have hf1 := ho2.frozen (j * 2 + 1)
        simp only [exL]
        clear hb2 hcs
        go_wp2
        go_roundw
        case rel =>
          have hb3 := below_set (below_set ((Below.refl w.heap.size w2)) ⟨w.heap.size, j * 2, none⟩ (.int .i64 (exA l j).key) (Nat.le_refl _)) ⟨w.heap.size, j * 2 + 1, none⟩ (.int .i64 (exA l j).act) (Nat.le_refl _)
          refine ⟨j + 1, by omega, by go_num, ?_, hB2.trans hb3⟩
          rw [← ex_fill l j hlt]
          exact ((ho2).stored (j * 2) ((exA l j).key)).stored (j * 2 + 1) ((exA l j).act)
        case measure => simp [intOf]; omega
    · have e : j = l.length := by omega
      subst e
      go_wp2
      go_ret
      exact ⟨w.heap.size, rfl, by simpa using hown, hb⟩
set_option maxRecDepth 100000 in
set_option maxHeartbeats 1600000 in
theorem l_eqExactS (T U : Option Addr) (c e : Nat) (l : List ExV) (w : World) (h : IntsAt w T (exF l)) (k : IntsAt w U (exF l)) (hl : l.length ≤ 1099511627776) :
    Calls Try.prog 16 #[.slice T l.length c, .slice U l.length e] w fun e w' => e = .returned (.bool true) ∧ Below w.heap.size w w' := by
  have hne : ((l.length : Int) != (l.length : Int)) = false := by simp
  have CE : Hid (∀ (a : ExV) (u : World), Calls Try.prog 50 #[.agg (exL a), .agg (exL a)] u fun e w' => e = .returned (.bool true) ∧ Below u.heap.size u w') := fun a u => l_eqExact a u
  go_enter Try.func16, Try.ntmps16
  go_wp2
  go_loopw [5] (fun i wr => ∃ j : Nat, j ≤ l.length ∧ i = .int .i64 (j : Int) ∧ Below w.heap.size w wr) (fun i _ => ((l.length : Int) - intOf i).toNat)
  case atStart => exact ⟨0, by omega, rfl, Below.refl _ _⟩
  case round =>
    obtain ⟨j, hj, rfl, hb⟩ := hrel
    by_cases hlt : j < l.length
    · have hle := exF_len l
      rcases h with h | ⟨g, off, rfl, hg, hc⟩
      · rw [h] at hle; simp at hle; omega
      · rcases k with k | ⟨g2, off2, rfl, hg2, hc2⟩
        · rw [k] at hle; simp at hle; omega
        · have hj1 : (j : Int) < (l.length : Int) := by omega
          have hcs := ex_cells hc j hlt
          have hcs2 := ex_cells hc2 j hlt
          clear hc hc2 hle
          generalize exA l j = a at *
          obtain ⟨key, act⟩ := a
          have hr := Below.refl wr.heap.size wr
          go_wp2_with fail
          have hne2 := BW.some wr
          have c0 := fun u : BW wr => (u.le.cell (p := ⟨g, off + j * 2, none⟩) (Nat.lt_of_lt_of_le hg hb.size)).trans ((hb.cell (p := ⟨g, off + j * 2, none⟩) hg).trans hcs.1)
          have d0 := fun u : BW wr => (u.le.cell (p := ⟨g2, off2 + j * 2, none⟩) (Nat.lt_of_lt_of_le hg2 hb.size)).trans ((hb.cell (p := ⟨g2, off2 + j * 2, none⟩) hg2).trans hcs2.1)
          have c1 := fun u : BW wr => (u.le.cell (p := ⟨g, off + j * 2 + 1, none⟩) (Nat.lt_of_lt_of_le hg hb.size)).trans ((hb.cell (p := ⟨g, off + j * 2 + 1, none⟩) hg).trans hcs.2)
          have d1 := fun u : BW wr => (u.le.cell (p := ⟨g2, off2 + j * 2 + 1, none⟩) (Nat.lt_of_lt_of_le hg2 hb.size)).trans ((hb.cell (p := ⟨g2, off2 + j * 2 + 1, none⟩) hg2).trans hcs2.2)
          refine wp_region_below (by kernel_rfl) (by kernel_rfl) ?_
          repeat (go_big_quiet_step (first | (go_at_call 50; exact Calls.into (CE.out ⟨key, act⟩ _))))
          refine wpQuiet_nil ?_
          intro _ hw'
          obtain ⟨u, hw''⟩ := hw'
          subst hw''
          clear c0 d0 c1 d1 hne2
          go_wp2
          go_roundw
          case rel => exact ⟨j + 1, by omega, by go_num, hb.trans (u.le.mono hb.size)⟩
          case measure => simp [intOf]; omega
    · go_wp2
      go_ret
      exact ⟨rfl, hb⟩
set_option maxRecDepth 100000 in
set_option maxHeartbeats 1600000 in
theorem l_markExactS (B : Nat) (T : Option Addr) (n c : Nat) (xs : List Int) (w : World) (h : ownR w B 63 2 (.slice T n c) n xs) (hn : n ≤ 4194304) :
    Calls Try.prog 17 #[.slice T n c, .int .i64 1] w fun e w' => e = .returned (.int .i64 (1 + (n : Int) * 2)) ∧ ownR w' B 63 2 (.slice T n c) n (marks (n * 2)) ∧ w.grownBy w' (Value.slice T n c).ownBlock := by
  have hxl := h.len
  go_enter Try.func17, Try.ntmps17
  go_wp2
  go_loopw [5, 1] (fun i q wr => ∃ j : Nat, j ≤ n ∧ i = .int .i64 (j : Int) ∧ q = .int .i64 (1 + (j : Int) * 2) ∧ ownR wr B 63 2 (.slice T n c) n (marks (j * 2) ++ xs.drop (j * 2)) ∧ w.grownBy wr (Value.slice T n c).ownBlock) (fun i _ _ => ((n : Int) - intOf i).toNat)
  case atStart => exact ⟨0, by omega, rfl, rfl, by simpa [marks] using h, grownBy_refl _ _⟩
  case round =>
    obtain ⟨j, hj, rfl, rfl, hown, hg⟩ := hrel
    by_cases hlt : j < n
    · rcases hown.shape with ⟨_, h0, _⟩ | ⟨g, cap, hv, hB, hgs, hcap⟩
      · omega
      · simp only [Value.slice.injEq] at hv
        obtain ⟨rfl, _, rfl⟩ := hv
        have hj1 : (j : Int) < (n : Int) := by omega
        have hx0 := hown.cell (j * 2) (by omega)
        have hf0 := hown.frozen (j * 2)
        have hx1 := hown.cell (j * 2 + 1) (by omega)
        have hf1 := hown.frozen (j * 2 + 1)
        go_wp2
        go_roundw
        case rel =>
          refine ⟨j + 1, by omega, by go_num, by go_num, ?_, ?_⟩
          · rw [← marks_fill2 xs j (by omega)]
            exact ((hown).stored (j * 2) (1 + (j : Int) * 2)).stored (j * 2 + 1) (1 + (j : Int) * 2 + 1)
          · exact grown_set (grown_set (hg) ⟨g, j * 2, none⟩ _ rfl) ⟨g, j * 2 + 1, none⟩ _ rfl
        case measure => simp [intOf]; omega
    · have e : j = n := by omega
      subst e
      go_wp2
      go_ret
      exact ⟨rfl, by rw [List.drop_eq_nil_of_le (by omega), List.append_nil] at hown; exact hown, hg⟩
set_option maxRecDepth 100000 in
set_option maxHeartbeats 1600000 in
theorem l_heldExactS (B : Nat) (T : Option Addr) (n c : Nat) (w : World) (h : ownR w B 63 2 (.slice T n c) n (marks (n * 2))) (hn : n ≤ 4194304) :
    Calls Try.prog 18 #[.slice T n c, .int .i64 1] w fun e w' => e = .returned (.int .i64 (1 + (n : Int) * 2)) ∧ Below w.heap.size w w' := by
  go_enter Try.func18, Try.ntmps18
  go_wp2
  go_loopw [5, 1] (fun i q wr => ∃ j : Nat, j ≤ n ∧ i = .int .i64 (j : Int) ∧ q = .int .i64 (1 + (j : Int) * 2) ∧ Below w.heap.size w wr) (fun i _ _ => ((n : Int) - intOf i).toNat)
  case atStart => exact ⟨0, by omega, rfl, rfl, Below.refl _ _⟩
  case round =>
    obtain ⟨j, hj, rfl, rfl, hb⟩ := hrel
    by_cases hlt : j < n
    · have hown := h.far hb
      rcases hown.shape with ⟨_, h0, _⟩ | ⟨g, cap, hv, hB, hgs, hcap⟩
      · omega
      · simp only [Value.slice.injEq] at hv
        obtain ⟨rfl, _, rfl⟩ := hv
        have hj1 : (j : Int) < (n : Int) := by omega
        have hx0 := hown.cell (j * 2) (by omega)
        rw [ia_marks _ _ (by omega)] at hx0
        have hx1 := hown.cell (j * 2 + 1) (by omega)
        rw [ia_marks _ _ (by omega)] at hx1
        go_wp2
        go_roundw
        case rel => exact ⟨j + 1, by omega, by go_num, by go_num, hb⟩
        case measure => simp [intOf]; omega
    · have e : j = n := by omega
      subst e
      go_wp2
      go_ret
      exact ⟨rfl, hb⟩

end Go.Proofs.Ytijbemejbemcmaa
