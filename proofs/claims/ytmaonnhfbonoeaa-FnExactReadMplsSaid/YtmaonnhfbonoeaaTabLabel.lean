/-
  Rows of the record Label: what is read of them, what the exact laws do with them.
-/
import Derived.Test.YtmaonnhfbonoeaaRecs
namespace Go.Proofs.Ytmaonnhfbonoeaa
open Go.RowKit Go.PlainAid
structure LbV where
  label : Int
  tc : Int
  ttl : Int
def lbL (a : LbV) : Array Value := #[.int .i64 a.label, .int .i64 a.tc, .int .i64 a.ttl]
def lbI (a : LbV) : List Int := [a.label, a.tc, a.ttl]
def lbF (l : List LbV) : List Int := l.flatMap lbI
def lbA (l : List LbV) (i : Nat) : LbV := l.getD i ⟨0, 0, 0⟩
theorem lbF_len (l : List LbV) : (lbF l).length = l.length * 3 := by
  induction l with
  | nil => rfl
  | cons a l ih =>
    have e : lbF (a :: l) = lbI a ++ lbF l := rfl
    rw [e, List.length_append, ih, List.length_cons]
    simp [lbI]; omega
theorem lbF_at (l : List LbV) (i : Nat) (h : i < l.length) : ia (lbF l) (i * 3) = (lbA l i).label ∧ ia (lbF l) (i * 3 + 1) = (lbA l i).tc ∧ ia (lbF l) (i * 3 + 2) = (lbA l i).ttl := by
  induction l generalizing i with
  | nil => simp at h
  | cons a l ih =>
    have e : lbF (a :: l) = lbI a ++ lbF l := rfl
    cases i with
    | zero => simp [e, lbI, ia, lbA]
    | succ i =>
      have := ih i (by simpa using h)
      have e2 : (i + 1) * 3 = i * 3 + 3 := by omega
      have e3 : ∀ j, ia (lbI a ++ lbF l) (i * 3 + 3 + j) = ia (lbF l) (i * 3 + j) := fun j => by
        rw [show i * 3 + 3 + j = (lbI a).length + (i * 3 + j) from by simp [lbI]; omega]; exact ia_app _ _ _
      rw [e, e2]
      exact ⟨(e3 0).trans this.1, (e3 1).trans this.2.1, (e3 2).trans this.2.2⟩
theorem lbA_eq (l : List LbV) (i : Nat) (h : i < l.length) : lbA l i = l[i] := by simp [lbA, List.getD, h]
theorem lb_cells {w : World} {g off : Nat} {l : List LbV} (hc : ∀ i, i < (lbF l).length → w.cell? ⟨g, off + i, none⟩ = some (.int .i64 (ia (lbF l) i))) (i : Nat) (h : i < l.length) :
    w.cell? ⟨g, off + i * 3, none⟩ = some (.int .i64 (lbA l i).label) ∧ w.cell? ⟨g, off + i * 3 + 1, none⟩ = some (.int .i64 (lbA l i).tc) ∧ w.cell? ⟨g, off + i * 3 + 2, none⟩ = some (.int .i64 (lbA l i).ttl) := by
  have hl := lbF_len l
  have ha := lbF_at l i h
  refine ⟨?_, ?_, ?_⟩
  · rw [← ha.1]; exact hc (i * 3) (by omega)
  · rw [← ha.2.1, Nat.add_assoc]; exact hc (i * 3 + 1) (by omega)
  · rw [← ha.2.2, Nat.add_assoc]; exact hc (i * 3 + 2) (by omega)
theorem lb_below {w w' : World} {g off i : Nat} {l : List LbV} (hb : Below w.heap.size w w') (hg : g < w.heap.size) (h : w.cell? ⟨g, off + i * 3, none⟩ = some (.int .i64 (lbA l i).label) ∧ w.cell? ⟨g, off + i * 3 + 1, none⟩ = some (.int .i64 (lbA l i).tc) ∧ w.cell? ⟨g, off + i * 3 + 2, none⟩ = some (.int .i64 (lbA l i).ttl)) :
    w'.cell? ⟨g, off + i * 3, none⟩ = some (.int .i64 (lbA l i).label) ∧ w'.cell? ⟨g, off + i * 3 + 1, none⟩ = some (.int .i64 (lbA l i).tc) ∧ w'.cell? ⟨g, off + i * 3 + 2, none⟩ = some (.int .i64 (lbA l i).ttl) := ⟨(hb.cell (p := ⟨g, off + i * 3, none⟩) hg).trans h.1, (hb.cell (p := ⟨g, off + i * 3 + 1, none⟩) hg).trans h.2.1, (hb.cell (p := ⟨g, off + i * 3 + 2, none⟩) hg).trans h.2.2⟩
theorem lbF_take (l : List LbV) (j : Nat) (h : j < l.length) : lbF (l.take (j + 1)) = lbF (l.take j) ++ lbI (lbA l j) := by
  rw [List.take_succ_eq_append_getElem h, lbA_eq l j h]; simp only [lbF, List.flatMap_append, List.flatMap_cons, List.flatMap_nil, List.append_nil]
theorem lb_fill (l : List LbV) (j : Nat) (h : j < l.length) : ((((lbF (l.take j) ++ List.replicate ((l.length - j) * 3) 0).set (j * 3) (lbA l j).label).set (j * 3 + 1) (lbA l j).tc).set (j * 3 + 2) (lbA l j).ttl) = lbF (l.take (j + 1)) ++ List.replicate ((l.length - (j + 1)) * 3) 0 := by
  have e1 : (lbF (l.take j)).length = j * 3 := by rw [lbF_len, List.length_take]; congr 1; omega
  have e2 : (l.length - j) * 3 = (l.length - (j + 1)) * 3 + 3 := by omega
  rw [lbF_take l j h, e2]
  generalize (l.length - (j + 1)) * 3 = m
  have e3 : List.replicate (m + 3) (0 : Int) = 0 :: 0 :: 0 :: List.replicate m 0 := rfl
  rw [e3]
  generalize lbF (l.take j) = a at *
  simp [← e1, lbI]
theorem lbF_app (l m : List LbV) : lbF (l ++ m) = lbF l ++ lbF m := by simp [lbF]
set_option maxRecDepth 100000 in
theorem l_szLabel (T : Option Addr) (n c : Nat) (w : World) (hn : n ≤ 9223372036854775807) :
    Calls Try.prog 33 #[.slice T n c, .int .i64 1048576] w fun e w' => e = .returned (.int .i64 (if n ≤ 1048576 then 1048576 - (n : Int) else -1)) ∧ w' = w := by
  by_cases h : n ≤ 1048576
  · rw [if_pos h]
    go_enter Try.func33, Try.ntmps33
    go_wp2
    go_ret
    exact ⟨rfl, rfl⟩
  · rw [if_neg h]
    go_enter Try.func33, Try.ntmps33
    go_wp2
    go_ret
    exact ⟨rfl, rfl⟩
set_option maxRecDepth 100000 in
set_option maxHeartbeats 1600000 in
theorem l_toLabel (a : LbV) (w : World) :
    Calls Try.prog 43 #[.agg (lbL a)] w fun e w' => e = .returned (.agg (lbL a)) ∧ Below w.heap.size w w' := by
  obtain ⟨label, tc, ttl⟩ := a
  simp only [lbL] at *
  go_enter Try.func43, Try.ntmps43
  go_wp2
  refine bodyPost_ret (v := .agg #[.int .i64 label, .int .i64 tc, .int .i64 ttl]) ?_ rfl ⟨rfl, ?_⟩
  · simp [results, Try.results43, go_sem]
  · go_grown
set_option maxRecDepth 100000 in
set_option maxHeartbeats 800000 in
theorem l_eqLabel (a : LbV) (w : World) :
    Calls Try.prog 47 #[.agg (lbL a), .agg (lbL a)] w fun e w' => e = .returned (.bool true) ∧ Below w.heap.size w w' := by
  obtain ⟨label, tc, ttl⟩ := a
  simp only [lbL] at *
  go_enter Try.func47, Try.ntmps47
  go_wp2
  go_ret
  exact ⟨rfl, ((Below.refl _ w).alloc (Nat.le_refl _) _).alloc (by simp) _⟩
theorem Try.infLabel : Inf 50 61 3 := ⟨Try.underlying50, by kernel_rfl, by decide, by decide⟩
set_option maxRecDepth 100000 in
set_option maxHeartbeats 1600000 in
theorem l_toLabelS (T : Option Addr) (c : Nat) (l : List LbV) (w : World) (h : IntsAt w T (lbF l)) (hl : l.length ≤ 1048576) :
    Calls Try.prog 35 #[.slice T l.length c] w fun e w' => ∃ g, e = .returned (.slice (some ⟨g, 0, none⟩) l.length l.length) ∧ ownR w' w.heap.size 61 3 (.slice (some ⟨g, 0, none⟩) l.length l.length) l.length (lbF l) ∧ Below w.heap.size w w' := by
  have CT : Hid (∀ (a : LbV) (u : World), Calls Try.prog 43 #[.agg (lbL a)] u fun e w' => e = .returned (.agg (lbL a)) ∧ Below u.heap.size u w') := fun a u => l_toLabel a u
  go_enter Try.func35, Try.ntmps35
  go_wp2_with (refine wpList_make_recs Try.infLabel rfl _ _ rfl _ _ _ _ l.length rfl rfl rfl rfl (by omega) ?_; intro w1 hown hb)
  go_loopw [4] (fun i wr => ∃ j : Nat, j ≤ l.length ∧ i = .int .i64 (j : Int) ∧ ownR wr w.heap.size 61 3 (.slice (some ⟨w.heap.size, 0, none⟩) l.length l.length) l.length (lbF (l.take j) ++ List.replicate ((l.length - j) * 3) 0) ∧ Below w.heap.size w wr) (fun i _ => ((l.length : Int) - intOf i).toNat)
  case atStart => exact ⟨0, by omega, rfl, by simpa [lbF] using hown, hb⟩
  case round =>
    obtain ⟨j, hj, rfl, hown, hb⟩ := hrel
    by_cases hlt : j < l.length
    · rcases h.below hb with h | ⟨g, off, rfl, hg, hc⟩
      · have := lbF_len l; rw [h] at this; simp at this; omega
      · have hcs := lb_cells hc j hlt
        clear hc
        have hj1 : (j : Int) < (l.length : Int) := by omega
        go_wp2_with fail
        refine (CT.out (lbA l j) _).mono ?_
        rintro e w2 ⟨rfl, hb2⟩
        have ho2 := hown.far hb2
        have hB2 := hb.trans (hb2.mono hb.size)
        have hx0 := ho2.cell (j * 3) (by omega)
        have hf0 := ho2.frozen (j * 3)
        have hx1 := ho2.cell (j * 3 + 1) (by omega)
        have hf1 := ho2.frozen (j * 3 + 1)
        have hx2 := ho2.cell (j * 3 + 2) (by omega)
        have hf2 := ho2.frozen (j * 3 + 2)
        simp only [lbL]
        clear hb2 hcs
        go_wp2
        go_roundw
        case rel =>
          have hb3 := below_set (below_set (below_set ((Below.refl w.heap.size w2)) ⟨w.heap.size, j * 3, none⟩ (.int .i64 (lbA l j).label) (Nat.le_refl _)) ⟨w.heap.size, j * 3 + 1, none⟩ (.int .i64 (lbA l j).tc) (Nat.le_refl _)) ⟨w.heap.size, j * 3 + 2, none⟩ (.int .i64 (lbA l j).ttl) (Nat.le_refl _)
          refine ⟨j + 1, by omega, by go_num, ?_, hB2.trans hb3⟩
          rw [← lb_fill l j hlt]
          exact (((ho2).stored (j * 3) ((lbA l j).label)).stored (j * 3 + 1) ((lbA l j).tc)).stored (j * 3 + 2) ((lbA l j).ttl)
        case measure => simp [intOf]; omega
    · have e : j = l.length := by omega
      subst e
      go_wp2
      go_ret
      exact ⟨w.heap.size, rfl, by simpa using hown, hb⟩
set_option maxRecDepth 100000 in
set_option maxHeartbeats 1600000 in
theorem l_eqLabelS (T U : Option Addr) (c e : Nat) (l : List LbV) (w : World) (h : IntsAt w T (lbF l)) (k : IntsAt w U (lbF l)) (hl : l.length ≤ 1099511627776) :
    Calls Try.prog 37 #[.slice T l.length c, .slice U l.length e] w fun e w' => e = .returned (.bool true) ∧ Below w.heap.size w w' := by
  have hne : ((l.length : Int) != (l.length : Int)) = false := by simp
  have CE : Hid (∀ (a : LbV) (u : World), Calls Try.prog 47 #[.agg (lbL a), .agg (lbL a)] u fun e w' => e = .returned (.bool true) ∧ Below u.heap.size u w') := fun a u => l_eqLabel a u
  go_enter Try.func37, Try.ntmps37
  go_wp2
  go_loopw [5] (fun i wr => ∃ j : Nat, j ≤ l.length ∧ i = .int .i64 (j : Int) ∧ Below w.heap.size w wr) (fun i _ => ((l.length : Int) - intOf i).toNat)
  case atStart => exact ⟨0, by omega, rfl, Below.refl _ _⟩
  case round =>
    obtain ⟨j, hj, rfl, hb⟩ := hrel
    by_cases hlt : j < l.length
    · have hle := lbF_len l
      rcases h with h | ⟨g, off, rfl, hg, hc⟩
      · rw [h] at hle; simp at hle; omega
      · rcases k with k | ⟨g2, off2, rfl, hg2, hc2⟩
        · rw [k] at hle; simp at hle; omega
        · have hj1 : (j : Int) < (l.length : Int) := by omega
          have hcs := lb_cells hc j hlt
          have hcs2 := lb_cells hc2 j hlt
          clear hc hc2 hle
          generalize lbA l j = a at *
          obtain ⟨label, tc, ttl⟩ := a
          have hr := Below.refl wr.heap.size wr
          go_wp2_with fail
          have hne2 := BW.some wr
          have c0 := fun u : BW wr => (u.le.cell (p := ⟨g, off + j * 3, none⟩) (Nat.lt_of_lt_of_le hg hb.size)).trans ((hb.cell (p := ⟨g, off + j * 3, none⟩) hg).trans hcs.1)
          have d0 := fun u : BW wr => (u.le.cell (p := ⟨g2, off2 + j * 3, none⟩) (Nat.lt_of_lt_of_le hg2 hb.size)).trans ((hb.cell (p := ⟨g2, off2 + j * 3, none⟩) hg2).trans hcs2.1)
          have c1 := fun u : BW wr => (u.le.cell (p := ⟨g, off + j * 3 + 1, none⟩) (Nat.lt_of_lt_of_le hg hb.size)).trans ((hb.cell (p := ⟨g, off + j * 3 + 1, none⟩) hg).trans hcs.2.1)
          have d1 := fun u : BW wr => (u.le.cell (p := ⟨g2, off2 + j * 3 + 1, none⟩) (Nat.lt_of_lt_of_le hg2 hb.size)).trans ((hb.cell (p := ⟨g2, off2 + j * 3 + 1, none⟩) hg2).trans hcs2.2.1)
          have c2 := fun u : BW wr => (u.le.cell (p := ⟨g, off + j * 3 + 2, none⟩) (Nat.lt_of_lt_of_le hg hb.size)).trans ((hb.cell (p := ⟨g, off + j * 3 + 2, none⟩) hg).trans hcs.2.2)
          have d2 := fun u : BW wr => (u.le.cell (p := ⟨g2, off2 + j * 3 + 2, none⟩) (Nat.lt_of_lt_of_le hg2 hb.size)).trans ((hb.cell (p := ⟨g2, off2 + j * 3 + 2, none⟩) hg2).trans hcs2.2.2)
          refine wp_region_below (by kernel_rfl) (by kernel_rfl) ?_
          repeat (go_big_quiet_step (first | (go_at_call 47; exact Calls.into (CE.out ⟨label, tc, ttl⟩ _))))
          refine wpQuiet_nil ?_
          intro _ hw'
          obtain ⟨u, hw''⟩ := hw'
          subst hw''
          clear c0 d0 c1 d1 c2 d2 hne2
          go_wp2
          go_roundw
          case rel => exact ⟨j + 1, by omega, by go_num, hb.trans (u.le.mono hb.size)⟩
          case measure => simp [intOf]; omega
    · go_wp2
      go_ret
      exact ⟨rfl, hb⟩
set_option maxRecDepth 100000 in
set_option maxHeartbeats 1600000 in
theorem l_markLabelS (B : Nat) (T : Option Addr) (n c : Nat) (xs : List Int) (w : World) (h : ownR w B 61 3 (.slice T n c) n xs) (hn : n ≤ 4194304) :
    Calls Try.prog 40 #[.slice T n c, .int .i64 1] w fun e w' => e = .returned (.int .i64 (1 + (n : Int) * 3)) ∧ ownR w' B 61 3 (.slice T n c) n (marks (n * 3)) ∧ w.grownBy w' (Value.slice T n c).ownBlock := by
  have hxl := h.len
  go_enter Try.func40, Try.ntmps40
  go_wp2
  go_loopw [5, 1] (fun i q wr => ∃ j : Nat, j ≤ n ∧ i = .int .i64 (j : Int) ∧ q = .int .i64 (1 + (j : Int) * 3) ∧ ownR wr B 61 3 (.slice T n c) n (marks (j * 3) ++ xs.drop (j * 3)) ∧ w.grownBy wr (Value.slice T n c).ownBlock) (fun i _ _ => ((n : Int) - intOf i).toNat)
  case atStart => exact ⟨0, by omega, rfl, rfl, by simpa [marks] using h, grownBy_refl _ _⟩
  case round =>
    obtain ⟨j, hj, rfl, rfl, hown, hg⟩ := hrel
    by_cases hlt : j < n
    · rcases hown.shape with ⟨_, h0, _⟩ | ⟨g, cap, hv, hB, hgs, hcap⟩
      · omega
      · simp only [Value.slice.injEq] at hv
        obtain ⟨rfl, _, rfl⟩ := hv
        have hj1 : (j : Int) < (n : Int) := by omega
        have hx0 := hown.cell (j * 3) (by omega)
        have hf0 := hown.frozen (j * 3)
        have hx1 := hown.cell (j * 3 + 1) (by omega)
        have hf1 := hown.frozen (j * 3 + 1)
        have hx2 := hown.cell (j * 3 + 2) (by omega)
        have hf2 := hown.frozen (j * 3 + 2)
        go_wp2
        go_roundw
        case rel =>
          refine ⟨j + 1, by omega, by go_num, by go_num, ?_, ?_⟩
          · rw [← marks_fill3 xs j (by omega)]
            exact (((hown).stored (j * 3) (1 + (j : Int) * 3)).stored (j * 3 + 1) (1 + (j : Int) * 3 + 1)).stored (j * 3 + 2) (1 + (j : Int) * 3 + 2)
          · exact grown_set (grown_set (grown_set (hg) ⟨g, j * 3, none⟩ _ rfl) ⟨g, j * 3 + 1, none⟩ _ rfl) ⟨g, j * 3 + 2, none⟩ _ rfl
        case measure => simp [intOf]; omega
    · have e : j = n := by omega
      subst e
      go_wp2
      go_ret
      exact ⟨rfl, by rw [List.drop_eq_nil_of_le (by omega), List.append_nil] at hown; exact hown, hg⟩
set_option maxRecDepth 100000 in
set_option maxHeartbeats 1600000 in
theorem l_heldLabelS (B : Nat) (T : Option Addr) (n c : Nat) (w : World) (h : ownR w B 61 3 (.slice T n c) n (marks (n * 3))) (hn : n ≤ 4194304) :
    Calls Try.prog 41 #[.slice T n c, .int .i64 1] w fun e w' => e = .returned (.int .i64 (1 + (n : Int) * 3)) ∧ Below w.heap.size w w' := by
  go_enter Try.func41, Try.ntmps41
  go_wp2
  go_loopw [5, 1] (fun i q wr => ∃ j : Nat, j ≤ n ∧ i = .int .i64 (j : Int) ∧ q = .int .i64 (1 + (j : Int) * 3) ∧ Below w.heap.size w wr) (fun i _ _ => ((n : Int) - intOf i).toNat)
  case atStart => exact ⟨0, by omega, rfl, rfl, Below.refl _ _⟩
  case round =>
    obtain ⟨j, hj, rfl, rfl, hb⟩ := hrel
    by_cases hlt : j < n
    · have hown := h.far hb
      rcases hown.shape with ⟨_, h0, _⟩ | ⟨g, cap, hv, hB, hgs, hcap⟩
      · omega
      · simp only [Value.slice.injEq] at hv
        obtain ⟨rfl, _, rfl⟩ := hv
        have hj1 : (j : Int) < (n : Int) := by omega
        have hx0 := hown.cell (j * 3) (by omega)
        rw [ia_marks _ _ (by omega)] at hx0
        have hx1 := hown.cell (j * 3 + 1) (by omega)
        rw [ia_marks _ _ (by omega)] at hx1
        have hx2 := hown.cell (j * 3 + 2) (by omega)
        rw [ia_marks _ _ (by omega)] at hx2
        go_wp2
        go_roundw
        case rel => exact ⟨j + 1, by omega, by go_num, by go_num, hb⟩
        case measure => simp [intOf]; omega
    · have e : j = n := by omega
      subst e
      go_wp2
      go_ret
      exact ⟨rfl, hb⟩

end Go.Proofs.Ytmaonnhfbonoeaa
