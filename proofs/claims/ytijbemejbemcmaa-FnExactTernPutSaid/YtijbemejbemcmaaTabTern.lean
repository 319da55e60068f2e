/-
  Rows of the record Tern: what is read of them, what the exact laws do with them.
-/
import Derived.Test.YtijbemejbemcmaaRecs
namespace Go.Proofs.Ytijbemejbemcmaa
open Go.RowKit Go.PlainAid
structure TnV where
  value : Int
  mask : Int
  pri : Int
  act : Int
def tnL (a : TnV) : Array Value := #[.int .i64 a.value, .int .i64 a.mask, .int .i64 a.pri, .int .i64 a.act]
def tnI (a : TnV) : List Int := [a.value, a.mask, a.pri, a.act]
def tnF (l : List TnV) : List Int := l.flatMap tnI
def tnA (l : List TnV) (i : Nat) : TnV := l.getD i ⟨0, 0, 0, 0⟩
theorem tnF_len (l : List TnV) : (tnF l).length = l.length * 4 := by
  induction l with
  | nil => rfl
  | cons a l ih =>
    have e : tnF (a :: l) = tnI a ++ tnF l := rfl
    rw [e, List.length_append, ih, List.length_cons]
    simp [tnI]; omega
theorem tnF_at (l : List TnV) (i : Nat) (h : i < l.length) : ia (tnF l) (i * 4) = (tnA l i).value ∧ ia (tnF l) (i * 4 + 1) = (tnA l i).mask ∧ ia (tnF l) (i * 4 + 2) = (tnA l i).pri ∧ ia (tnF l) (i * 4 + 3) = (tnA l i).act := by
  induction l generalizing i with
  | nil => simp at h
  | cons a l ih =>
    have e : tnF (a :: l) = tnI a ++ tnF l := rfl
    cases i with
    | zero => simp [e, tnI, ia, tnA]
    | succ i =>
      have := ih i (by simpa using h)
      have e2 : (i + 1) * 4 = i * 4 + 4 := by omega
      have e3 : ∀ j, ia (tnI a ++ tnF l) (i * 4 + 4 + j) = ia (tnF l) (i * 4 + j) := fun j => by
        rw [show i * 4 + 4 + j = (tnI a).length + (i * 4 + j) from by simp [tnI]; omega]; exact ia_app _ _ _
      rw [e, e2]
      exact ⟨(e3 0).trans this.1, (e3 1).trans this.2.1, (e3 2).trans this.2.2.1, (e3 3).trans this.2.2.2⟩
theorem tnA_eq (l : List TnV) (i : Nat) (h : i < l.length) : tnA l i = l[i] := by simp [tnA, List.getD, h]
theorem tn_cells {w : World} {g off : Nat} {l : List TnV} (hc : ∀ i, i < (tnF l).length → w.cell? ⟨g, off + i, none⟩ = some (.int .i64 (ia (tnF l) i))) (i : Nat) (h : i < l.length) :
    w.cell? ⟨g, off + i * 4, none⟩ = some (.int .i64 (tnA l i).value) ∧ w.cell? ⟨g, off + i * 4 + 1, none⟩ = some (.int .i64 (tnA l i).mask) ∧ w.cell? ⟨g, off + i * 4 + 2, none⟩ = some (.int .i64 (tnA l i).pri) ∧ w.cell? ⟨g, off + i * 4 + 3, none⟩ = some (.int .i64 (tnA l i).act) := by
  have hl := tnF_len l
  have ha := tnF_at l i h
  refine ⟨?_, ?_, ?_, ?_⟩
  · rw [← ha.1]; exact hc (i * 4) (by omega)
  · rw [← ha.2.1, Nat.add_assoc]; exact hc (i * 4 + 1) (by omega)
  · rw [← ha.2.2.1, Nat.add_assoc]; exact hc (i * 4 + 2) (by omega)
  · rw [← ha.2.2.2, Nat.add_assoc]; exact hc (i * 4 + 3) (by omega)
theorem tn_below {w w' : World} {g off i : Nat} {l : List TnV} (hb : Below w.heap.size w w') (hg : g < w.heap.size) (h : w.cell? ⟨g, off + i * 4, none⟩ = some (.int .i64 (tnA l i).value) ∧ w.cell? ⟨g, off + i * 4 + 1, none⟩ = some (.int .i64 (tnA l i).mask) ∧ w.cell? ⟨g, off + i * 4 + 2, none⟩ = some (.int .i64 (tnA l i).pri) ∧ w.cell? ⟨g, off + i * 4 + 3, none⟩ = some (.int .i64 (tnA l i).act)) :
    w'.cell? ⟨g, off + i * 4, none⟩ = some (.int .i64 (tnA l i).value) ∧ w'.cell? ⟨g, off + i * 4 + 1, none⟩ = some (.int .i64 (tnA l i).mask) ∧ w'.cell? ⟨g, off + i * 4 + 2, none⟩ = some (.int .i64 (tnA l i).pri) ∧ w'.cell? ⟨g, off + i * 4 + 3, none⟩ = some (.int .i64 (tnA l i).act) := ⟨(hb.cell (p := ⟨g, off + i * 4, none⟩) hg).trans h.1, (hb.cell (p := ⟨g, off + i * 4 + 1, none⟩) hg).trans h.2.1, (hb.cell (p := ⟨g, off + i * 4 + 2, none⟩) hg).trans h.2.2.1, (hb.cell (p := ⟨g, off + i * 4 + 3, none⟩) hg).trans h.2.2.2⟩
theorem tnF_take (l : List TnV) (j : Nat) (h : j < l.length) : tnF (l.take (j + 1)) = tnF (l.take j) ++ tnI (tnA l j) := by
  rw [List.take_succ_eq_append_getElem h, tnA_eq l j h]; simp only [tnF, List.flatMap_append, List.flatMap_cons, List.flatMap_nil, List.append_nil]
theorem tn_fill (l : List TnV) (j : Nat) (h : j < l.length) : (((((tnF (l.take j) ++ List.replicate ((l.length - j) * 4) 0).set (j * 4) (tnA l j).value).set (j * 4 + 1) (tnA l j).mask).set (j * 4 + 2) (tnA l j).pri).set (j * 4 + 3) (tnA l j).act) = tnF (l.take (j + 1)) ++ List.replicate ((l.length - (j + 1)) * 4) 0 := by
  have e1 : (tnF (l.take j)).length = j * 4 := by rw [tnF_len, List.length_take]; congr 1; omega
  have e2 : (l.length - j) * 4 = (l.length - (j + 1)) * 4 + 4 := by omega
  rw [tnF_take l j h, e2]
  generalize (l.length - (j + 1)) * 4 = m
  have e3 : List.replicate (m + 4) (0 : Int) = 0 :: 0 :: 0 :: 0 :: List.replicate m 0 := rfl
  rw [e3]
  generalize tnF (l.take j) = a at *
  simp [← e1, tnI]
theorem tnF_app (l m : List TnV) : tnF (l ++ m) = tnF l ++ tnF m := by simp [tnF]
set_option maxRecDepth 100000 in
theorem l_szTern (T : Option Addr) (n c : Nat) (w : World) (hn : n ≤ 9223372036854775807) :
    Calls Try.prog 30 #[.slice T n c, .int .i64 1048576] w fun e w' => e = .returned (.int .i64 (if n ≤ 1048576 then 1048576 - (n : Int) else -1)) ∧ w' = w := by
  by_cases h : n ≤ 1048576
  · rw [if_pos h]
    go_enter Try.func30, Try.ntmps30
    go_wp2
    go_ret
    exact ⟨rfl, rfl⟩
  · rw [if_neg h]
    go_enter Try.func30, Try.ntmps30
    go_wp2
    go_ret
    exact ⟨rfl, rfl⟩
set_option maxRecDepth 100000 in
set_option maxHeartbeats 1600000 in
theorem l_toTern (a : TnV) (w : World) :
    Calls Try.prog 64 #[.agg (tnL a)] w fun e w' => e = .returned (.agg (tnL a)) ∧ Below w.heap.size w w' := by
  obtain ⟨value, mask, pri, act⟩ := a
  simp only [tnL] at *
  go_enter Try.func64, Try.ntmps64
  go_wp2
  refine bodyPost_ret (v := .agg #[.int .i64 value, .int .i64 mask, .int .i64 pri, .int .i64 act]) ?_ rfl ⟨rfl, ?_⟩
  · simp [results, Try.results64, go_sem]
  · go_grown
set_option maxRecDepth 100000 in
set_option maxHeartbeats 800000 in
theorem l_eqTern (a : TnV) (w : World) :
    Calls Try.prog 67 #[.agg (tnL a), .agg (tnL a)] w fun e w' => e = .returned (.bool true) ∧ Below w.heap.size w w' := by
  obtain ⟨value, mask, pri, act⟩ := a
  simp only [tnL] at *
  go_enter Try.func67, Try.ntmps67
  go_wp2
  go_ret
  exact ⟨rfl, ((Below.refl _ w).alloc (Nat.le_refl _) _).alloc (by simp) _⟩
theorem Try.infTern : Inf 46 84 4 := ⟨Try.underlying46, by kernel_rfl, by decide, by decide⟩
set_option maxRecDepth 100000 in
set_option maxHeartbeats 1600000 in
theorem l_toTernS (T : Option Addr) (c : Nat) (l : List TnV) (w : World) (h : IntsAt w T (tnF l)) (hl : l.length ≤ 1048576) :
    Calls Try.prog 32 #[.slice T l.length c] w fun e w' => ∃ g, e = .returned (.slice (some ⟨g, 0, none⟩) l.length l.length) ∧ ownR w' w.heap.size 84 4 (.slice (some ⟨g, 0, none⟩) l.length l.length) l.length (tnF l) ∧ Below w.heap.size w w' := by
  have CT : Hid (∀ (a : TnV) (u : World), Calls Try.prog 64 #[.agg (tnL a)] u fun e w' => e = .returned (.agg (tnL a)) ∧ Below u.heap.size u w') := fun a u => l_toTern a u
  go_enter Try.func32, Try.ntmps32
  go_wp2_with (refine wpList_make_recs Try.infTern rfl _ _ rfl _ _ _ _ l.length rfl rfl rfl rfl (by omega) ?_; intro w1 hown hb)
  go_loopw [4] (fun i wr => ∃ j : Nat, j ≤ l.length ∧ i = .int .i64 (j : Int) ∧ ownR wr w.heap.size 84 4 (.slice (some ⟨w.heap.size, 0, none⟩) l.length l.length) l.length (tnF (l.take j) ++ List.replicate ((l.length - j) * 4) 0) ∧ Below w.heap.size w wr) (fun i _ => ((l.length : Int) - intOf i).toNat)
  case atStart => exact ⟨0, by omega, rfl, by simpa [tnF] using hown, hb⟩
  case round =>
    obtain ⟨j, hj, rfl, hown, hb⟩ := hrel
    by_cases hlt : j < l.length
    · rcases h.below hb with h | ⟨g, off, rfl, hg, hc⟩
      · have := tnF_len l; rw [h] at this; simp at this; omega
      · have hcs := tn_cells hc j hlt
        clear hc
        have hj1 : (j : Int) < (l.length : Int) := by omega
        go_wp2_with fail
        refine (CT.out (tnA l j) _).mono ?_
        rintro e w2 ⟨rfl, hb2⟩
        have ho2 := hown.far hb2
        have hB2 := hb.trans (hb2.mono hb.size)
        have hx0 := ho2.cell (j * 4) (by omega)
        have hf0 := ho2.frozen (j * 4)
        have hx1 := ho2.cell (j * 4 + 1) (by omega)
        have hf1 := ho2.frozen (j * 4 + 1)
        have hx2 := ho2.cell (j * 4 + 2) (by omega)
        have hf2 := ho2.frozen (j * 4 + 2)
        have hx3 := ho2.cell (j * 4 + 3) (by omega)
        have hf3 := ho2.frozen (j * 4 + 3)
        simp only [tnL]
        clear hb2 hcs
        go_wp2
        go_roundw
        case rel =>
          have hb3 := below_set (below_set (below_set (below_set ((Below.refl w.heap.size w2)) ⟨w.heap.size, j * 4, none⟩ (.int .i64 (tnA l j).value) (Nat.le_refl _)) ⟨w.heap.size, j * 4 + 1, none⟩ (.int .i64 (tnA l j).mask) (Nat.le_refl _)) ⟨w.heap.size, j * 4 + 2, none⟩ (.int .i64 (tnA l j).pri) (Nat.le_refl _)) ⟨w.heap.size, j * 4 + 3, none⟩ (.int .i64 (tnA l j).act) (Nat.le_refl _)
          refine ⟨j + 1, by omega, by go_num, ?_, hB2.trans hb3⟩
          rw [← tn_fill l j hlt]
          exact ((((ho2).stored (j * 4) ((tnA l j).value)).stored (j * 4 + 1) ((tnA l j).mask)).stored (j * 4 + 2) ((tnA l j).pri)).stored (j * 4 + 3) ((tnA l j).act)
        case measure => simp [intOf]; omega
    · have e : j = l.length := by omega
      subst e
      go_wp2
      go_ret
      exact ⟨w.heap.size, rfl, by simpa using hown, hb⟩
set_option maxRecDepth 100000 in
set_option maxHeartbeats 1600000 in
theorem l_eqTernS (T U : Option Addr) (c e : Nat) (l : List TnV) (w : World) (h : IntsAt w T (tnF l)) (k : IntsAt w U (tnF l)) (hl : l.length ≤ 1099511627776) :
    Calls Try.prog 34 #[.slice T l.length c, .slice U l.length e] w fun e w' => e = .returned (.bool true) ∧ Below w.heap.size w w' := by
  have hne : ((l.length : Int) != (l.length : Int)) = false := by simp
  have CE : Hid (∀ (a : TnV) (u : World), Calls Try.prog 67 #[.agg (tnL a), .agg (tnL a)] u fun e w' => e = .returned (.bool true) ∧ Below u.heap.size u w') := fun a u => l_eqTern a u
  go_enter Try.func34, Try.ntmps34
  go_wp2
  go_loopw [5] (fun i wr => ∃ j : Nat, j ≤ l.length ∧ i = .int .i64 (j : Int) ∧ Below w.heap.size w wr) (fun i _ => ((l.length : Int) - intOf i).toNat)
  case atStart => exact ⟨0, by omega, rfl, Below.refl _ _⟩
  case round =>
    obtain ⟨j, hj, rfl, hb⟩ := hrel
    by_cases hlt : j < l.length
    · have hle := tnF_len l
      rcases h with h | ⟨g, off, rfl, hg, hc⟩
      · rw [h] at hle; simp at hle; omega
      · rcases k with k | ⟨g2, off2, rfl, hg2, hc2⟩
        · rw [k] at hle; simp at hle; omega
        · have hj1 : (j : Int) < (l.length : Int) := by omega
          have hcs := tn_cells hc j hlt
          have hcs2 := tn_cells hc2 j hlt
          clear hc hc2 hle
          generalize tnA l j = a at *
          obtain ⟨value, mask, pri, act⟩ := a
          have hr := Below.refl wr.heap.size wr
          go_wp2_with fail
          have hne2 := BW.some wr
          have c0 := fun u : BW wr => (u.le.cell (p := ⟨g, off + j * 4, none⟩) (Nat.lt_of_lt_of_le hg hb.size)).trans ((hb.cell (p := ⟨g, off + j * 4, none⟩) hg).trans hcs.1)
          have d0 := fun u : BW wr => (u.le.cell (p := ⟨g2, off2 + j * 4, none⟩) (Nat.lt_of_lt_of_le hg2 hb.size)).trans ((hb.cell (p := ⟨g2, off2 + j * 4, none⟩) hg2).trans hcs2.1)
          have c1 := fun u : BW wr => (u.le.cell (p := ⟨g, off + j * 4 + 1, none⟩) (Nat.lt_of_lt_of_le hg hb.size)).trans ((hb.cell (p := ⟨g, off + j * 4 + 1, none⟩) hg).trans hcs.2.1)
          have d1 := fun u : BW wr => (u.le.cell (p := ⟨g2, off2 + j * 4 + 1, none⟩) (Nat.lt_of_lt_of_le hg2 hb.size)).trans ((hb.cell (p := ⟨g2, off2 + j * 4 + 1, none⟩) hg2).trans hcs2.2.1)
          have c2 := fun u : BW wr => (u.le.cell (p := ⟨g, off + j * 4 + 2, none⟩) (Nat.lt_of_lt_of_le hg hb.size)).trans ((hb.cell (p := ⟨g, off + j * 4 + 2, none⟩) hg).trans hcs.2.2.1)
          have d2 := fun u : BW wr => (u.le.cell (p := ⟨g2, off2 + j * 4 + 2, none⟩) (Nat.lt_of_lt_of_le hg2 hb.size)).trans ((hb.cell (p := ⟨g2, off2 + j * 4 + 2, none⟩) hg2).trans hcs2.2.2.1)
          have c3 := fun u : BW wr => (u.le.cell (p := ⟨g, off + j * 4 + 3, none⟩) (Nat.lt_of_lt_of_le hg hb.size)).trans ((hb.cell (p := ⟨g, off + j * 4 + 3, none⟩) hg).trans hcs.2.2.2)
          have d3 := fun u : BW wr => (u.le.cell (p := ⟨g2, off2 + j * 4 + 3, none⟩) (Nat.lt_of_lt_of_le hg2 hb.size)).trans ((hb.cell (p := ⟨g2, off2 + j * 4 + 3, none⟩) hg2).trans hcs2.2.2.2)
          refine wp_region_below (by kernel_rfl) (by kernel_rfl) ?_
          repeat (go_big_quiet_step (first | (go_at_call 67; exact Calls.into (CE.out ⟨value, mask, pri, act⟩ _))))
          refine wpQuiet_nil ?_
          intro _ hw'
          obtain ⟨u, hw''⟩ := hw'
          subst hw''
          clear c0 d0 c1 d1 c2 d2 c3 d3 hne2
          go_wp2
          go_roundw
          case rel => exact ⟨j + 1, by omega, by go_num, hb.trans (u.le.mono hb.size)⟩
          case measure => simp [intOf]; omega
    · go_wp2
      go_ret
      exact ⟨rfl, hb⟩
set_option maxRecDepth 100000 in
set_option maxHeartbeats 1600000 in
theorem l_markTernS (B : Nat) (T : Option Addr) (n c : Nat) (xs : List Int) (w : World) (h : ownR w B 84 4 (.slice T n c) n xs) (hn : n ≤ 4194304) :
    Calls Try.prog 35 #[.slice T n c, .int .i64 1] w fun e w' => e = .returned (.int .i64 (1 + (n : Int) * 4)) ∧ ownR w' B 84 4 (.slice T n c) n (marks (n * 4)) ∧ w.grownBy w' (Value.slice T n c).ownBlock := by
  have hxl := h.len
  go_enter Try.func35, Try.ntmps35
  go_wp2
  go_loopw [5, 1] (fun i q wr => ∃ j : Nat, j ≤ n ∧ i = .int .i64 (j : Int) ∧ q = .int .i64 (1 + (j : Int) * 4) ∧ ownR wr B 84 4 (.slice T n c) n (marks (j * 4) ++ xs.drop (j * 4)) ∧ w.grownBy wr (Value.slice T n c).ownBlock) (fun i _ _ => ((n : Int) - intOf i).toNat)
  case atStart => exact ⟨0, by omega, rfl, rfl, by simpa [marks] using h, grownBy_refl _ _⟩
  case round =>
    obtain ⟨j, hj, rfl, rfl, hown, hg⟩ := hrel
    by_cases hlt : j < n
    · rcases hown.shape with ⟨_, h0, _⟩ | ⟨g, cap, hv, hB, hgs, hcap⟩
      · omega
      · simp only [Value.slice.injEq] at hv
        obtain ⟨rfl, _, rfl⟩ := hv
        have hj1 : (j : Int) < (n : Int) := by omega
        have hx0 := hown.cell (j * 4) (by omega)
        have hf0 := hown.frozen (j * 4)
        have hx1 := hown.cell (j * 4 + 1) (by omega)
        have hf1 := hown.frozen (j * 4 + 1)
        have hx2 := hown.cell (j * 4 + 2) (by omega)
        have hf2 := hown.frozen (j * 4 + 2)
        have hx3 := hown.cell (j * 4 + 3) (by omega)
        have hf3 := hown.frozen (j * 4 + 3)
        go_wp2
        go_roundw
        case rel =>
          refine ⟨j + 1, by omega, by go_num, by go_num, ?_, ?_⟩
          · rw [← marks_fill4 xs j (by omega)]
            exact ((((hown).stored (j * 4) (1 + (j : Int) * 4)).stored (j * 4 + 1) (1 + (j : Int) * 4 + 1)).stored (j * 4 + 2) (1 + (j : Int) * 4 + 2)).stored (j * 4 + 3) (1 + (j : Int) * 4 + 3)
          · exact grown_set (grown_set (grown_set (grown_set (hg) ⟨g, j * 4, none⟩ _ rfl) ⟨g, j * 4 + 1, none⟩ _ rfl) ⟨g, j * 4 + 2, none⟩ _ rfl) ⟨g, j * 4 + 3, none⟩ _ rfl
        case measure => simp [intOf]; omega
    · have e : j = n := by omega
      subst e
      go_wp2
      go_ret
      exact ⟨rfl, by rw [List.drop_eq_nil_of_le (by omega), List.append_nil] at hown; exact hown, hg⟩
set_option maxRecDepth 100000 in
set_option maxHeartbeats 1600000 in
theorem l_heldTernS (B : Nat) (T : Option Addr) (n c : Nat) (w : World) (h : ownR w B 84 4 (.slice T n c) n (marks (n * 4))) (hn : n ≤ 4194304) :
    Calls Try.prog 36 #[.slice T n c, .int .i64 1] w fun e w' => e = .returned (.int .i64 (1 + (n : Int) * 4)) ∧ Below w.heap.size w w' := by
  go_enter Try.func36, Try.ntmps36
  go_wp2
  go_loopw [5, 1] (fun i q wr => ∃ j : Nat, j ≤ n ∧ i = .int .i64 (j : Int) ∧ q = .int .i64 (1 + (j : Int) * 4) ∧ Below w.heap.size w wr) (fun i _ _ => ((n : Int) - intOf i).toNat)
  case atStart => exact ⟨0, by omega, rfl, rfl, Below.refl _ _⟩
  case round =>
    obtain ⟨j, hj, rfl, rfl, hb⟩ := hrel
    by_cases hlt : j < n
    · have hown := h.far hb
      rcases hown.shape with ⟨_, h0, _⟩ | ⟨g, cap, hv, hB, hgs, hcap⟩
      · omega
      · simp only [Value.slice.injEq] at hv
        obtain ⟨rfl, _, rfl⟩ := hv
        have hj1 : (j : Int) < (n : Int) := by omega
        have hx0 := hown.cell (j * 4) (by omega)
        rw [ia_marks _ _ (by omega)] at hx0
        have hx1 := hown.cell (j * 4 + 1) (by omega)
        rw [ia_marks _ _ (by omega)] at hx1
        have hx2 := hown.cell (j * 4 + 2) (by omega)
        rw [ia_marks _ _ (by omega)] at hx2
        have hx3 := hown.cell (j * 4 + 3) (by omega)
        rw [ia_marks _ _ (by omega)] at hx3
        go_wp2
        go_roundw
        case rel => exact ⟨j + 1, by omega, by go_num, by go_num, hb⟩
        case measure => simp [intOf]; omega
    · have e : j = n := by omega
      subst e
      go_wp2
      go_ret
      exact ⟨rfl, hb⟩

end Go.Proofs.Ytijbemejbemcmaa
