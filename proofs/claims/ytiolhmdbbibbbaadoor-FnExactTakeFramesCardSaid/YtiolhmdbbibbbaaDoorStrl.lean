/-
  Rows of texts: compared, marked, held against their marks.
-/
import Derived.Test.YtiolhmdbbibbbaaDoorMark
import Derived.Maps.AppendAt
namespace Go.Proofs.YtiolhmdbbibbbaaDoor
open Go.RowKit Go.PlainAid
def stF (l : List ByteArray) : List Value := l.map Value.string
theorem stF_len (l : List ByteArray) : (stF l).length = l.length := by simp [stF]
theorem stF_app (l m : List ByteArray) : stF (l ++ m) = stF l ++ stF m := by simp [stF]
theorem stF_at (l : List ByteArray) (i : Nat) (h : i < l.length) : (stF l)[i]? = some (.string l[i]) := by simp [stF, h]
theorem stF_one (l : List ByteArray) : ∀ u ∈ stF l, u.oneCell' = true := by
  intro u hu
  obtain ⟨s, _, rfl⟩ := List.mem_map.1 hu
  rfl
theorem wpList_append_strs {w : World} {ops : Array Oper} {rest : List Oper} {o : Oper} {a : Act} {Q : Exit → Act → World → Prop} (hgd : o.guard = none) (s x : Operand)
    (ho : o.op = .call { callee := .builtin .append, args := #[s, x], argTypes := #[22, 22] })
    (B : Nat) (v : Value) (n : Nat) (xs : List Value) (hs : a.eval s = v) (hown : ownV w B 9 1 v n xs) (ad : Addr) (m c : Nat) (ys : List Value) (hx : a.eval x = .slice (some ad) m c) (hy : ys.length = m * 1) (hone : ∀ u ∈ ys, u.oneCell' = true) (hsrc : ∀ j u, ys[j]? = some u → w.cell? (ad.add j) = some u)
    (hl : n + m ≤ 1099511627776) (hB : B ≤ w.heap.size)
    (h : ∀ v' w', ownV w' B 9 1 v' (n + m) (xs ++ ys) → Below B w w' → wpList Tryd.prog ops Q rest (a.put o.dst v') w') : wpList Tryd.prog ops Q (o :: rest) a w := by
  have hinfo : (Tryd.prog.info? 9).map (fun i => (i.zero, i.size, i.bytes)) = some (some (.string ByteArray.empty), 1, 16) := by kernel_rfl
  obtain ⟨i0, hi0, hz0, hz1, hz2⟩ := info_parts hinfo
  refine wpList_append_own w hgd s x 22 ho B 9 i0 _ 1 16 Tryd.underlying22 hi0 hz0 hz1 hz2 rfl (by decide) v n xs hs hown ad m c ys hx hy hsrc hone (by unfold maxLen; omega) (by omega) hB ?_
  intro v' w' h2 h3 _
  exact h v' w' h2 ((Below.refl B w).grown h3 hB fun k hk => (World.ownsRow.lt hown k hk).1)
set_option maxRecDepth 100000 in
set_option maxHeartbeats 1600000 in
theorem l_eqStringS (T U : Option Addr) (c e : Nat) (l : List ByteArray) (w : World) (h : CellsAt w T (stF l)) (k : CellsAt w U (stF l)) (hl : l.length ≤ 1099511627776) :
    Calls Tryd.prog 6 #[.slice T l.length c, .slice U l.length e] w fun e w' => e = .returned (.bool true) ∧ Below w.heap.size w w' := by
  have hne : ((l.length : Int) != (l.length : Int)) = false := by simp
  go_enter Tryd.func6, Tryd.ntmps6
  go_wp2
  go_loopw [5] (fun i wr => ∃ j : Nat, j ≤ l.length ∧ i = .int .i64 (j : Int) ∧ Below w.heap.size w wr) (fun i _ => ((l.length : Int) - intOf i).toNat)
  case atStart => exact ⟨0, by omega, rfl, Below.refl _ _⟩
  case round =>
    obtain ⟨j, hj, rfl, hb⟩ := hrel
    by_cases hlt : j < l.length
    · have hle := stF_len l
      rcases h with h | ⟨g, off, rfl, hg, hc⟩
      · rw [h] at hle; simp at hle; omega
      · rcases k with k | ⟨g2, off2, rfl, hg2, hc2⟩
        · rw [k] at hle; simp at hle; omega
        · have hj1 : (j : Int) < (l.length : Int) := by omega
          have hcs := (hc j (by omega)).trans (stF_at l j hlt)
          have hcs2 := (hc2 j (by omega)).trans (stF_at l j hlt)
          clear hc hc2 hle
          generalize l[j] = t at *
          have ht : (t.toList == t.toList) = true := by simp
          go_wp2_with fail
          have hne2 := BW.some wr
          have c0 := fun u : BW wr => (u.le.cell (p := ⟨g, off + j, none⟩) (Nat.lt_of_lt_of_le hg hb.size)).trans ((hb.cell (p := ⟨g, off + j, none⟩) hg).trans hcs)
          have d0 := fun u : BW wr => (u.le.cell (p := ⟨g2, off2 + j, none⟩) (Nat.lt_of_lt_of_le hg2 hb.size)).trans ((hb.cell (p := ⟨g2, off2 + j, none⟩) hg2).trans hcs2)
          refine wp_region_below (by kernel_rfl) (by kernel_rfl) ?_
          repeat (go_big_quiet_step (fail))
          refine wpQuiet_nil ?_
          intro _ hw'
          obtain ⟨u, hw''⟩ := hw'
          subst hw''
          clear c0 d0 hne2
          go_wp2
          go_roundw
          case rel => exact ⟨j + 1, by omega, by go_num, hb.trans (u.le.mono hb.size)⟩
          case measure => simp [intOf]; omega
    · go_wp2
      go_ret
      exact ⟨rfl, hb⟩
def stMk (n : Nat) : List ByteArray := (List.range n).map fun j => mkT (1 + j)
theorem stMk_len (n : Nat) : (stMk n).length = n := by simp [stMk]
theorem stMk_at (n j : Nat) (h : j < n) : (stF (stMk n))[j]? = some (.string (mkT (1 + j))) := by
  rw [stF_at _ _ (by rw [stMk_len]; exact h)]; simp [stMk]
theorem st_fill (n : Nat) (xs : List Value) (hx : xs.length = n) (j : Nat) (h : j < n) : (stF ((stMk n).take j) ++ xs.drop j).set j (.string (mkT (1 + j))) = stF ((stMk n).take (j + 1)) ++ xs.drop (j + 1) := by
  rw [fill_set _ xs j (by rw [stF_len, List.length_take, stMk_len]; omega) (by omega)]
  congr 1
  have e : (stMk n).take (j + 1) = (stMk n).take j ++ [mkT (1 + j)] := by
    rw [List.take_succ_eq_append_getElem (by rw [stMk_len]; exact h)]; simp [stMk]
  rw [e, stF_app]; rfl
set_option maxRecDepth 100000 in
set_option maxHeartbeats 3200000 in
theorem l_markStringS (B : Nat) (T : Option Addr) (n c : Nat) (xs : List Value) (w : World) (h : ownV w B 9 1 (.slice T n c) n xs) (hn : n ≤ 1048576) :
    Calls Tryd.prog 7 #[.slice T n c, .int .i64 1] w fun e w' => e = .returned (.int .i64 (1 + (n : Int))) ∧ ownV w' B 9 1 (.slice T n c) n (stF (stMk n)) ∧ w.grownBy w' (Value.slice T n c).ownBlock := by
  have hxl : xs.length = n := by have := h.len; omega
  have CM : Hid (∀ (k : Nat) (u : World), 1 ≤ k → k ≤ 1000000000 → Calls Tryd.prog 14 #[.int .i64 (k : Int)] u fun e w' => e = .returned (.string (mkT k)) ∧ Below u.heap.size u w') := fun k u h1 h2 => l_markText k u h1 h2
  go_enter Tryd.func7, Tryd.ntmps7
  go_wp2
  go_loopw [5, 1] (fun i q wr => ∃ j : Nat, j ≤ n ∧ i = .int .i64 (j : Int) ∧ q = .int .i64 (1 + (j : Int)) ∧ ownV wr B 9 1 (.slice T n c) n (stF ((stMk n).take j) ++ xs.drop j) ∧ w.grownBy wr (Value.slice T n c).ownBlock) (fun i _ _ => ((n : Int) - intOf i).toNat)
  case atStart => exact ⟨0, by omega, rfl, rfl, by simpa [stF] using h, grownBy_refl _ _⟩
  case round =>
    obtain ⟨j, hj, rfl, rfl, hown, hg⟩ := hrel
    by_cases hlt : j < n
    · rcases hown.shape with ⟨_, h0, _⟩ | ⟨g, cap, hv, hB, hgs, hcap⟩
      · omega
      · simp only [Value.slice.injEq] at hv
        obtain ⟨rfl, _, rfl⟩ := hv
        have hj1 : (j : Int) < (n : Int) := by omega
        have HF : Hid _ := st_fill n xs hxl j hlt
        generalize stF ((stMk n).take j) ++ xs.drop j = ys at *
        have CM2 : Hid (∀ u : World, Calls Tryd.prog 14 #[.int .i64 (1 + (j : Int))] u fun e w' => e = .returned (.string (mkT (1 + j))) ∧ Below u.heap.size u w') := fun u => by
          have := CM.out (1 + j) u (by omega) (by omega)
          rw [show ((1 + j : Nat) : Int) = 1 + (j : Int) by omega] at this
          exact this
        clear CM
        go_wp2_with fail
        go_at_call 14
        refine (CM2.out _).mono ?_
        rintro e w3 ⟨rfl, hX⟩
        replace hown := hown.far hX
        replace hg : w.grownBy w3 (Value.slice (some ⟨g, 0, none⟩) n c).ownBlock := ⟨hX.os.trans hg.os, hX.tape.trans hg.tape, hX.output.trans hg.output, Nat.le_trans hg.size hX.size, fun k hk hne => (hX.block k (Nat.lt_of_lt_of_le hk hg.size)).trans (hg.block k hk hne)⟩
        clear hX CM2
        obtain ⟨x2, hx2⟩ := hown.has j (by omega)
        have hf2 := hown.frozen j
        have hO3 := hown.stored j (.string (mkT (1 + j)))
        have hg3 := grown_set hg ⟨g, j, none⟩ (.string (mkT (1 + j))) rfl
        rw [HF.out] at hO3
        generalize mkT (1 + j) = mt at *
        go_wp2
        go_roundw
        case rel => exact ⟨j + 1, by omega, by go_num, by go_num, hO3, hg3⟩
        case measure => simp [intOf]; omega
    · have e : j = n := by omega
      subst e
      go_wp2
      go_ret
      exact ⟨rfl, by rw [List.drop_eq_nil_of_le (by omega), List.append_nil, List.take_of_length_le (by rw [stMk_len]; exact Nat.le_refl _)] at hown; exact hown, hg⟩
set_option maxRecDepth 100000 in
set_option maxHeartbeats 3200000 in
theorem l_heldStringS (B : Nat) (T : Option Addr) (n c : Nat) (w : World) (h : ownV w B 9 1 (.slice T n c) n (stF (stMk n))) (hn : n ≤ 1048576) :
    Calls Tryd.prog 8 #[.slice T n c, .int .i64 1] w fun e w' => e = .returned (.int .i64 (1 + (n : Int))) ∧ Below w.heap.size w w' := by
  have CM : Hid (∀ (k : Nat) (u : World), 1 ≤ k → k ≤ 1000000000 → Calls Tryd.prog 14 #[.int .i64 (k : Int)] u fun e w' => e = .returned (.string (mkT k)) ∧ Below u.heap.size u w') := fun k u h1 h2 => l_markText k u h1 h2
  go_enter Tryd.func8, Tryd.ntmps8
  go_wp2
  go_loopw [5, 1] (fun i q wr => ∃ j : Nat, j ≤ n ∧ i = .int .i64 (j : Int) ∧ q = .int .i64 (1 + (j : Int)) ∧ Below w.heap.size w wr) (fun i _ _ => ((n : Int) - intOf i).toNat)
  case atStart => exact ⟨0, by omega, rfl, rfl, Below.refl _ _⟩
  case round =>
    obtain ⟨j, hj, rfl, rfl, hb⟩ := hrel
    by_cases hlt : j < n
    · have hown := h.far hb
      rcases hown.shape with ⟨_, h0, _⟩ | ⟨g, cap, hv, hB, hgs, hcap⟩
      · omega
      · simp only [Value.slice.injEq] at hv
        obtain ⟨rfl, _, rfl⟩ := hv
        have hj1 : (j : Int) < (n : Int) := by omega
        have hx0 := (hown.cell j (by omega)).trans (stMk_at n j hlt)
        have CM2 : Hid (∀ u : World, Calls Tryd.prog 14 #[.int .i64 (1 + (j : Int))] u fun e w' => e = .returned (.string (mkT (1 + j))) ∧ Below u.heap.size u w') := fun u => by
          have := CM.out (1 + j) u (by omega) (by omega)
          rw [show ((1 + j : Nat) : Int) = 1 + (j : Int) by omega] at this
          exact this
        have hb9 : ((mkT (1 + j)).toList == (mkT (1 + j)).toList) = true := by simp
        clear CM hown
        generalize mkT (1 + j) = mt at *
        go_wp2_with fail
        have hne := BW.some wr
        have a2 := fun u : BW wr => (u.le.cell (p := ⟨g, j, none⟩) hgs).trans hx0
        refine wp_region_below (by kernel_rfl) (by kernel_rfl) ?_
        repeat (go_big_quiet_step (first | (go_at_call 14; exact Calls.into (CM2.out _))))
        refine wpQuiet_nil ?_
        intro _ hw'
        obtain ⟨u, hw''⟩ := hw'
        subst hw''
        clear a2 hne
        have hB3 := hb.trans (u.le.mono hb.size)
        generalize hU : u.u = U at *
        clear hU u
        go_wp2
        go_roundw
        case rel => exact ⟨j + 1, by omega, by go_num, by go_num, hB3⟩
        case measure => simp [intOf]; omega
    · have e : j = n := by omega
      subst e
      go_wp2
      go_ret
      exact ⟨rfl, hb⟩
end Go.Proofs.YtiolhmdbbibbbaaDoor
