/-
  A frame that is taken off a text: the program.
-/
import Derived.Test.YteflhnmoceppgaaDoorTkf2
import Derived.Tactics2
import Derived.Defers
import Derived.Recover
namespace Go.Proofs.YteflhnmoceppgaaDoor
open Go.RowKit Go.PlainAid
theorem bl_extractT (s : ByteArray) (a b : Nat) : bl (s.extract a b) = ((bl s).drop a).take (b - a) := by
  have := str_extract (bl s) a b
  rw [str_bl] at this
  rw [this]
theorem tkN_num (s : ByteArray) (a : Nat) : ((tkN s a : Nat) : Int) = num (((bl s).drop a).take 4) := by
  have := tkN_bd s a; unfold tkN; omega
theorem tk_bytes {s : ByteArray} {a : Nat} (h : a + 8 + tkN s a ≤ s.size) : bl (s.extract a (a + 8 + tkN s a)) = be 4 (tkN s a : Int) ++ (bl (s.extract (a + 4) (a + 8)) ++ bl (tkD s a)) := by
  have h4 : be 4 (tkN s a : Int) = ((bl s).drop a).take 4 := by
    rw [tkN_num]; exact be_num_of 4 _ (by rw [List.length_take, List.length_drop, bl_length]; omega)
  rw [h4]
  unfold tkD
  rw [bl_extractT, bl_extractT, bl_extractT]
  rw [show a + 8 + tkN s a - a = 4 + (4 + tkN s a) by omega, show a + 8 - (a + 4) = 4 by omega, show a + 8 + tkN s a - (a + 8) = tkN s a by omega]
  rw [List.take_add, List.take_add, List.drop_drop, List.drop_drop]
theorem tkD_len {s : ByteArray} {a : Nat} (h : a + 8 + tkN s a ≤ s.size) : (bl (tkD s a)).length = tkN s a := by
  unfold tkD; rw [bl_extractT, List.length_take, List.length_drop, bl_length]; omega
/-- where all bytes are there: a frame stands there just where the frame of its data does -/
theorem tk_same {s : ByteArray} {a : Nat} (h : a + 8 + tkN s a ≤ s.size) : (frOf (bl (tkD s a)) == (s.extract a (a + 8 + tkN s a)).toList) = tkOk s a := by
  have hb := tk_bytes h
  have hl := tkD_len h
  have e1 : (s.extract a (a + 8 + tkN s a)).toList = bl (s.extract a (a + 8 + tkN s a)) := ByteArray.toList_eq _
  have e2 : (s.extract (a + 4) (a + 8)).toList = bl (s.extract (a + 4) (a + 8)) := ByteArray.toList_eq _
  rw [e1, hb]
  unfold tkOk frOf
  rw [hl, e2, decide_eq_true h, decide_eq_true (show a + 8 ≤ s.size by omega)]
  by_cases hn : 100000 < tkN s a
  · rw [if_pos hn, decide_eq_false (show ¬ tkN s a ≤ 100000 by omega)]
    rw [be4_eq]; rfl
  · rw [if_neg hn, decide_eq_true (show tkN s a ≤ 100000 by omega)]
    rw [Bool.eq_iff_iff]
    simp only [Bool.true_and, beq_iff_eq, List.append_assoc]
    rw [List.append_cancel_left_eq]
    constructor
    · intro e; exact List.append_cancel_right e
    · intro e; rw [e]
set_option maxRecDepth 100000 in
set_option maxHeartbeats 1600000 in
theorem i_giveUp (s : ByteArray) (p : Int) (f : Bool) (a : Int) (b : Nat) (w : World) (hA : Bx w b (rdx4 s p f a)) :
    Calls Tryd.prog 29 #[.pointer (some ⟨b, 0, none⟩)] w fun e w' => e = .panicked [{ v := .iface 50 (.int .i64 a), recovered := false }] ∧ w' = w := by
  have a3 := hA.2 3 _ rfl
  go_enter Tryd.func29, Tryd.ntmps29
  go_wp2
  exact ⟨rfl, rfl, rfl⟩
theorem CrcTab.grown {w w' : World} {b : Nat} (h : CrcTab w) (hg : w.grownBy w' (some b)) (hne : 0 ≠ b) : CrcTab w' := fun i hi =>
  (World.cell?_of_block (w := w) (a := ⟨0, i, none⟩) (hg.block _ (lt_of_cell (h i hi)) (by simpa using hne))).trans (h i hi)
theorem nx_fit {s : ByteArray} {p k : Int} (f : Bool) (h : p + k ≤ s.size) : nxP s p k = p + k ∧ nxF s p k f = f ∧ pieceAt s p k = s.extract p.toNat (p + k).toNat := ⟨if_pos h, if_pos h, if_pos h⟩
theorem nxF_not {s : ByteArray} {p k : Int} {f : Bool} (h : ¬ p + k ≤ s.size) : nxF s p k f = true ∧ nxP s p k = p := ⟨if_neg h, if_neg h⟩
theorem nxF_tr (s : ByteArray) (p k : Int) : nxF s p k true = true := by unfold nxF; split <;> rfl
set_option maxRecDepth 100000 in
set_option maxHeartbeats 6400000 in
theorem i_frame (s : ByteArray) (a b : Nat) (w : World) (ha : a ≤ s.size) (hs : s.size ≤ 1048576) (hA : Bx w b (rdx4 s a false a)) (hF : Fx w b) (hT : CrcTab w) (hGb : 0 ≠ b) :
    Calls Tryd.prog 19 #[.pointer (some ⟨b, 0, none⟩)] w fun e w' =>
      (tkOk s a = true ∧ e = .returned (.string (tkD s a)) ∧ Rx4 w w' b s (a + 8 + tkN s a) false a) ∨
      (tkOk s a = false ∧ e = .panicked [{ v := .iface 50 (.int .i64 (a : Int)), recovered := false }] ∧ ∃ p f, Rx4 w w' b s p f a) := by
  have hbl := hA.1
  have hn0 := tkN_bd s a
  have hnn : 0 ≤ numAt s a 4 ∧ numAt s a 4 ≤ 4294967295 ∧ (a + 4 ≤ s.size → numAt s a 4 = (tkN s a : Int)) := by
    by_cases h4 : (a : Int) + 4 ≤ s.size
    · have e := (okN_true (s := s) (at_ := a) (k := 4) ⟨by omega, by omega, by omega, h4⟩).2
      rw [e]
      have e2 : ((a : Int)).toNat = a := Int.toNat_natCast a
      rw [e2]
      have e3 : (4 : Int).toNat = 4 := rfl
      rw [e3]
      exact ⟨hn0.1, hn0.2, fun _ => (tkN_num s a).symm⟩
    · have e := (okN_false (s := s) (at_ := a) (k := 4) (by omega)).2
      rw [e]
      exact ⟨by omega, by omega, fun h => by omega⟩
  obtain ⟨hn1, hn2, hn3⟩ := hnn
  go_enter Tryd.func19, Tryd.ntmps19
  go_wp2_with fail
  refine (i_rdNumber4 s a 4 false a b _ hA hF (by omega) (by omega) (by omega) (by omega) (by omega)).mono ?_
  rintro e w1 ⟨rfl, h1⟩
  obtain ⟨hp1, hp1'⟩ := nxP_in (s := s) (p := a) (k := 4) (by omega) (by omega) (by omega)
  have E1 : (a : Int) + 4 ≤ s.size → nxP s a 4 = (a : Int) + 4 ∧ nxF s a 4 false = false := fun h => ⟨(nx_fit false h).1, (nx_fit false h).2.1⟩
  have G1 : ¬ (a : Int) + 4 ≤ s.size → nxF s a 4 false = true := fun h => (nxF_not h).1
  generalize nxP s a 4 = p1 at *
  generalize nxF s a 4 false = f1 at *
  generalize hnG : numAt s a 4 = n at *
  clear hnG
  go_wp2_with fail
  refine (i_rdPiece4 s p1 4 f1 a b _ h1.box h1.free hp1 hp1' (by omega) (by omega) (by omega)).mono ?_
  rintro e w2 ⟨rfl, h2⟩
  obtain ⟨hp2, hp2'⟩ := nxP_in (s := s) (p := p1) (k := 4) hp1 hp1' (by omega)
  have E2 : p1 + 4 ≤ s.size → nxP s p1 4 = p1 + 4 ∧ nxF s p1 4 f1 = f1 := fun h => ⟨(nx_fit f1 h).1, (nx_fit f1 h).2.1⟩
  have G2 : ¬ p1 + 4 ≤ s.size → nxF s p1 4 f1 = true := fun h => (nxF_not h).1
  have H2 : f1 = true → nxF s p1 4 f1 = true := fun h => by rw [h]; exact nxF_tr _ _ _
  generalize nxP s p1 4 = p2 at *
  generalize nxF s p1 4 f1 = f2 at *
  go_wp2_with fail
  refine (i_rdPiece4 s p2 n f2 a b _ h2.box h2.free hp2 hp2' hn1 (by omega) (by omega)).mono ?_
  rintro e w3 ⟨rfl, h3⟩
  have E3 : p2 + n ≤ s.size → nxP s p2 n = p2 + n ∧ nxF s p2 n f2 = f2 ∧ pieceAt s p2 n = s.extract p2.toNat (p2 + n).toNat := fun h => nx_fit f2 h
  have G3 : ¬ p2 + n ≤ s.size → nxF s p2 n f2 = true := fun h => (nxF_not h).1
  have H3 : f2 = true → nxF s p2 n f2 = true := fun h => by rw [h]; exact nxF_tr _ _ _
  generalize nxP s p2 n = p3 at *
  generalize nxF s p2 n f2 = f3 at *
  generalize pieceAt s p2 n = d at *
  have hg3 := gby_trans h1.grown (gby_trans h2.grown h3.grown)
  have hX : Rx4 w w3 b s p3 f3 a := ⟨h3.box, h3.free, hg3⟩
  have hT3 := hT.grown hg3 hGb
  clear h1 h2 h3 hg3 hT hA hF
  by_cases hfit : a + 8 + tkN s a ≤ s.size
  · have he1 := E1 (by omega)
    have he2 := E2 (by omega)
    have he3 := hn3 (by omega)
    have he4 := E3 (by omega)
    have hd : d = tkD s a := by
      rw [he4.2.2]; unfold tkD; congr 1 <;> omega
    have hp3 : p3 = ((a + 8 + tkN s a : Nat) : Int) := by omega
    have hf3 : f3 = false := by rw [he4.2.1, he2.2, he1.2]
    have hsame := tk_same hfit
    have hdz := tkD_len hfit
    rw [bl_length] at hdz
    subst hd hp3 hf3
    clear E1 E2 E3 G1 G2 G3 H2 H3 he1 he2 he3 he4 hn3
    have CF : Hid (∀ u : World, Below w3.heap.size w3 u → Calls Tryd.prog 9 #[.string (tkD s a)] u fun e w' => e = .returned (.string (str (frOf (bl (tkD s a))))) ∧ Below u.heap.size u w') := fun u hu => i_FrameOf (tkD s a) u (by omega) (hT3.below hu)
    have hq1 : (0 : Int) ≤ (a : Int) := by omega
    have hq2 : (a : Int) ≤ ((a + 8 + tkN s a : Nat) : Int) := by omega
    have hq3 : ((a + 8 + tkN s a : Nat) : Int) ≤ (s.size : Int) := by omega
    generalize hK : a + 8 + tkN s a = K at *
    go_wp2_with fail
    have hne := BW.some w3
    have x0 := fun u : BW w3 => (hX.box.ofBW u).2 0 _ rfl
    have x1 := fun u : BW w3 => (hX.box.ofBW u).2 1 _ rfl
    have x2 := fun u : BW w3 => (hX.box.ofBW u).2 2 _ rfl
    have x3 := fun u : BW w3 => (hX.box.ofBW u).2 3 _ rfl
    refine wp_region_below (by kernel_rfl) (by kernel_rfl) ?_
    repeat (go_big_quiet_step (first | (go_at_call 9; exact Calls.into (CF.out _ (BW.le _)))))
    refine wpQuiet_nil ?_
    intro _ hw'
    obtain ⟨u, hw''⟩ := hw'
    subst hw''
    clear x0 x1 x2 x3 hne
    have hXu : Rx4 w u.u b s (K : Int) false a := ⟨hX.box.ofBW u, hX.free.below u.le, gby_trans hX.grown (gby_below u.le _)⟩
    rw [← hK] at hXu
    clear hX CF hsame
    rcases Bool.eq_false_or_eq_true (tkOk s a) with hk | hk
    · rw [hk, Bool.not_true]
      go_wp2
      go_ret
      exact .inl ⟨hk, rfl, by have := hXu; push_cast at this; exact this⟩
    · rw [hk, Bool.not_false]
      go_wp2_with fail
      refine (i_giveUp s _ false a b _ hXu.box).mono ?_
      rintro e w5 ⟨rfl, rfl⟩
      go_wp2
      exact ⟨rfl, .inr ⟨hk, rfl, _, _, hXu⟩⟩
  · have hf3 : f3 = true := by
      by_cases h4 : (a : Int) + 4 ≤ s.size
      · have he1 := E1 h4
        have he3 := hn3 (by omega)
        by_cases h8 : p1 + 4 ≤ s.size
        · have he2 := E2 h8
          exact G3 (by omega)
        · exact H3 (G2 (by omega))
      · exact H3 (H2 (G1 (by omega)))
    have hno : tkOk s a = false := by
      cases e : tkOk s a
      · rfl
      · have := tkOk_in e; omega
    subst hf3
    clear E1 E2 E3 G1 G2 G3 H2 H3 hn3
    go_wp2_with fail
    have hne := BW.some w3
    have x0 := fun u : BW w3 => (hX.box.ofBW u).2 0 _ rfl
    have x1 := fun u : BW w3 => (hX.box.ofBW u).2 1 _ rfl
    have x2 := fun u : BW w3 => (hX.box.ofBW u).2 2 _ rfl
    have x3 := fun u : BW w3 => (hX.box.ofBW u).2 3 _ rfl
    refine wp_region_below (by kernel_rfl) (by kernel_rfl) ?_
    repeat (go_big_quiet_step (fail))
    refine wpQuiet_nil ?_
    intro _ hw'
    obtain ⟨u, hw''⟩ := hw'
    subst hw''
    clear x0 x1 x2 x3 hne
    have hXu : Rx4 w u.u b s p3 true a := ⟨hX.box.ofBW u, hX.free.below u.le, gby_trans hX.grown (gby_below u.le _)⟩
    go_wp2_with fail
    refine (i_giveUp s p3 true a b _ hXu.box).mono ?_
    rintro e w5 ⟨rfl, rfl⟩
    go_wp2
    exact ⟨rfl, .inr ⟨hno, rfl, _, _, hXu⟩⟩
end Go.Proofs.YteflhnmoceppgaaDoor
