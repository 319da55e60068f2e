/-
  Options that are read, by the program.
-/
import Derived.Test.YtnheppkjeoiipaaGnv7
import Derived.Test.YtnheppkjeoiipaaTabOpt
import Derived.Test.YtnheppkjeoiipaaTunAs
import Derived.WalkMore
namespace Go.Proofs.Ytnheppkjeoiipaa
open Go.RowKit Go.PlainAid
theorem ownV.kept {w w' : World} {B : Nat} {E : TypeId} {k : Nat} {v : Value} {n : Nat} {xs : List Value} {row : Option Nat} (h : ownV w B E k v n xs) (hg : w.grownBy w' row) (hne : ∀ b, B ≤ b → ¬ row = some b) : ownV w' B E k v n xs := by
  refine World.ownsRow.kept h hg ?_
  cases hv : v.ownBlock with
  | none => exact .inl rfl
  | some b => exact .inr fun e => hne b (World.ownsRow.lt h b hv).1 e.symm
theorem ownV.keptB {w w' : World} {B : Nat} {E : TypeId} {k : Nat} {v : Value} {n : Nat} {xs : List Value} {row : Option Nat} (h : ownV w B E k v n xs) (hg : w.grownBy w' row) (hne : ∀ b, v.ownBlock = some b → ¬ row = some b) : ownV w' B E k v n xs := by
  refine World.ownsRow.kept h hg ?_
  cases hv : v.ownBlock with
  | none => exact .inl rfl
  | some b => exact .inr fun e => hne b hv e.symm
theorem BxV.kept {W W' : World} {b : Nat} {vs : List Value} {r : Nat} (h : Bx W b vs) (hg : W.grownBy W' (some r)) (hr : b ≠ r) : Bx W' b vs :=
  ⟨Nat.lt_of_lt_of_le h.1 hg.size, fun i v hv => (World.cell?_of_block (w := W) (a := ⟨b, i, none⟩) (hg.block b h.1 (by simpa using hr))).trans (h.2 i v hv)⟩
theorem FxV.kept {W W' : World} {b : Nat} {r : Nat} (h : Fx W b) (hg : W.grownBy W' (some r)) (hr : b ≠ r) : Fx W' b :=
  ⟨Nat.lt_of_lt_of_le h.1 hg.size, fun j => (World.frozen?_of_block (w := W) (a := ⟨b, j, none⟩) (hg.block b h.1 (by simpa using hr))).trans (h.2 j)⟩
theorem nxP_at {s : ByteArray} {p k : Int} (h : p + k ≤ s.size) : nxP s p k = p + k := if_pos h
theorem nxF_at {s : ByteArray} {p k : Int} {f : Bool} (h : p + k ≤ s.size) : nxF s p k f = f := if_pos h
theorem nxF_past {s : ByteArray} {p k : Int} {f : Bool} (h : ¬ p + k ≤ s.size) : nxF s p k f = true := if_neg h
theorem nxF_true (s : ByteArray) (p k : Int) : nxF s p k true = true := by unfold nxF; split <;> rfl
/-- places and marks behind an option's four reads -/
theorem op_yes {s : ByteArray} {x : Nat} (h : x + 4 + opN s x ≤ s.size) : nxP s x 2 = (x : Int) + 2 ∧ nxP s ((x : Int) + 2) 1 = (x : Int) + 3 ∧ nxP s ((x : Int) + 3) 1 = (x : Int) + 4 ∧ nxP s ((x : Int) + 4) (opN s x) = ((x + 4 + opN s x : Nat) : Int) ∧ nxF s ((x : Int) + 4) (opN s x) (nxF s ((x : Int) + 3) 1 (nxF s ((x : Int) + 2) 1 (nxF s x 2 false))) = false := by
  have e1 : nxP s ((x : Int) + 2) 1 = (x : Int) + 2 + 1 := nxP_at (by omega)
  have e2 : nxP s ((x : Int) + 3) 1 = (x : Int) + 3 + 1 := nxP_at (by omega)
  have e3 : nxP s ((x : Int) + 4) (opN s x) = (x : Int) + 4 + (opN s x : Int) := nxP_at (by omega)
  have f1 : nxF s x 2 false = false := nxF_at (by omega)
  have f2 : nxF s ((x : Int) + 2) 1 false = false := nxF_at (by omega)
  have f3 : nxF s ((x : Int) + 3) 1 false = false := nxF_at (by omega)
  have f4 : nxF s ((x : Int) + 4) (opN s x) false = false := nxF_at (by omega)
  rw [e1, e2, e3, f1, f2, f3, f4]
  exact ⟨nxP_at (by omega), by omega, by omega, by omega, rfl⟩
theorem op_no {s : ByteArray} {x : Nat} (h : s.size < x + 4 + opN s x) : nxF s (nxP s (nxP s (nxP s x 2) 1) 1) (4 * numAt s (nxP s (nxP s x 2) 1) 1) (nxF s (nxP s (nxP s x 2) 1) 1 (nxF s (nxP s x 2) 1 (nxF s x 2 false))) = true := by
  by_cases h2 : (x : Int) + 2 ≤ s.size
  · rw [nxP_at h2]
    by_cases h3 : (x : Int) + 2 + 1 ≤ s.size
    · rw [nxP_at h3]
      by_cases h4 : (x : Int) + 2 + 1 + 1 ≤ s.size
      · rw [nxP_at h4]
        have e : (x : Int) + 2 + 1 = (x : Int) + 3 := by omega
        rw [e, opN_eq]
        exact nxF_past (by omega)
      · rw [nxF_past h4, nxF_true]
    · rw [nxF_past h3, nxF_true, nxF_true]
  · rw [nxF_past h2, nxF_true, nxF_true, nxF_true]
set_option maxRecDepth 100000 in
set_option maxHeartbeats 800000 in
theorem i_atEnd (s : ByteArray) (p : Int) (f : Bool) (b : Nat) (w : World) (hA : Bx w b (rdx s p f)) :
    Calls Try.prog 64 #[.pointer (some ⟨b, 0, none⟩)] w fun e w' => e = .returned (.bool (decide (p = (s.size : Int)))) ∧ Below w.heap.size w w' := by
  have hne := BW.some w
  have a0 := fun u : BW w => (hA.ofBW u).2 0 _ rfl
  have a1 := fun u : BW w => (hA.ofBW u).2 1 _ rfl
  go_enter Try.func64, Try.ntmps64
  go_wp2_with fail
  refine wp_region_below (by kernel_rfl) (by kernel_rfl) ?_
  repeat (go_big_quiet_step (fail))
  refine wpQuiet_nil ?_
  intro _ hw'
  obtain ⟨u, hw''⟩ := hw'
  subst hw''
  clear a0 a1 hne
  have hbu := u.le
  go_wp2
  go_ret
  exact ⟨ret_bool (by rw [Bool.eq_iff_iff]; simp), hbu⟩
def slLenV : Value → Nat
  | .slice _ n _ => n
  | _ => 0
/-- the reader of options, and those that were read -/
structure OpSt (B : Nat) (w wr : World) (s : ByteArray) (x : Nat) (v : Value) (A : List OpV) : Prop where
  below : Below B w wr
  eq : B = w.heap.size
  rd : Bx wr B (rdx s x false)
  fr : Fx wr B
  own : ownV wr (B + 1) 33 3 v A.length (opF A)
  le : x ≤ s.size
  cnt : 4 * A.length ≤ x
theorem oneOp (a : OpV) : ∀ u ∈ (opL a).toList, u.oneCell' = true := by
  intro u hu
  obtain ⟨c, t, d⟩ := a
  simp only [opL, List.mem_cons, List.not_mem_nil, or_false] at hu
  rcases hu with rfl | rfl | rfl <;> rfl
theorem cells_new (w : World) (vs : List Value) (t : TypeId) : CellsAt (w.alloc (.cells vs.toArray t)) (some ⟨w.heap.size, 0, none⟩) vs := by
  refine .inr ⟨w.heap.size, 0, rfl, by simp, fun i hi => ?_⟩
  rw [Nat.zero_add, World.cell?_alloc_mark]; simp
set_option maxRecDepth 100000 in
set_option maxHeartbeats 6400000 in
theorem i_optsIn (s : ByteArray) (w : World) (hs : s.size ≤ 1048576) :
    Calls Try.prog 35 #[.string s] w fun e w' => ∃ v, e = .returned v ∧ ownV w' w.heap.size 33 3 v (gL s s.size 0).1.length (opF (gL s s.size 0).1) ∧ Below w.heap.size w w' := by
  have CE : Hid (∀ (p : Int) (u : World), Bx u w.heap.size (rdx s p false) → Calls Try.prog 64 #[.pointer (some ⟨w.heap.size, 0, none⟩)] u fun e w' => e = .returned (.bool (decide (p = (s.size : Int)))) ∧ Below u.heap.size u w') := fun p u h1 => i_atEnd s p false _ u h1
  have CP : Hid (∀ (p k : Int) (f : Bool) (u : World), Bx u w.heap.size (rdx s p f) → Fx u w.heap.size → 0 ≤ p → p ≤ s.size → 0 ≤ k → k ≤ 1099511627776 → Calls Try.prog 34 #[.pointer (some ⟨w.heap.size, 0, none⟩), .int .i64 k] u fun e w' => e = .returned (.string (pieceAt s p k)) ∧ RxTo u w' w.heap.size s (nxP s p k) (nxF s p k f)) := fun p k f u h1 h2 h3 h4 h5 h6 => i_rdPiece s p k f _ u h1 h2 h3 h4 h5 h6 (by omega)
  have CN : Hid (∀ (p k : Int) (f : Bool) (u : World), Bx u w.heap.size (rdx s p f) → Fx u w.heap.size → 0 ≤ p → p ≤ s.size → 1 ≤ k → k ≤ 7 → Calls Try.prog 33 #[.pointer (some ⟨w.heap.size, 0, none⟩), .int .i64 k] u fun e w' => e = .returned (.int .i64 (numAt s p k)) ∧ RxTo u w' w.heap.size s (nxP s p k) (nxF s p k f)) := fun p k f u h1 h2 h3 h4 h5 h6 => i_rdNumber s p k f _ u h1 h2 h3 h4 h5 h6 (by omega)
  have hA0 : Bx (w.alloc (.cells #[.string s, .int .i64 0, .bool false] 59)) w.heap.size (rdx s 0 false) := Bx.new w _ _
  have hF0 : Fx (w.alloc (.cells #[.string s, .int .i64 0, .bool false] 59)) w.heap.size := Fx.new w _ _
  have hB0 : Below w.heap.size w (w.alloc (.cells #[.string s, .int .i64 0, .bool false] 59)) := (Below.refl _ w).alloc (Nat.le_refl _) _
  have HL : Hid (∀ (A : List OpV) (x : Nat), (gL s s.size 0).1 = A ++ (gL s s.size x).1 → x = s.size → (gL s s.size 0).1 = A) := fun A x h hx => by rw [h, hx, gL_done]; simp
  have HBd : Hid (∀ (A : List OpV) (x : Nat), (gL s s.size 0).1 = A ++ (gL s s.size x).1 → x ≠ s.size → s.size < x + 4 + opN s x → (gL s s.size 0).1 = A) := fun A x h hx hn => by rw [h, gL_bad hx (by unfold stepOk; rw [decide_eq_false]; omega)]; simp
  have HSt : Hid (∀ (A : List OpV) (x : Nat), (gL s s.size 0).1 = A ++ (gL s s.size x).1 → x + 4 + opN s x ≤ s.size → (gL s s.size 0).1 = (A ++ [opGet s x]) ++ (gL s s.size (x + 4 + opN s x)).1) := fun A x h hn => by rw [h, gL_step (x := x) (by unfold stepOk; rw [decide_eq_true hn])]; simp
  have H0 : Hid ((gL s s.size 0).1 = [] ++ (gL s s.size 0).1) := rfl
  go_enter Try.func35, Try.ntmps35
  go_wp2
  go_step3
  go_wp2
  go_step3
  go_wp2
  generalize hW : w.alloc _ = w0 at *
  clear hW
  have hst0 : OpSt w.heap.size w w0 s 0 (.slice none 0 0) [] := ⟨hB0, rfl, hA0, hF0, ownV.nil _ _ _ _, by omega, by simp⟩
  clear hA0 hF0 hB0
  go_loopw [3] (fun v wr => ∃ (A : List OpV) (x : Nat), OpSt w.heap.size w wr s x v A ∧ Hid ((gL s s.size 0).1 = A ++ (gL s s.size x).1)) (fun v _ => s.size - slLenV v)
  case atStart => exact ⟨[], 0, hst0, H0⟩
  case round =>
    obtain ⟨A, x, hst, HA⟩ := hrel
    obtain ⟨T, c, rfl⟩ := hst.own.form
    go_wp2_with fail
    go_at_call 64
    refine (CE.out _ _ hst.rd).mono ?_
    rintro e w1 ⟨rfl, hX⟩
    have hst1 : OpSt w.heap.size w w1 s x (.slice T A.length c) A := ⟨hst.below.trans (hX.mono hst.below.size), rfl, hst.rd.below hX, hst.fr.below hX, hst.own.far hX, hst.le, hst.cnt⟩
    clear hX hst
    have hxl := hst1.le
    have hcn := hst1.cnt
    by_cases hxe : x = s.size
    · have hd : decide ((x : Int) = (s.size : Int)) = true := by simp [hxe]
      rw [hd]
      have HR : Hid ((gL s s.size 0).1 = A) := HL.out A x HA.out hxe
      clear hd hxe
      go_wp2
      try rw [Exit.noGoto_ret]
      go_ret
      exact ⟨_, rfl, by rw [HR.out]; exact hst1.own.mono (by omega), hst1.below⟩
    · have hd : decide ((x : Int) = (s.size : Int)) = false := by simp; omega
      rw [hd]
      clear hd
      have hG : Bx (w1.alloc (.cells #[.int .i64 0, .int .i64 0, .string ⟨#[]⟩] 33)) w1.heap.size [.int .i64 0, .int .i64 0, .string ⟨#[]⟩] := Bx.new w1 _ _
      have hK : Fx (w1.alloc (.cells #[.int .i64 0, .int .i64 0, .string ⟨#[]⟩] 33)) w1.heap.size := Fx.new w1 _ _
      have hgB : w.heap.size < w1.heap.size := hst1.rd.1
      have hOL : Hid (∀ b, (Value.slice T A.length c).ownBlock = some b → w.heap.size + 1 ≤ b ∧ b < w1.heap.size) := fun b hb => World.ownsRow.lt hst1.own b hb
      have hX := (Below.refl w1.heap.size w1).alloc (Nat.le_refl _) (.cells #[.int .i64 0, .int .i64 0, .string ⟨#[]⟩] 33)
      have hB := hst1.below.trans (hX.mono hst1.below.size)
      have hR := hst1.rd.below hX
      have hF := hst1.fr.below hX
      have hO := hst1.own.far hX
      clear hX hst1
      have n1 := num1_bd s ((nxP s (nxP s x 2) 1))
      have i1 := nxP_in (s := s) (p := x) (k := 2) (by omega) (by omega) (by omega)
      have i2 := nxP_in (s := s) (p := nxP s x 2) (k := 1) i1.1 i1.2 (by omega)
      have i3 := nxP_in (s := s) (p := nxP s (nxP s x 2) 1) (k := 1) i2.1 i2.2 (by omega)
      go_wp2_with fail
      generalize hW : w1.alloc _ = w2 at *
      clear hW
      generalize w1.heap.size = g at *
      go_at_call 33
      refine (CN.out _ 2 _ _ hR hF (by omega) (by omega) (by omega) (by omega)).mono ?_
      rintro e w3 ⟨rfl, hX⟩
      replace hB := hX.beyond hB (Nat.le_refl _) hB.size
      replace hR := hX.box
      replace hF := hX.free
      replace hG := BxV.kept hG hX.grown (by omega)
      replace hK := FxV.kept hK hX.grown (by omega)
      replace hO := hO.keptB hX.grown (fun b hb => by have := hOL.out b hb; simp; omega)
      clear hX
      have a0 := hG.2 0 _ rfl
      have f0 := hK.2 0
      go_wp2_with fail
      have hX := gby_set w3 g 0 (.int .i64 (numAt s x 2))
      replace hB := hB.grown hX hB.size (fun k hk => by simp at hk; omega)
      replace hR := BxV.kept hR hX (by omega)
      replace hF := hF.put ⟨g, 0, none⟩ (.int .i64 (numAt s x 2))
      replace hG := hG.put 0 (.int .i64 (numAt s x 2))
      replace hK := hK.put ⟨g, 0, none⟩ (.int .i64 (numAt s x 2))
      replace hO := hO.keptB hX (fun b hb => by have := hOL.out b hb; simp; omega)
      clear hX a0 f0
      generalize w3.setCell ⟨g, 0, none⟩ (.int .i64 (numAt s x 2)) = w4 at *
      go_at_call 33
      refine (CN.out _ 1 _ _ hR hF i1.1 i1.2 (by omega) (by omega)).mono ?_
      rintro e w5 ⟨rfl, hX⟩
      replace hB := hX.beyond hB (Nat.le_refl _) hB.size
      replace hR := hX.box
      replace hF := hX.free
      replace hG := BxV.kept hG hX.grown (by omega)
      replace hK := FxV.kept hK hX.grown (by omega)
      replace hO := hO.keptB hX.grown (fun b hb => by have := hOL.out b hb; simp; omega)
      clear hX
      have a1 := hG.2 1 _ rfl
      have f1 := hK.2 1
      go_wp2_with fail
      have hX := gby_set w5 g 1 (.int .i64 (numAt s (nxP s x 2) 1))
      replace hB := hB.grown hX hB.size (fun k hk => by simp at hk; omega)
      replace hR := BxV.kept hR hX (by omega)
      replace hF := hF.put ⟨g, 1, none⟩ (.int .i64 (numAt s (nxP s x 2) 1))
      replace hG := hG.put 1 (.int .i64 (numAt s (nxP s x 2) 1))
      replace hK := hK.put ⟨g, 1, none⟩ (.int .i64 (numAt s (nxP s x 2) 1))
      replace hO := hO.keptB hX (fun b hb => by have := hOL.out b hb; simp; omega)
      clear hX a1 f1
      generalize w5.setCell ⟨g, 1, none⟩ (.int .i64 (numAt s (nxP s x 2) 1)) = w6 at *
      go_at_call 33
      refine (CN.out _ 1 _ _ hR hF i2.1 i2.2 (by omega) (by omega)).mono ?_
      rintro e w7 ⟨rfl, hX⟩
      replace hB := hX.beyond hB (Nat.le_refl _) hB.size
      replace hR := hX.box
      replace hF := hX.free
      replace hG := BxV.kept hG hX.grown (by omega)
      replace hK := FxV.kept hK hX.grown (by omega)
      replace hO := hO.keptB hX.grown (fun b hb => by have := hOL.out b hb; simp; omega)
      clear hX
      go_wp2_with fail
      go_at_call 34
      refine (CP.out _ _ _ _ hR hF i3.1 i3.2 (by omega) (by omega)).mono ?_
      rintro e w8 ⟨rfl, hX⟩
      replace hB := hX.beyond hB (Nat.le_refl _) hB.size
      replace hR := hX.box
      replace hF := hX.free
      replace hG := BxV.kept hG hX.grown (by omega)
      replace hK := FxV.kept hK hX.grown (by omega)
      replace hO := hO.keptB hX.grown (fun b hb => by have := hOL.out b hb; simp; omega)
      clear hX i1 i2 i3 n1 CP CN CE
      simp only [List.set_cons_zero, List.set_cons_succ] at hG
      have a2 := hG.2 2 _ rfl
      have f2 := hK.2 2
      have rd2 := hR.2 2 _ rfl
      by_cases hok : x + 4 + opN s x ≤ s.size
      · have HN : Hid ((gL s s.size 0).1 = (A ++ [opGet s x]) ++ (gL s s.size (x + 4 + opN s x)).1) := HSt.out A x HA.out hok
        obtain ⟨y1, y2, y3, y4, y5⟩ := op_yes hok
        have y6 := opN_eq s x
        rw [y1, y2, y3, y6] at hR rd2
        rw [y1] at hG
        rw [y4, y5] at hR
        rw [y5] at rd2
        rw [y1, y2, y3, y6]
        have hpc : pieceAt s ((x : Int) + 4) (opN s x) = s.extract (x + 4) (x + 4 + opN s x) := by
          unfold pieceAt; rw [if_pos (by omega)]; congr 1
        rw [hpc]
        have HG : Hid ((opL (opGet s x)).toList = [.int .i64 (numAt s x 2), .int .i64 (numAt s ((x : Int) + 2) 1), .string (s.extract (x + 4) (x + 4 + opN s x))]) := rfl
        have HF : Hid (opF (A ++ [opGet s x]) = opF A ++ (opL (opGet s x)).toList) := by show _ = _; rw [opF_app]; simp [opF, flatV]
        have hone := oneOp (opGet s x)
        have hnx := opN_le s x
        clear y1 y2 y3 y4 y5 y6 hpc HL HBd HSt H0 HA
        generalize (opGet s x) = og at *
        generalize numAt s x 2 = cls at *
        generalize numAt s ((x : Int) + 2) 1 = typ at *
        generalize s.extract (x + 4) (x + 4 + opN s x) = dat at *
        generalize hxn : x + 4 + opN s x = y at *
        have hX := gby_set w8 g 2 (.string dat)
        have a0 := hG.2 0 _ rfl
        have a1 := hG.2 1 _ rfl
        have hO9 := hO.keptB hX (fun b hb => by have := hOL.out b hb; simp; omega)
        have hB9 := hB.grown hX hB.size (fun k hk => by simp at hk; omega)
        have hR9 := BxV.kept hR hX (by omega)
        have hF9 := hF.put ⟨g, 2, none⟩ (.string dat)
        have hz9 : w.heap.size + 1 ≤ (w8.setCell ⟨g, 2, none⟩ (.string dat)).heap.size := hR9.1
        have hal : A.length ≤ 1048576 := by omega
        rw [HG.out] at hone HF
        have hcn9 := cells_new (w8.setCell ⟨g, 2, none⟩ (.string dat)) [.int .i64 cls, .int .i64 typ, .string dat] 33
        rw [show (w8.setCell ⟨g, 2, none⟩ (.string dat)).heap.size = w8.heap.size by simp] at hcn9
        clear hX hO hB hR hF hG hK
        go_wp2_with (at_builtin; refine wpList_append_vals Try.infOpt rfl _ _ rfl (w.heap.size + 1) _ _ _ rfl (hO9.alloc _) _ 1 1 [.int .i64 cls, .int .i64 typ, .string dat] rfl (by simp) rfl hone hcn9 (by omega) (by have := hz9; simp at this ⊢; omega) ?_; intro v' wA hoA hbA)
        have hbA' : Below (w.heap.size + 1) (w8.setCell ⟨g, 2, none⟩ (.string dat)) wA := ((Below.refl _ _).alloc hz9 _).trans hbA
        go_roundw
        case rel =>
          refine ⟨A ++ [og], y, ⟨hB9.trans (hbA'.mono (by omega)), rfl, ⟨Nat.lt_of_lt_of_le hR9.1 hbA'.size, fun i v hi => (hbA'.cell (p := ⟨w.heap.size, i, none⟩) (by simp)).trans (hR9.2 i v hi)⟩, ⟨Nat.lt_of_lt_of_le hF9.1 hbA'.size, fun i => (World.frozen?_of_block (a := ⟨w.heap.size, i, none⟩) (hbA'.block w.heap.size (by omega))).trans (hF9.2 i)⟩, ?_, hok, by simp; omega⟩, HN⟩
          rw [HF.out, List.length_append]; exact hoA
        case measure =>
          obtain ⟨T3, c3, rfl⟩ := hoA.form
          simp [slLenV]; omega
      · have HN : Hid ((gL s s.size 0).1 = A) := HBd.out A x HA.out hxe (by omega)
        rw [op_no (by omega)] at rd2
        clear HL HBd HSt H0 HA
        generalize nxP s (nxP s (nxP s x 2) 1) 1 = pz at *
        generalize pieceAt s pz _ = dat at *
        have hX := gby_set w8 g 2 (.string dat)
        go_wp2
        try rw [Exit.noGoto_ret]
        go_ret
        refine ⟨_, rfl, by rw [HN.out]; exact (hO.keptB hX (fun b hb => by have := hOL.out b hb; simp; omega)).mono (by omega), hB.grown hX hB.size (fun k hk => by simp at hk; omega)⟩
end Go.Proofs.Ytnheppkjeoiipaa
