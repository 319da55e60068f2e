/-
  What is read as a VXLAN, by program and model; the exact law on it.
-/
import Derived.Test.YtlnhiaapjphefaaRdr
import Derived.Test.YtlnhiaapjphefaaTun1
import Derived.Test.YtlnhiaapjphefaaTunAs
namespace Go.Proofs.Ytlnhiaapjphefaa
open Go.RowKit Go.PlainAid
theorem beq_str0 {T s : ByteArray} (h : T = s) : (T.toList == s.toList) = true := by rw [h]; simp
def faultVx (net : Int) (data s : ByteArray) : Int := if str (vxText net data) = s then 0 else 2
set_option maxRecDepth 100000 in
set_option maxHeartbeats 1600000 in
theorem i_faultVx (net : Int) (data s : ByteArray) (w : World) (hd : data.size ≤ 1099511627776) : Calls Try.prog 53 #[.iface 68 (.agg #[.int .i64 net, .string data]), .string s] w fun e w' => e = .returned (.int .i64 (faultVx net data s)) ∧ Below w.heap.size w w' := by
  have C : Hid (∀ u : World, Calls Try.prog 47 #[.iface 68 (.agg #[.int .i64 net, .string data])] u fun e w' => e = .returned (.string (str (vxText net data))) ∧ Below u.heap.size u w') := fun u => i_tunVx net data u hd
  have HF : Hid (faultVx net data s = if str (vxText net data) = s then 0 else 2) := rfl
  generalize faultVx net data s = fv at *
  generalize str (vxText net data) = tx at *
  by_cases h : tx = s
  · have hb := beq_str0 h
    rw [if_pos h] at HF
    clear h
    go_enter Try.func53, Try.ntmps53
    go_wp2_with fail
    go_at_call 47
    refine (C.out _).mono ?_
    rintro e w1 ⟨rfl, hb1⟩
    have t1 := as_vx_ge (.agg #[.int .i64 net, .string data]) w1
    have t2 := as_vx_gr (.agg #[.int .i64 net, .string data]) w1
    have t3 := as_vx_vx (.agg #[.int .i64 net, .string data]) w1
    have t4 := as_vx_mp (.agg #[.int .i64 net, .string data]) w1
    go_wp2
    go_ret
    exact ⟨ret_i64 HF.out.symm, hb1⟩
  · have hb := str_ne h
    rw [if_neg h] at HF
    clear h
    go_enter Try.func53, Try.ntmps53
    go_wp2_with fail
    go_at_call 47
    refine (C.out _).mono ?_
    rintro e w1 ⟨rfl, hb1⟩
    go_wp2
    go_ret
    exact ⟨ret_i64 HF.out.symm, hb1⟩
def vxGood (s : ByteArray) : Bool := decide (8 ≤ s.size) && decide (str (vxText (numAt s 4 3) (s.extract 8 s.size)) = s)
def rvN (s : ByteArray) : Int := if vxGood s then numAt s 4 3 else 0
def rvD (s : ByteArray) : ByteArray := if vxGood s then s.extract 8 s.size else ⟨#[]⟩
theorem vx_no {s : ByteArray} (h : vxGood s = false) : rvN s = 0 ∧ rvD s = ⟨#[]⟩ := by unfold rvN rvD; rw [h]; exact ⟨rfl, rfl⟩
theorem vx_yes {s : ByteArray} (h : vxGood s = true) : rvN s = numAt s 4 3 ∧ rvD s = s.extract 8 s.size := by unfold rvN rvD; rw [h]; exact ⟨rfl, rfl⟩
theorem nxP_yes {s : ByteArray} {p k : Int} (h : p + k ≤ s.size) : nxP s p k = p + k := if_pos h
theorem nxF_yes {s : ByteArray} {p k : Int} {f : Bool} (h : p + k ≤ s.size) : nxF s p k f = f := if_pos h
set_option maxRecDepth 100000 in
set_option maxHeartbeats 3200000 in
theorem i_ReadVxlan (s : ByteArray) (w : World) (hs : s.size ≤ 1099511627776) : Calls Try.prog 14 #[.string s] w fun e w' => e = .returned (.tuple #[.int .i64 (rvN s), .string (rvD s), .bool (vxGood s)]) ∧ Below w.heap.size w w' := by
  have CP : Hid (∀ (p k : Int) (f : Bool) (u : World), Bx u w.heap.size (rdx s p f) → Fx u w.heap.size → 0 ≤ p → p ≤ s.size → 0 ≤ k → k ≤ 1099511627776 → Calls Try.prog 50 #[.pointer (some ⟨w.heap.size, 0, none⟩), .int .i64 k] u fun e w' => e = .returned (.string (pieceAt s p k)) ∧ RxTo u w' w.heap.size s (nxP s p k) (nxF s p k f)) := fun p k f u h1 h2 h3 h4 h5 h6 => i_rdPiece s p k f _ u h1 h2 h3 h4 h5 h6 hs
  have CN : Hid (∀ (p k : Int) (f : Bool) (u : World), Bx u w.heap.size (rdx s p f) → Fx u w.heap.size → 0 ≤ p → p ≤ s.size → 1 ≤ k → k ≤ 7 → Calls Try.prog 51 #[.pointer (some ⟨w.heap.size, 0, none⟩), .int .i64 k] u fun e w' => e = .returned (.int .i64 (numAt s p k)) ∧ RxTo u w' w.heap.size s (nxP s p k) (nxF s p k f)) := fun p k f u h1 h2 h3 h4 h5 h6 => i_rdNumber s p k f _ u h1 h2 h3 h4 h5 h6 hs
  have CR : Hid (∀ (p : Int) (f : Bool) (u : World), Bx u w.heap.size (rdx s p f) → 0 ≤ p → p ≤ s.size → Calls Try.prog 52 #[.pointer (some ⟨w.heap.size, 0, none⟩)] u fun e w' => e = .returned (.string (s.extract p.toNat s.size)) ∧ Below u.heap.size u w') := fun p f u h1 h2 h3 => i_rdRest s p f _ u h1 h2 h3 hs
  have hA : Bx (w.alloc (.cells #[.string s, .int .i64 0, .bool false] 73)) w.heap.size (rdx s 0 false) := Bx.new w _ _
  have hF : Fx (w.alloc (.cells #[.string s, .int .i64 0, .bool false] 73)) w.heap.size := Fx.new w _ _
  have hB : Below w.heap.size w (w.alloc (.cells #[.string s, .int .i64 0, .bool false] 73)) := (Below.refl _ w).alloc (Nat.le_refl _) _
  have i1 := nxP_in (s := s) (p := 0) (k := 4) (by omega) (by omega) (by omega)
  have i2 := nxP_in (s := s) (p := nxP s 0 4) (k := 3) i1.1 i1.2 (by omega)
  have i3 := nxP_in (s := s) (p := nxP s (nxP s 0 4) 3) (k := 1) i2.1 i2.2 (by omega)
  have HG : Hid (8 ≤ s.size → nxP s 0 4 = 4 ∧ nxP s (nxP s 0 4) 3 = 7 ∧ nxP s (nxP s (nxP s 0 4) 3) 1 = 8 ∧ nxF s (nxP s (nxP s 0 4) 3) 1 (nxF s (nxP s 0 4) 3 (nxF s 0 4 false)) = false) := fun h => by
    have e1 : nxP s 0 4 = 4 := nxP_yes (by omega)
    have e2 : nxP s 4 3 = 7 := nxP_yes (by omega)
    have e3 : nxP s 7 1 = 8 := nxP_yes (by omega)
    have f1 : nxF s 0 4 false = false := nxF_yes (by omega)
    have f2 : nxF s 4 3 false = false := nxF_yes (by omega)
    have f3 : nxF s 7 1 false = false := nxF_yes (by omega)
    rw [e1, e2, e3, f1, f2, f3]; exact ⟨rfl, rfl, rfl, rfl⟩
  have HQ : Hid (¬ 8 ≤ s.size → nxF s (nxP s (nxP s 0 4) 3) 1 (nxF s (nxP s 0 4) 3 (nxF s 0 4 false)) = true) := fun h => by
    unfold nxF nxP
    by_cases h1 : (0 : Int) + 4 ≤ s.size
    · by_cases h2 : (0 : Int) + 4 + 3 ≤ s.size
      · have h3 : ¬ ((0 : Int) + 4 + 3 + 1 ≤ s.size) := by omega
        simp only [if_pos h1, if_pos h2, if_neg h3]
      · simp only [if_pos h1, if_neg h2]; split <;> rfl
    · simp only [if_neg h1]; split <;> split <;> rfl
  go_enter Try.func14, Try.ntmps14
  go_wp2_with fail
  go_at_call 50
  refine (CP.out 0 4 false _ hA hF (by omega) (by omega) (by omega) (by omega)).mono ?_
  rintro e w1 ⟨rfl, hR1⟩
  replace hB := hR1.beyond hB (Nat.le_refl _) hB.size
  clear hA hF
  go_wp2_with fail
  go_at_call 51
  refine (CN.out _ 3 _ _ hR1.box hR1.free i1.1 i1.2 (by omega) (by omega)).mono ?_
  rintro e w2 ⟨rfl, hR2⟩
  replace hB := hR2.beyond hB (Nat.le_refl _) hB.size
  clear hR1
  go_wp2_with fail
  go_at_call 50
  refine (CP.out _ 1 _ _ hR2.box hR2.free i2.1 i2.2 (by omega) (by omega)).mono ?_
  rintro e w3 ⟨rfl, hR3⟩
  replace hB := hR3.beyond hB (Nat.le_refl _) hB.size
  clear hR2
  go_wp2_with fail
  go_at_call 52
  refine (CR.out _ _ _ hR3.box i3.1 i3.2).mono ?_
  rintro e w4 ⟨rfl, hb4⟩
  have hA := hR3.box.below hb4
  replace hB := hB.trans (hb4.mono hB.size)
  clear hR3 hb4 CP CN CR i1 i2 i3
  have a2 := hA.2 2 _ rfl
  by_cases h8 : 8 ≤ s.size
  · obtain ⟨e1, e2, e3, e4⟩ := HG.out h8
    rw [e4] at a2
    rw [e3, e1]
    clear HG HQ e1 e2 e3 e4 hA
    have hdz : (s.extract 8 s.size).size ≤ 1099511627776 := by simp; omega
    have CF : Hid (∀ u : World, Calls Try.prog 53 #[.iface 68 (.agg #[.int .i64 (numAt s 4 3), .string (s.extract 8 s.size)]), .string s] u fun e w' => e = .returned (.int .i64 (faultVx (numAt s 4 3) (s.extract 8 s.size) s)) ∧ Below u.heap.size u w') := fun u => i_faultVx _ _ s u hdz
    have HT : Hid (vxGood s = decide (str (vxText (numAt s 4 3) (s.extract 8 s.size)) = s)) := by show _ = _; unfold vxGood; rw [decide_eq_true h8]; rfl
    have HFv : Hid (faultVx (numAt s 4 3) (s.extract 8 s.size) s = if str (vxText (numAt s 4 3) (s.extract 8 s.size)) = s then 0 else 2) := rfl
    have HY : Hid (vxGood s = true → rvN s = numAt s 4 3 ∧ rvD s = s.extract 8 s.size) := fun h => vx_yes h
    have HZ : Hid (vxGood s = false → rvN s = 0 ∧ rvD s = ⟨#[]⟩) := fun h => vx_no h
    generalize faultVx (numAt s 4 3) (s.extract 8 s.size) s = fv at *
    generalize str (vxText (numAt s 4 3) (s.extract 8 s.size)) = tx at *
    simp only [Int.reduceToNat]
    generalize numAt s 4 3 = nt at *
    generalize s.extract 8 s.size = da at *
    by_cases hq : tx = s
    · have hfv : fv = 0 := by rw [HFv.out, if_pos hq]
      have hvg : vxGood s = true := by rw [HT.out, decide_eq_true hq]
      subst hfv
      have YY : Hid (rvN s = nt ∧ rvD s = da ∧ vxGood s = true) := ⟨(HY.out hvg).1, (HY.out hvg).2, hvg⟩
      clear hvg
      clear HFv HT HY HZ hq
      go_wp2_with (go_at_call 53; refine (CF.out _).mono ?_; rintro e w5 ⟨rfl, hb5⟩)
      go_ret3
      exact ⟨by rw [YY.out.1, YY.out.2.1, YY.out.2.2]; rfl, hB.trans (hb5.mono hB.size)⟩
    · have hfv : fv = 2 := by rw [HFv.out, if_neg hq]
      have hvg : vxGood s = false := by rw [HT.out, decide_eq_false hq]
      subst hfv
      have YY : Hid (rvN s = 0 ∧ rvD s = ⟨#[]⟩ ∧ vxGood s = false) := ⟨(HZ.out hvg).1, (HZ.out hvg).2, hvg⟩
      clear hvg
      clear HFv HT HY HZ hq
      go_wp2_with (go_at_call 53; refine (CF.out _).mono ?_; rintro e w5 ⟨rfl, hb5⟩)
      go_ret3
      exact ⟨by rw [YY.out.1, YY.out.2.1, YY.out.2.2]; rfl, hB.trans (hb5.mono hB.size)⟩
  · rw [HQ.out h8] at a2
    have hvg : vxGood s = false := by unfold vxGood; rw [decide_eq_false h8]; rfl
    have YY : Hid (rvN s = 0 ∧ rvD s = ⟨#[]⟩ ∧ vxGood s = false) := ⟨(vx_no hvg).1, (vx_no hvg).2, hvg⟩
    clear HG HQ hA hvg
    generalize nxP s (nxP s (nxP s 0 4) 3) 1 = pp at *
    generalize numAt s (nxP s 0 4) 3 = nn at *
    go_wp2
    go_ret3
    exact ⟨by rw [YY.out.1, YY.out.2.1, YY.out.2.2]; rfl, hB⟩
set_option maxRecDepth 100000 in
set_option maxHeartbeats 3200000 in
theorem s_ReadVxlan (s : ByteArray) (w : World) (hs : s.size ≤ 1099511627776) : Calls Try.prog 15 #[.string s] w fun e w' => e = .returned (.tuple #[.int .i64 (rvN s), .string (rvD s), .bool (vxGood s)]) ∧ Below w.heap.size w w' := by
  by_cases h8 : 8 ≤ s.size
  · have hdz : (s.extract 8 s.size).size ≤ 1099511627776 := by simp; omega
    have hnum : num (((bl s).drop (4 : Int).toNat).take (3 : Int).toNat) = numAt s 4 3 := (okN_true ⟨by omega, by omega, by omega, by omega⟩).2.symm
    have CA : Hid (∀ u : World, Calls Try.prog 54 #[.string s, .int .i64 4, .int .i64 3] u fun e w' => e = .returned (.int .i64 (numAt s 4 3)) ∧ w' = u) := fun u => by
      have := s_At s 4 3 u (by unfold maxLen; omega) (by omega) (by omega) (by omega) (by omega)
      rw [hnum] at this; exact this
    have CV : Hid (∀ u : World, Calls Try.prog 16 #[.int .i64 (numAt s 4 3), .string (s.extract 8 s.size)] u fun e w' => e = .returned (.string (str (vxText (numAt s 4 3) (s.extract 8 s.size)))) ∧ Below u.heap.size u w') := fun u => s_VxlanBytes _ _ u hdz
    have HT : Hid (vxGood s = decide (str (vxText (numAt s 4 3) (s.extract 8 s.size)) = s)) := by show _ = _; unfold vxGood; rw [decide_eq_true h8]; rfl
    have HY : Hid (vxGood s = true → rvN s = numAt s 4 3 ∧ rvD s = s.extract 8 s.size) := fun h => vx_yes h
    have HZ : Hid (vxGood s = false → rvN s = 0 ∧ rvD s = ⟨#[]⟩) := fun h => vx_no h
    generalize str (vxText (numAt s 4 3) (s.extract 8 s.size)) = tx at *
    generalize vxGood s = vg at *
    have h8i : (8 : Int) ≤ (s.size : Int) := by omega
    clear hnum hdz
    generalize numAt s 4 3 = nt at *
    by_cases hq : tx = s
    · have hb := beq_str0 hq
      have hvg : vg = true := by rw [HT.out, decide_eq_true hq]
      subst hvg
      obtain ⟨y1, y2⟩ := HY.out rfl
      rw [y1, y2]
      clear HT HY HZ y1 y2 hq
      go_enter Try.func15, Try.ntmps15
      go_wp2_with fail
      go_at_call 54
      refine (CA.out _).mono ?_
      rintro e wz ⟨rfl, hz⟩
      rw [hz]
      clear hz wz
      go_wp2_with fail
      go_at_call 16
      refine (CV.out _).mono ?_
      rintro e w1 ⟨rfl, hb1⟩
      go_wp2_with fail
      go_quiet (fail)
      go_wp2
      go_ret3
      exact ⟨rfl, hb1.trans (⟨rfl, rfl, rfl, Nat.le_refl _, fun _ _ => rfl⟩)⟩
    · have hb := str_ne hq
      have hvg : vg = false := by rw [HT.out, decide_eq_false hq]
      subst hvg
      obtain ⟨y1, y2⟩ := HZ.out rfl
      rw [y1, y2]
      clear HT HY HZ y1 y2 hq
      go_enter Try.func15, Try.ntmps15
      go_wp2_with fail
      go_at_call 54
      refine (CA.out _).mono ?_
      rintro e wz ⟨rfl, hz⟩
      rw [hz]
      clear hz wz
      go_wp2_with fail
      go_at_call 16
      refine (CV.out _).mono ?_
      rintro e w1 ⟨rfl, hb1⟩
      go_wp2
      go_ret3
      exact ⟨rfl, hb1⟩
  · have hvg : vxGood s = false := by unfold vxGood; rw [decide_eq_false h8]; rfl
    obtain ⟨y1, y2⟩ := vx_no hvg
    rw [hvg, y1, y2]
    clear y1 y2 hvg
    have h8i : (s.size : Int) < 8 := by omega
    go_enter Try.func15, Try.ntmps15
    go_wp2
    go_ret3
    exact ⟨rfl, Below.refl _ _⟩
end Go.Proofs.Ytlnhiaapjphefaa
