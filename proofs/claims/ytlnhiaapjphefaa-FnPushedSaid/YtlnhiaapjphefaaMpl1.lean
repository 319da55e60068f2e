/-
  The bytes of an MPLS, by program and model.
-/
import Derived.Test.YtlnhiaapjphefaaLabs1
import Derived.Test.YtlnhiaapjphefaaTun1
namespace Go.Proofs.Ytlnhiaapjphefaa
open Go.RowKit Go.PlainAid
def lbN (a : LbV) (last : Bool) : Int := a.label * 4096 + a.tc * 512 + a.ttl + (if last then 256 else 0)
def mpHd (l : List LbV) (j : Nat) : List UInt8 := (List.range j).flatMap fun i => be 4 (lbN (lbA l i) (decide (i + 1 = l.length)))
def mpText (l : List LbV) (data : ByteArray) : List UInt8 := if lbsB l && carB data then mpHd l l.length ++ be 4 0 ++ bl data else []
theorem mpHd_succ (l : List LbV) (j : Nat) : mpHd l (j + 1) = mpHd l j ++ be 4 (lbN (lbA l j) (decide (j + 1 = l.length))) := by
  unfold mpHd; rw [List.range_succ, List.flatMap_append]; simp
theorem mpHd_len (l : List LbV) (j : Nat) : (mpHd l j).length = 4 * j := by
  induction j with
  | zero => rfl
  | succ j ih => rw [mpHd_succ, List.length_append, be_length, ih]; omega
theorem lbN_bd {a : LbV} (h : lbOk a = true) (b : Bool) : 0 ≤ lbN a b ∧ lbN a b < 4294967296 ∧ 0 ≤ a.label ∧ a.label ≤ 1048575 ∧ 0 ≤ a.tc ∧ a.tc ≤ 7 ∧ 0 ≤ a.ttl ∧ a.ttl ≤ 255 := by
  unfold lbOk byteB at h
  simp only [Bool.and_eq_true] at h
  obtain ⟨⟨h1, h2⟩, h3⟩ := h
  obtain ⟨a0, a1⟩ := of_inB h1
  obtain ⟨a2, a3⟩ := of_inB h2
  obtain ⟨a4, a5⟩ := of_inB h3
  unfold lbN
  cases b <;> simp <;> omega
set_option maxRecDepth 100000 in
set_option maxHeartbeats 1600000 in
theorem i_labelBytes (a : LbV) (last : Bool) (w : World) (h : lbOk a = true) : Calls Try.prog 143 #[.agg (lbL a), .bool last] w fun e w' => e = .returned (.string (str (be 4 (lbN a last)))) ∧ Below w.heap.size w w' := by
  obtain ⟨n0, n1, q0, q1, q2, q3, q4, q5⟩ := lbN_bd h last
  have CB : Hid (∀ u : World, Calls Try.prog 95 #[.int .i64 (lbN a last), .int .i64 4] u fun e w' => e = .returned (.string (str (be 4 (lbN a last)))) ∧ Below u.heap.size u w') := fun u => i_Bytes 4 _ u (by decide) (by decide) n0 (by simp only [Int.reduceToNat, Int.reducePow]; omega) (by omega)
  obtain ⟨x, y, z⟩ := a
  simp only [lbL, lbN] at *
  have hB := (Below.refl w.heap.size w).alloc (Nat.le_refl _) (.cells #[.int .i64 x, .int .i64 y, .int .i64 z] 55)
  cases last
  · simp only [Bool.false_eq_true, if_false, Int.add_zero] at *
    go_enter Try.func143, Try.ntmps143
    go_wp2_with (go_at_call 95; refine (CB.out _).mono ?_; rintro e w1 ⟨rfl, hb1⟩)
    go_ret
    exact ⟨rfl, hB.trans (hb1.mono hB.size)⟩
  · simp only [if_true] at *
    go_enter Try.func143, Try.ntmps143
    go_wp2_with (go_at_call 95; refine (CB.out _).mono ?_; rintro e w1 ⟨rfl, hb1⟩)
    go_ret
    exact ⟨rfl, hB.trans (hb1.mono hB.size)⟩
set_option maxRecDepth 100000 in
theorem i_mpRight (T : Option Addr) (c : Nat) (l : List LbV) (data : ByteArray) (w : World) (h : IntsAt w T (lbF l)) (hl : l.length ≤ 1048576) : Calls Try.prog 142 #[.agg #[.slice T l.length c, .string data]] w fun e w' => e = .returned (.bool (lbsB l)) ∧ Below w.heap.size w w' := by
  have CA : Hid (∀ u : World, Below w.heap.size w u → Calls Try.prog 72 #[.slice T l.length c] u fun e w' => e = .returned (.bool (lbsB l)) ∧ Below u.heap.size u w') := fun u hu => i_areLabels _ c l u (h.below hu) (by omega)
  have hB := (Below.refl w.heap.size w).alloc (Nat.le_refl _) (.cells #[.slice T l.length c, .string data] 96)
  go_enter Try.func142, Try.ntmps142
  go_wp2_with (go_at_call 72; refine (CA.out _ hB).mono ?_; rintro e w1 ⟨rfl, hb1⟩)
  go_ret
  exact ⟨rfl, hB.trans (hb1.mono hB.size)⟩
set_option maxRecDepth 100000 in
theorem i_mpCar (T : Option Addr) (n c : Nat) (data : ByteArray) (w : World) : Calls Try.prog 140 #[.agg #[.slice T n c, .string data]] w fun e w' => e = .returned (.string data) ∧ Below w.heap.size w w' := by
  go_enter Try.func140, Try.ntmps140
  go_wp2
  go_ret
  exact ⟨rfl, (Below.refl _ w).alloc (Nat.le_refl _) _⟩
set_option maxRecDepth 100000 in
set_option maxHeartbeats 3200000 in
theorem i_mpHead (T : Option Addr) (c : Nat) (l : List LbV) (data : ByteArray) (w : World) (h : IntsAt w T (lbF l)) (hlb : lbsB l = true) : Calls Try.prog 141 #[.agg #[.slice T l.length c, .string data]] w fun e w' => e = .returned (.string (str (mpHd l l.length ++ be 4 0))) ∧ Below w.heap.size w w' := by
  obtain ⟨hl1, hl4⟩ := lbsB_len hlb
  have hall : lbAll l = true := by unfold lbsB at hlb; rw [Bool.and_eq_true] at hlb; exact hlb.2
  have HOK : Hid (∀ i, i < l.length → lbOk (lbA l i) = true) := fun i hi => lbAll_at hall hi
  have CB : Hid (∀ u : World, Calls Try.prog 95 #[.int .i64 0, .int .i64 4] u fun e w' => e = .returned (.string (str (be 4 0))) ∧ Below u.heap.size u w') := fun u => i_Bytes 4 0 u (by decide) (by decide) (by omega) (by decide) (by omega)
  have hA : Bx (w.alloc (.cells #[.slice T l.length c, .string data] 96)) w.heap.size [.slice T l.length c, .string data] := Bx.new w _ _
  have hB : Below w.heap.size w (w.alloc (.cells #[.slice T l.length c, .string data] 96)) := (Below.refl _ w).alloc (Nat.le_refl _) _
  clear hall hlb
  go_enter Try.func141, Try.ntmps141
  go_wp2
  generalize hW : w.alloc _ = w0 at *
  clear hW
  go_loopw [9, 3] (fun i v wr => ∃ j : Nat, j ≤ l.length ∧ i = .int .i64 (j : Int) ∧ v = .string (str (mpHd l j)) ∧ Bx wr w.heap.size [.slice T l.length c, .string data] ∧ Below w.heap.size w wr) (fun i _ _ => ((l.length : Int) - intOf i).toNat)
  case atStart => exact ⟨0, by omega, rfl, rfl, hA, hB⟩
  case round =>
    obtain ⟨j, hj, rfl, rfl, hA, hB⟩ := hrel
    have hms : (mpHd l j).length = 4 * j := mpHd_len l j
    by_cases hlt : j < l.length
    · rcases h.below hB with h | ⟨g, off, rfl, hg, hc⟩
      · have := lbF_len l; rw [h] at this; simp at this; omega
      · have hj1 : (j : Int) < (l.length : Int) := by omega
        have hcs := lb_cells hc j hlt
        clear hc
        have hz := hA.1
        have HS : Hid (mpHd l (j + 1) = mpHd l j ++ be 4 (lbN (lbA l j) (decide (j + 1 = l.length)))) := mpHd_succ l j
        have CL : Hid (∀ u : World, Calls Try.prog 143 #[.agg (lbL (lbA l j)), .bool (decide (j + 1 = l.length))] u fun e w' => e = .returned (.string (str (be 4 (lbN (lbA l j) (decide (j + 1 = l.length)))))) ∧ Below u.heap.size u w') := fun u => i_labelBytes _ _ u (HOK.out j hlt)
        have hbl : (be 4 (lbN (lbA l j) (decide (j + 1 = l.length)))).length = 4 := be_length 4 _
        generalize be 4 (lbN (lbA l j) (decide (j + 1 = l.length))) = bb at *
        have hd : ((j : Int) == (l.length : Int) - 1) = decide (j + 1 = l.length) := by
          rw [Bool.eq_iff_iff, beq_iff_eq, decide_eq_true_iff]; omega
        generalize decide (j + 1 = l.length) = dl at *
        have hb2 := hB.alloc hB.size (.cells #[.int .i64 (lbA l j).label, .int .i64 (lbA l j).tc, .int .i64 (lbA l j).ttl] 55)
        have hA2 := hA.below ((Below.refl _ wr).alloc (Nat.le_refl _) (.cells #[.int .i64 (lbA l j).label, .int .i64 (lbA l j).tc, .int .i64 (lbA l j).ttl] 55))
        have a0 := hA2.2 0 _ rfl
        go_wp2_with fail
        go_at_call 143
        refine (CL.out _).mono ?_
        rintro e w2 ⟨rfl, hb3⟩
        have hB3 := hb2.trans (hb3.mono hb2.size)
        have hA3 := hA2.below hb3
        clear a0 hb3 hA2 hA
        go_wp2
        go_roundw
        case rel => exact ⟨j + 1, by omega, by go_num, by rw [HS.out, ← str_app], hA3, hB3⟩
        case measure => simp [intOf]; omega
    · have e : j = l.length := by omega
      subst e
      have b4 : (be 4 0).length = 4 := be_length 4 0
      go_wp2_with (go_at_call 95; refine (CB.out _).mono ?_; rintro e w1 ⟨rfl, hb1⟩)
      go_ret
      exact ⟨ret_strb (str_app _ _), hB.trans (hb1.mono hB.size)⟩
end Go.Proofs.Ytlnhiaapjphefaa
