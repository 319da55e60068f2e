/-
  Labels and bytes come back from an MPLS: plain facts; labels held against labels.
-/
import Derived.Test.YtlnhiaapjphefaaDlab
import Derived.Test.YtlnhiaapjphefaaMpl5
import Derived.Laws.StructEq
import Derived.Deep.QuietTactic
namespace Go.Proofs.Ytlnhiaapjphefaa
open Go.RowKit Go.PlainAid
theorem mpHd_cut (l : List LbV) (i m : Nat) : ∃ tl, mpHd l (i + 1 + m) = mpHd l i ++ be 4 (lbN (lbA l i) (decide (i + 1 = l.length))) ++ tl := by
  induction m with
  | zero => exact ⟨[], by rw [Nat.add_zero, mpHd_succ, List.append_nil]⟩
  | succ m ih =>
    obtain ⟨tl, e⟩ := ih
    exact ⟨tl ++ be 4 (lbN (lbA l (i + 1 + m)) (decide (i + 1 + m + 1 = l.length))), by rw [← Nat.add_assoc, mpHd_succ, e]; simp only [List.append_assoc]⟩
theorem mp_numAt (l : List LbV) (r : List UInt8) (i : Nat) (hi : i < l.length) (hok : lbOk (lbA l i) = true) : numAt (str (mpHd l l.length ++ r)) (4 * (i : Int)) 4 = lbN (lbA l i) (decide (i + 1 = l.length)) := by
  obtain ⟨tl, e⟩ := mpHd_cut l i (l.length - i - 1)
  rw [show i + 1 + (l.length - i - 1) = l.length by omega] at e
  have hli := mpHd_len l i
  have hbe := be_length 4 (lbN (lbA l i) (decide (i + 1 = l.length)))
  have hsz : 4 * (i : Int) + 4 ≤ (str (mpHd l l.length ++ r)).size := by
    rw [str_size, List.length_append, mpHd_len]; omega
  rw [(okN_true (s := str (mpHd l l.length ++ r)) (at_ := 4 * (i : Int)) (k := 4) ⟨by omega, by omega, by omega, hsz⟩).2, bl_str, e]
  have et : (4 * (i : Int)).toNat = 4 * i := by omega
  have e4 : (4 : Int).toNat = 4 := rfl
  rw [et, e4, List.append_assoc, List.append_assoc]
  rw [List.drop_append_of_le_length (by omega), List.drop_of_length_le (by omega), List.nil_append, List.take_append_of_le_length (by omega), List.take_of_length_le (by omega)]
  obtain ⟨n0, n1, _⟩ := lbN_bd hok (decide (i + 1 = l.length))
  exact num_be 4 _ n0 (by omega)
theorem mlab_lbN {a : LbV} (h : lbOk a = true) (b : Bool) : mlab (lbN a b) = a ∧ decide (lbN a b / 256 % 2 = 1) = b := by
  obtain ⟨_, _, q0, q1, q2, q3, q4, q5⟩ := lbN_bd h b
  obtain ⟨x, y, z⟩ := a
  simp only [] at q0 q1 q2 q3 q4 q5
  unfold mlab lbN
  cases b
  · simp only [Bool.false_eq_true, if_false, Int.add_zero]
    refine ⟨?_, decide_eq_false (by omega)⟩
    rw [show (x * 4096 + y * 512 + z) / 4096 = x by omega, show (x * 4096 + y * 512 + z) / 512 % 8 = y by omega, show (x * 4096 + y * 512 + z) % 256 = z by omega]
  · simp only [if_true]
    refine ⟨?_, decide_eq_true (by omega)⟩
    rw [show (x * 4096 + y * 512 + z + 256) / 4096 = x by omega, show (x * 4096 + y * 512 + z + 256) / 512 % 8 = y by omega, show (x * 4096 + y * 512 + z + 256) % 256 = z by omega]
theorem mp_yes2 (l : List LbV) (d : ByteArray) (h : (lbsB l && carB d) = true) : mpC (str (mpText l d)) = 0 ∧ mpR (str (mpText l d)) = l ∧ mpD (str (mpText l d)) = d ∧ ¬ str (mpText l d) = ⟨#[]⟩ := by
  have e : mpText l d = mpHd l l.length ++ (be 4 0 ++ bl d) := by unfold mpText; rw [h, if_pos rfl, List.append_assoc]
  have h2 := h
  rw [Bool.and_eq_true] at h2
  obtain ⟨hl1, hl4⟩ := lbsB_len h2.1
  have hall : lbAll l = true := by have := h2.1; unfold lbsB at this; rw [Bool.and_eq_true] at this; exact this.2
  have hN : ∀ i, i < l.length → numAt (str (mpText l d)) (4 * (i : Int)) 4 = lbN (lbA l i) (decide (i + 1 = l.length)) := fun i hi => by
    rw [e]; exact mp_numAt l _ i hi (lbAll_at hall hi)
  have hlast : ∀ i, i < l.length → lastAt (str (mpText l d)) i = decide (i + 1 = l.length) := fun i hi => by
    unfold lastAt; rw [hN i hi]; exact (mlab_lbN (lbAll_at hall hi) _).2
  have hm : mcnt (str (mpText l d)) = l.length := by
    have := mcnt_at (str (mpText l d)) (l.length - 1) (by omega) (fun i hi => by rw [hlast i (by omega)]; exact decide_eq_false (by omega)) (by rw [hlast _ (by omega)]; exact decide_eq_true (by omega))
    omega
  have hL : labsOf (str (mpText l d)) l.length = l := by
    apply List.ext_getElem
    · rw [labsOf_len]
    · intro i h1 h3
      simp only [labsOf, List.getElem_map, List.getElem_range]
      rw [hN i h3, (mlab_lbN (lbAll_at hall h3) _).1, lbA_eq l i h3]
  have hsz : (str (mpText l d)).size = 4 * l.length + 4 + d.size := by rw [e, str_size, List.length_append, List.length_append, mpHd_len, be_length, bl_length]; omega
  have hd : mdat (str (mpText l d)) = d := by
    unfold mdat
    rw [hm, hsz, e, str_extract, ← List.append_assoc]
    have hh : (mpHd l l.length ++ be 4 0).length = 4 * l.length + 4 := by rw [List.length_append, mpHd_len, be_length]
    rw [List.drop_append_of_le_length (by omega), List.drop_of_length_le (by omega), List.nil_append, List.take_of_length_le (by rw [bl_length]; omega), str_bl]
  have hc : mpC (str (mpText l d)) = 0 := by
    unfold mpC; rw [hm, hL, hd, if_pos (by omega), if_pos rfl]
  obtain ⟨y1, y2, _⟩ := mp_yes hc
  refine ⟨hc, by rw [y1, hm, hL], by rw [y2, hd], fun hh => ?_⟩
  rw [hh] at hsz
  have : (⟨#[]⟩ : ByteArray).size = 0 := rfl
  omega
theorem mp_no2 (l : List LbV) (d : ByteArray) (h : (lbsB l && carB d) = false) : str (mpText l d) = ⟨#[]⟩ := by
  have e : mpText l d = [] := by unfold mpText; rw [h]; rfl
  rw [e]
theorem mp_again {t : ByteArray} (h : mpC t = 0) : str (mpText (mpR t) (mpD t)) = t ∧ (mpD t).size ≤ t.size := by
  obtain ⟨y1, y2, _⟩ := mp_yes h
  rw [y1, y2]
  unfold mpC at h
  by_cases h1 : 4 * mcnt t + 4 ≤ t.size
  · rw [if_pos h1] at h
    by_cases h2 : str (mpText (labsOf t (mcnt t)) (mdat t)) = t
    · exact ⟨h2, by unfold mdat; simp⟩
    · rw [if_neg h2] at h; omega
  · rw [if_neg h1] at h; omega
theorem mpText_len (l : List LbV) (d : ByteArray) (hl : l.length ≤ 5) : (mpText l d).length ≤ d.size + 24 := by
  unfold mpText; split
  · simp only [List.length_append, be_length, bl_length, mpHd_len]; omega
  · simp
theorem neLabel (a b c : Int) (w : World) : (binOp .neq 55 (.agg #[.int .i64 a, .int .i64 b, .int .i64 c]) (.agg #[.int .i64 a, .int .i64 b, .int .i64 c])).run Try.prog w = .ok (.bool false) w := by
  have u3 := Try.underlying2
  have a3 := Try.isAgg2
  have z3 := Try.sizeOf2
  have hS : Try.prog.underlying 55 = some (.struct (Try.prog.fieldsOf 55)) := by kernel_rfl
  have hp : Try.prog.stoodInHeld 55 = false := by kernel_rfl
  rw [run_neq_struct w, show (10000 : Nat) = 9999 + 1 from rfl, run_equalIn_agg w 9999 55 _ _ hS hp]
  simp only [Program.fieldsOf, Try.underlying55]
  go_simp
set_option maxRecDepth 100000 in
set_option maxHeartbeats 1600000 in
theorem l_sameLabels (T U : Option Addr) (c e : Nat) (l : List LbV) (w : World) (h : IntsAt w T (lbF l)) (k : IntsAt w U (lbF l)) (hl : l.length ≤ 1099511627776) :
    Calls Try.prog 38 #[.slice T l.length c, .slice U l.length e] w fun e w' => e = .returned (.bool true) ∧ Below w.heap.size w w' := by
  have hnn : ((l.length : Int) != (l.length : Int)) = false := by simp
  go_enter Try.func38, Try.ntmps38
  go_wp2
  go_loopw [5] (fun i wr => ∃ j : Nat, j ≤ l.length ∧ i = .int .i64 (j : Int) ∧ Below w.heap.size w wr) (fun i _ => ((l.length : Int) - intOf i).toNat)
  case atStart => exact ⟨0, by omega, rfl, Below.refl _ _⟩
  case round =>
    obtain ⟨j, hj, rfl, hb⟩ := hrel
    by_cases hlt : j < l.length
    · rcases h.below hb with h | ⟨g, off, rfl, hg, hc⟩
      · have := lbF_len l; rw [h] at this; simp at this; omega
      · rcases k.below hb with k | ⟨g2, off2, rfl, hg2, hc2⟩
        · have := lbF_len l; rw [k] at this; simp at this; omega
        · have hj1 : (j : Int) < (l.length : Int) := by omega
          have hcs := lb_cells hc j hlt
          have hcs2 := lb_cells hc2 j hlt
          clear hc hc2
          generalize lbA l j = b at *
          obtain ⟨x, y, z⟩ := b
          have hq := neLabel x y z
          go_wp2_with fail
          go_quiet (fail)
          go_wp2
          go_roundw
          case rel => exact ⟨j + 1, by omega, by go_num, hb.trans ⟨rfl, rfl, rfl, Nat.le_refl _, fun _ _ => rfl⟩⟩
          case measure => simp [intOf]; omega
    · go_wp2
      go_ret
      exact ⟨rfl, hb⟩
set_option maxRecDepth 100000 in
set_option maxHeartbeats 800000 in
theorem d_MplsBytes (B : Nat) (C : Option Addr) (len cap : Nat) (w : World) (h : Code w B C len) :
    Calls Try.prog 32 #[.slice C len cap] w fun e w' => ∃ (v : Value) (l : List LbV) (t : ByteArray), e = .returned (.tuple #[v, .string t]) ∧ ownR w' w.heap.size 55 3 v l.length (lbF l) ∧ l.length ≤ 5 ∧ t.size ≤ 65100 ∧ Below w.heap.size w w' := by
  go_enter Try.func32, Try.ntmps32
  go_wp2_with fail
  refine (r_Open B C len cap _ h).mono ?_
  rintro e w1 ⟨rfl, hR1, hb1, hs1⟩
  go_wp2_with fail
  refine (r_labels _ C len cap _ hR1).mono ?_
  rintro e w2 ⟨v, l, rfl, ho, hl1, hl5, hR2, hO2⟩
  go_wp2_with fail
  refine (r_data _ C len cap _ hR2).mono ?_
  rintro e w3 ⟨t, rfl, ht, hR3, hO3⟩
  have ho3 := own_kept ho hO3 (fun k hk => by have := (World.ownsRow.lt ho k hk).1; simp; omega)
  go_wp2
  go_ret2
  exact ⟨v, l, t, rfl, ho3.mono (by omega), hl5, ht, hb1.trans ((hO2.trans hO3).below (Nat.le_refl _) hb1.size)⟩
set_option maxRecDepth 100000 in
set_option maxHeartbeats 800000 in
theorem d_ReadMpls (B : Nat) (C : Option Addr) (len cap : Nat) (w : World) (h : Code w B C len) :
    Calls Try.prog 34 #[.slice C len cap] w fun e w' => ∃ t : ByteArray, e = .returned (.string t) ∧ t.size ≤ 100 ∧ Below w.heap.size w w' := by
  go_enter Try.func34, Try.ntmps34
  go_wp2_with fail
  refine (r_Open B C len cap _ h).mono ?_
  rintro e w1 ⟨rfl, hR1, hb1, hs1⟩
  go_wp2_with fail
  refine (r_labels _ C len cap _ hR1).mono ?_
  rintro e w2 ⟨v, l, rfl, ho, hl1, hl5, hR2, hO2⟩
  obtain ⟨T, c, rfl⟩ := ho.form
  go_wp2_with fail
  refine (r_bytes _ C len cap _ _ (by omega) (by omega) hR2).mono ?_
  rintro e w3 ⟨m, rfl, hm, hR3, hO3⟩
  have ho3 := own_kept ho hO3 (fun k hk => by have := (World.ownsRow.lt ho k hk).1; simp; omega)
  have hsl : (str m).size ≤ 30 := by rw [str_size]; omega
  go_wp2_with fail
  refine (s_MplsBytes T c l (str m) _ ho3.reads.2 (by omega) (by omega)).mono ?_
  rintro e w4 ⟨rfl, hb4⟩
  have hvl := mpText_len l (str m) hl5
  have hvs : (str (mpText l (str m))).size ≤ 54 := by rw [str_size]; omega
  go_wp2_with fail
  refine (r_bent _ C len cap _ _ (by omega) (hR3.far hb4)).mono ?_
  rintro e w5 ⟨t, rfl, ht, hR5, hO5⟩
  go_wp2
  go_ret
  exact ⟨t, rfl, by omega, hb1.trans ((((hO2.trans hO3).trans (below_only hb4)).trans hO5).below (Nat.le_refl _) hb1.size)⟩
end Go.Proofs.Ytlnhiaapjphefaa
