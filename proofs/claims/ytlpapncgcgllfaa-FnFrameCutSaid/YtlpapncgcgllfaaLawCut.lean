/-
  The walk of the law FnFrameCut.
-/
import Derived.Test.YtlpapncgcgllfaaDrawf3
namespace Go.Proofs.Ytlpapncgcgllfaa
open Go.RowKit Go.PlainAid
theorem num_mid {a c : List UInt8} {n : Int} {k : Nat} (x : Int) (hx : x = (a.length : Int)) (hk1 : 1 ≤ k) (hk7 : k ≤ 7) (h0 : 0 ≤ n) (h1 : n < 256 ^ k) : numAt (str (a ++ be k n ++ c)) x (k : Int) = n := by
  subst hx
  rw [(okN_true (s := str (a ++ be k n ++ c)) (at_ := (a.length : Int)) (k := (k : Int)) ⟨by omega, by omega, by omega, by rw [str_size, List.length_append, List.length_append, be_length]; omega⟩).2]
  rw [bl_str, Int.toNat_natCast, Int.toNat_natCast, List.append_assoc, List.drop_left]
  have := List.take_left (l₁ := be k n) (l₂ := c)
  rw [be_length] at this
  rw [this, num_be k n h0 h1]
theorem fbytes_len0 (d s : Int) (l : List Int) (t : Int) (x : ByteArray) : (fbytes d s l t x).length = 14 + 4 * l.length + x.size := by
  unfold fbytes
  rw [List.length_append, List.length_append, fpre_length, be_length, bl_length]; omega
theorem cut_text {d s t : Int} {x : ByteArray} {k : Nat} (hk : 14 ≤ k) : (str (fbytes d s [] t x)).extract 0 k = str (be 6 d ++ be 6 s ++ be 2 t ++ (bl x).take (k - 14)) := by
  rw [str_extract, List.drop_zero, Nat.sub_zero]
  congr 1
  unfold fbytes
  rw [fpre_nil, List.take_append]
  have e : (be 6 d ++ be 6 s ++ be 2 t).length = 14 := by simp only [List.length_append, be_length]
  rw [List.take_of_length_le (by omega), e]
theorem cut_read {d s t : Int} {x : ByteArray} {k : Nat} (hf : frameB d s [] t x = true) (hk : 14 ≤ k) (hk2 : k ≤ 14 + x.size) :
    rdOk ((str (fbytes d s [] t x)).extract 0 k) = true ∧ rdFr ((str (fbytes d s [] t x)).extract 0 k) = ⟨d, s, [], t, x.extract 0 (k - 14)⟩ := by
  have hf' := hf
  unfold frameB at hf'
  simp only [Bool.and_eq_true, decide_eq_true_eq] at hf'
  obtain ⟨⟨⟨⟨m1, m2⟩, m3⟩, m5⟩, m6⟩ := hf'
  have q1 := of_inB m1
  have q2 := of_inB m2
  have m5' := m5
  unfold typeB at m5'
  rw [Bool.and_eq_true] at m5'
  have q5 := of_inB m5'.1
  have q6 : t ≠ 33024 := by simpa using m5'.2
  rw [cut_text hk]
  have hX : ((bl x).take (k - 14)).length = k - 14 := by rw [List.length_take, bl_length]; omega
  have hsz : (str (be 6 d ++ be 6 s ++ be 2 t ++ (bl x).take (k - 14))).size = k := by
    rw [str_size]; simp only [List.length_append, be_length, hX]; omega
  have e1 : numAt (str (be 6 d ++ be 6 s ++ be 2 t ++ (bl x).take (k - 14))) 0 6 = d := by
    have := num_mid (a := []) (c := be 6 s ++ (be 2 t ++ (bl x).take (k - 14))) (n := d) (k := 6) 0 rfl (by decide) (by decide) q1.1 (by omega)
    simpa using this
  have e2 : numAt (str (be 6 d ++ be 6 s ++ be 2 t ++ (bl x).take (k - 14))) 6 6 = s := by
    have := num_mid (a := be 6 d) (c := be 2 t ++ (bl x).take (k - 14)) (n := s) (k := 6) 6 (by rw [be_length]; rfl) (by decide) (by decide) q2.1 (by omega)
    simpa using this
  have e3 : numAt (str (be 6 d ++ be 6 s ++ be 2 t ++ (bl x).take (k - 14))) 12 2 = t := by
    have := num_mid (a := be 6 d ++ be 6 s) (c := (bl x).take (k - 14)) (n := t) (k := 2) 12 (by rw [List.length_append, be_length, be_length]; rfl) (by decide) (by decide) (by omega) (by omega)
    simpa using this
  have e4 : (str (be 6 d ++ be 6 s ++ be 2 t ++ (bl x).take (k - 14))).extract 14 k = x.extract 0 (k - 14) := by
    rw [str_extract]
    have e : (be 6 d ++ be 6 s ++ be 2 t).length = 14 := by simp only [List.length_append, be_length]
    have e' : List.drop 14 (be 6 d ++ be 6 s ++ be 2 t ++ (bl x).take (k - 14)) = (bl x).take (k - 14) := by
      have := List.drop_left (l₁ := be 6 d ++ be 6 s ++ be 2 t) (l₂ := (bl x).take (k - 14))
      rwa [e] at this
    rw [e', List.take_of_length_le (by omega)]
    have := str_extract (bl x) 0 (k - 14)
    rw [str_bl, List.drop_zero, Nat.sub_zero] at this
    exact this.symm
  generalize str (be 6 d ++ be 6 s ++ be 2 t ++ (bl x).take (k - 14)) = S at *
  have h14 : 14 ≤ S.size := by omega
  have hst := rd_start h14
  have hx := rd_exit (s := S) (tags := []) (a := 12) (by omega) h14 hst.2 (by rw [e3]; intro h; exact q6 h.2.1)
  have e5 : S.extract (12 + 2 : Int).toNat S.size = x.extract 0 (k - 14) := by rw [hsz]; exact e4
  rw [e1, e2, e3, e5] at hx
  have hfr : frameB d s [] t (x.extract 0 (k - 14)) = true := by
    unfold frameB
    simp only [Bool.and_eq_true, decide_eq_true_eq]
    refine ⟨⟨⟨⟨m1, m2⟩, m3⟩, m5⟩, ?_⟩
    have : (x.extract 0 (k - 14)).size ≤ x.size := by rw [ByteArray.size_extract]; omega
    omega
  have ok := hx.1.trans hfr
  exact ⟨ok, hx.2 ok⟩
theorem cut_short {d s t : Int} {x : ByteArray} {k : Nat} (hk : k < 14) : rdOk ((str (fbytes d s [] t x)).extract 0 k) = false := by
  refine rd_short ?_
  rw [ByteArray.size_extract]; omega
end Go.Proofs.Ytlpapncgcgllfaa
