/-
  What is read of a datagram, written again: the same bytes but the sum's.
-/
import Derived.Test.YtgknkhhoelgnhaaDoorIpRd5
namespace Go.Proofs.YtgknkhhoelgnhaaDoor
open Go.RowKit Go.PlainAid
theorem be_fld (s : ByteArray) (a k : Nat) (h : a + k ≤ s.size) : be k (fld s (a : Int) (k : Int)) = ((bl s).drop a).take k := by
  have : be k (num (((bl s).drop ((a : Int)).toNat).take ((k : Int)).toNat)) = _ := be_num_of k _ (by rw [List.length_take, List.length_drop, bl_length]; simp only [Int.toNat_natCast]; omega)
  simp only [Int.toNat_natCast] at this
  exact this
theorem opts_size (s : ByteArray) (h : hdr s ≤ s.size) : (ipV s).opts.size = hdr s - 20 := by
  show (s.extract 20 (hdr s)).size = _
  rw [ByteArray.size_extract]; omega
theorem data_size (s : ByteArray) : (ipV s).data.size = s.size - hdr s := by
  show (s.extract (hdr s) s.size).size = _
  rw [ByteArray.size_extract]; omega
theorem flags_read (s : ByteArray) (h : fld s 6 2 < 32768) : ipFlags (ipV s) = fld s 6 2 := by
  have h0 := (fld_bd2 s 6).1
  unfold ipFlags ipV
  simp only [decide_eq_true_eq]
  split <;> split <;> omega
theorem mh_all {s : ByteArray} (h : mhCode s = 0) : 20 ≤ s.size ∧ 69 ≤ bt s 0 ∧ bt s 0 ≤ 79 ∧ hdr s ≤ s.size ∧ fld s 2 2 = s.size ∧ sumOf (bl (s.extract 0 (hdr s))) = 0 := by
  unfold mhCode at h
  split at h
  · cases h
  · split at h
    · cases h
    · split at h
      · cases h
      · split at h
        · cases h
        · rename_i k1 k2 k3 k4
          exact ⟨by omega, by omega, by omega, by omega, by omega, by simpa using k4⟩
theorem ipA_read (s : ByteArray) (h : mhCode s = 0) (hf : fld s 6 2 < 32768) : ipA (ipV s) = (bl s).take 10 := by
  obtain ⟨h20, hb0, hb1, hh, hl, _⟩ := mh_all h
  have ho := opts_size s hh
  have hd := data_size s
  have hhd : (hdr s : Int) = 4 * (bt s 0 - 64) := by unfold hdr; omega
  have e0 : (64 + (20 + ((ipV s).opts.size : Int)) / 4) = fld s 0 1 := by
    rw [show fld s 0 1 = bt s 0 from fld_one s 0 (by omega), ho]; omega
  have e2 : (20 + ((ipV s).opts.size : Int) + ((ipV s).data.size : Int)) = fld s 2 2 := by rw [hl, ho, hd]; omega
  have e1 : (ipV s).tos = fld s 1 1 := (fld_one s 1 (by omega)).symm
  have e8 : (ipV s).ttl = fld s 8 1 := (fld_one s 8 (by omega)).symm
  have e9 : (ipV s).pro = fld s 9 1 := (fld_one s 9 (by omega)).symm
  have e4 : (ipV s).id = fld s 4 2 := rfl
  unfold ipA
  rw [e0, e2, e1, e8, e9, e4, flags_read s hf]
  have b0 := be_fld s 0 1 (by omega)
  have b1 := be_fld s 1 1 (by omega)
  have b2 := be_fld s 2 2 (by omega)
  have b4 := be_fld s 4 2 (by omega)
  have b6 := be_fld s 6 2 (by omega)
  have b8 := be_fld s 8 1 (by omega)
  have b9 := be_fld s 9 1 (by omega)
  rw [show be 1 (fld s 0 1) = _ from b0, show be 1 (fld s 1 1) = _ from b1, show be 2 (fld s 2 2) = _ from b2, show be 2 (fld s 4 2) = _ from b4, show be 2 (fld s 6 2) = _ from b6, show be 1 (fld s 8 1) = _ from b8, show be 1 (fld s 9 1) = _ from b9]
  rw [List.drop_zero, ← List.take_add, ← List.take_add, ← List.take_add, ← List.take_add, ← List.take_add, ← List.take_add]
theorem bl_extract (s : ByteArray) (a b : Nat) : bl (s.extract a b) = ((bl s).drop a).take (b - a) := by
  have := str_extract (bl s) a b
  rw [str_bl] at this; rw [this]
theorem ipB_read (s : ByteArray) (h : mhCode s = 0) : ipB (ipV s) ++ bl (ipV s).data = (bl s).drop 12 := by
  obtain ⟨h20, hb0, hb1, hh, hl, _⟩ := mh_all h
  have hhd : (hdr s : Int) = 4 * (bt s 0 - 64) := by unfold hdr; omega
  have e12 : (ipV s).src = fld s 12 4 := rfl
  have e16 : (ipV s).dst = fld s 16 4 := rfl
  have b12 := be_fld s 12 4 (by omega)
  have b16 := be_fld s 16 4 (by omega)
  have eo : bl (ipV s).opts = ((bl s).drop 20).take (hdr s - 20) := bl_extract s 20 (hdr s)
  have ed : bl (ipV s).data = ((bl s).drop (hdr s)).take (s.size - hdr s) := bl_extract s (hdr s) s.size
  unfold ipB
  rw [e12, e16, eo, ed, show be 4 (fld s 12 4) = _ from b12, show be 4 (fld s 16 4) = _ from b16]
  have t1 : ((bl s).drop (hdr s)).take (s.size - hdr s) = (bl s).drop (hdr s) := List.take_of_length_le (by rw [List.length_drop, bl_length]; omega)
  rw [t1]
  have d1 : (bl s).drop (hdr s) = ((bl s).drop 20).drop (hdr s - 20) := by rw [List.drop_drop]; congr 1; omega
  rw [d1, List.append_assoc, List.append_assoc, List.take_append_drop]
  have d2 : (bl s).drop 20 = ((bl s).drop 16).drop 4 := by rw [List.drop_drop]
  rw [d2, List.take_append_drop]
  have d3 : (bl s).drop 16 = ((bl s).drop 12).drop 4 := by rw [List.drop_drop]
  rw [d3, List.take_append_drop]
end Go.Proofs.YtgknkhhoelgnhaaDoor
