/-
  The model's ReadIp.
-/
import Derived.Test.YtgknkhhoelgnhaaDoorIps3
import Derived.Test.YtgknkhhoelgnhaaDoorFlds
import Derived.Deep.RegionWith
namespace Go.Proofs.YtgknkhhoelgnhaaDoor
open Go.RowKit Go.PlainAid
def ip0 : IpV := ⟨0, 0, false, false, 0, 0, 0, 0, 0, ⟨#[]⟩, ⟨#[]⟩⟩
/-- how many bytes are told to be ahead of Data -/
def hdr (s : ByteArray) : Nat := (4 * (bt s 0 - 64)).toNat
/-- the datagram that these bytes tell -/
def ipV (s : ByteArray) : IpV := ⟨bt s 1, fld s 4 2, decide (fld s 6 2 / 16384 % 2 = 1), decide (fld s 6 2 / 8192 % 2 = 1), fld s 6 2 % 8192, bt s 8, bt s 9, fld s 12 4, fld s 16 4, s.extract 20 (hdr s), s.extract (hdr s) s.size⟩
def ipCode (s : ByteArray) : Int :=
  if s.size < 20 then 1 else if bt s 0 < 69 ∨ 79 < bt s 0 then 2 else if s.size < hdr s ∨ fld s 2 2 ≠ s.size then 3 else if sumOf (bl (s.extract 0 (hdr s))) ≠ 0 then 4 else if ipOk (ipV s) = false ∨ 32768 ≤ fld s 6 2 then 5 else 0
def readIp (s : ByteArray) : IpV := if ipCode s = 0 then ipV s else ip0
set_option maxRecDepth 100000 in
set_option maxHeartbeats 3200000 in
theorem s_ReadIp_early (s : ByteArray) (w : World) (hs : s.size ≤ 1099511627776) (h5 : ipCode s ≠ 0 ∧ ipCode s ≠ 5) :
    Calls Tryd.prog 23 #[.string s] w fun e w' => e = .returned (.tuple #[.agg (ipL (readIp s)), .int .i64 (ipCode s)]) ∧ Below w.heap.size w w' := by
  have hR : ipCode s ≠ 0 → readIp s = ip0 := fun h => by unfold readIp; rw [if_neg h]
  by_cases h20 : s.size < 20
  · have HC : Hid (ipCode s = 1) := by show _ = _; unfold ipCode; rw [if_pos h20]
    have HR : Hid (ipL (readIp s) = ipL ip0) := by show _ = _; rw [hR (by rw [HC.out]; decide)]
    clear hR
    have h20' : (s.size : Int) < 20 := by omega
    generalize ipL (readIp s) = rr at *
    generalize ipCode s = cc at *
    clear h5
    go_enter Tryd.func23, Tryd.ntmps23
    go_wp2
    refine bodyPost_ret (v := .tuple #[.agg #[.int .i64 0, .int .i64 0, .bool false, .bool false, .int .i64 0, .int .i64 0, .int .i64 0, .int .i64 0, .int .i64 0, .string ⟨#[]⟩, .string ⟨#[]⟩], .int .i64 1]) ?_ rfl ⟨by rw [HR.out, HC.out]; rfl, ?_⟩
    · simp [results, Tryd.results23, go_sem]
    · go_grown
  · have q20 : ¬ (s.size : Int) < 20 := by omega
    have CA : Hid (∀ (x k : Int) (u : World), 0 ≤ x → 1 ≤ k → k ≤ 7 → x + k ≤ s.size → Calls Tryd.prog 44 #[.string s, .int .i64 x, .int .i64 k] u fun e w' => e = .returned (.int .i64 (fld s x k)) ∧ w' = u) := fun x k u h0 h1 h2 h3 => s_Fld s x k u hs h0 h1 h2 h3
    have CS : Hid (∀ u : World, Calls Tryd.prog 56 #[.string (s.extract 0 (hdr s))] u fun e w' => e = .returned (.int .i64 (sumOf (bl (s.extract 0 (hdr s))))) ∧ w' = u) := fun u => s_SumOf _ u (by rw [ByteArray.size_extract]; omega)
    have hb0 : 0 ≤ bt s 0 ∧ bt s 0 ≤ 255 := by rw [bt_eq s 0 (by rw [bl_length]; omega)]; have := ((bl s)[0]'(by rw [bl_length]; omega)).toNat_lt; omega
    have E0 : ((s[0]'(by omega)).toNat : Int) = bt s 0 := by rw [bt_eq s 0 (by rw [bl_length]; omega)]; rfl
    obtain ⟨hb00, hb01⟩ := hb0
    have W0 : wrap64 (bt s 0) = bt s 0 := by unfold wrap64; omega
    have W1 : wrap64 (bt s 0 - 64) = bt s 0 - 64 := by unfold wrap64; omega
    have W2 : wrap64 (4 * (bt s 0 - 64)) = 4 * (bt s 0 - 64) := by unfold wrap64; omega
    by_cases hv : bt s 0 < 69 ∨ 79 < bt s 0
    · have hin : inB (bt s 0) 69 79 = false := inB_false hv
      have HC : Hid (ipCode s = 2) := by show _ = _; unfold ipCode; rw [if_neg h20, if_pos hv]
      clear hv
      have HR : Hid (ipL (readIp s) = ipL ip0) := by show _ = _; rw [hR (by rw [HC.out]; decide)]
      clear hR
      generalize ipL (readIp s) = rr at *
      generalize ipCode s = cc at *
      clear h5
      go_enter Tryd.func23, Tryd.ntmps23
      go_wp2_with (first | (go_at_call 60; refine (s_In _ _ _ _).mono ?_; rintro e wq ⟨rfl, hq⟩; rw [hq]; clear hq wq) | (go_at_call 44; refine (CA.out _ _ _ (by decide) (by decide) (by decide) (by omega)).mono ?_; rintro e wq ⟨rfl, hq⟩; rw [hq]; clear hq wq) | (go_at_call 56; refine (CS.out _).mono ?_; rintro e wq ⟨rfl, hq⟩; rw [hq]; clear hq wq))
      refine bodyPost_ret (v := .tuple #[.agg #[.int .i64 0, .int .i64 0, .bool false, .bool false, .int .i64 0, .int .i64 0, .int .i64 0, .int .i64 0, .int .i64 0, .string ⟨#[]⟩, .string ⟨#[]⟩], .int .i64 2]) ?_ rfl ⟨by rw [HR.out, HC.out]; rfl, ?_⟩
      · simp [results, Tryd.results23, go_sem]
      · go_grown
    · have hin : inB (bt s 0) 69 79 = true := inB_true (by omega) (by omega)
      have hh : ((hdr s : Nat) : Int) = 4 * (bt s 0 - 64) := by unfold hdr; omega
      by_cases hL : s.size < hdr s ∨ fld s 2 2 ≠ s.size
      · by_cases hL1 : s.size < hdr s
        · have hL1' : (s.size : Int) < 4 * (bt s 0 - 64) := by omega
          have HC : Hid (ipCode s = 3) := by show _ = _; unfold ipCode; rw [if_neg h20, if_neg hv, if_pos hL]
          clear hv hL
          have HR : Hid (ipL (readIp s) = ipL ip0) := by show _ = _; rw [hR (by rw [HC.out]; decide)]
          clear hR
          generalize ipL (readIp s) = rr at *
          generalize ipCode s = cc at *
          clear h5
          go_enter Tryd.func23, Tryd.ntmps23
          go_wp2_with (first | (go_at_call 60; refine (s_In _ _ _ _).mono ?_; rintro e wq ⟨rfl, hq⟩; rw [hq]; clear hq wq) | (go_at_call 44; refine (CA.out _ _ _ (by decide) (by decide) (by decide) (by omega)).mono ?_; rintro e wq ⟨rfl, hq⟩; rw [hq]; clear hq wq) | (go_at_call 56; refine (CS.out _).mono ?_; rintro e wq ⟨rfl, hq⟩; rw [hq]; clear hq wq))
          refine bodyPost_ret (v := .tuple #[.agg #[.int .i64 0, .int .i64 0, .bool false, .bool false, .int .i64 0, .int .i64 0, .int .i64 0, .int .i64 0, .int .i64 0, .string ⟨#[]⟩, .string ⟨#[]⟩], .int .i64 3]) ?_ rfl ⟨by rw [HR.out, HC.out]; rfl, ?_⟩
          · simp [results, Tryd.results23, go_sem]
          · go_grown
        · have hL1' : ¬ (s.size : Int) < 4 * (bt s 0 - 64) := by omega
          have hL2 : ((s.size : Int) != fld s 2 2) = true := by simp; omega
          have HC : Hid (ipCode s = 3) := by show _ = _; unfold ipCode; rw [if_neg h20, if_neg hv, if_pos hL]
          clear hv hL
          have HR : Hid (ipL (readIp s) = ipL ip0) := by show _ = _; rw [hR (by rw [HC.out]; decide)]
          clear hR
          generalize ipL (readIp s) = rr at *
          generalize ipCode s = cc at *
          clear h5
          go_enter Tryd.func23, Tryd.ntmps23
          go_wp2_with (first | (go_at_call 60; refine (s_In _ _ _ _).mono ?_; rintro e wq ⟨rfl, hq⟩; rw [hq]; clear hq wq) | (go_at_call 44; refine (CA.out _ _ _ (by decide) (by decide) (by decide) (by omega)).mono ?_; rintro e wq ⟨rfl, hq⟩; rw [hq]; clear hq wq) | (go_at_call 56; refine (CS.out _).mono ?_; rintro e wq ⟨rfl, hq⟩; rw [hq]; clear hq wq))
          refine bodyPost_ret (v := .tuple #[.agg #[.int .i64 0, .int .i64 0, .bool false, .bool false, .int .i64 0, .int .i64 0, .int .i64 0, .int .i64 0, .int .i64 0, .string ⟨#[]⟩, .string ⟨#[]⟩], .int .i64 3]) ?_ rfl ⟨by rw [HR.out, HC.out]; rfl, ?_⟩
          · simp [results, Tryd.results23, go_sem]
          · go_grown
      · have hL1' : ¬ (s.size : Int) < 4 * (bt s 0 - 64) := by omega
        have hL2 : ((s.size : Int) != fld s 2 2) = false := by simp; omega
        by_cases hS : sumOf (bl (s.extract 0 (hdr s))) ≠ 0
        · have hS' : (sumOf (bl (s.extract 0 (hdr s))) != 0) = true := by simpa using hS
          have hhd : (4 * (bt s 0 - 64)).toNat = hdr s := rfl
          have HC : Hid (ipCode s = 4) := by show _ = _; unfold ipCode; rw [if_neg h20, if_neg hv, if_neg hL, if_pos hS]
          clear hv hL hS
          have HR : Hid (ipL (readIp s) = ipL ip0) := by show _ = _; rw [hR (by rw [HC.out]; decide)]
          clear hR
          generalize ipL (readIp s) = rr at *
          generalize ipCode s = cc at *
          clear h5
          go_enter Tryd.func23, Tryd.ntmps23
          go_wp2_with (first | (go_at_call 60; refine (s_In _ _ _ _).mono ?_; rintro e wq ⟨rfl, hq⟩; rw [hq]; clear hq wq) | (go_at_call 44; refine (CA.out _ _ _ (by decide) (by decide) (by decide) (by omega)).mono ?_; rintro e wq ⟨rfl, hq⟩; rw [hq]; clear hq wq) | (go_at_call 56; refine (CS.out _).mono ?_; rintro e wq ⟨rfl, hq⟩; rw [hq]; clear hq wq))
          refine bodyPost_ret (v := .tuple #[.agg #[.int .i64 0, .int .i64 0, .bool false, .bool false, .int .i64 0, .int .i64 0, .int .i64 0, .int .i64 0, .int .i64 0, .string ⟨#[]⟩, .string ⟨#[]⟩], .int .i64 4]) ?_ rfl ⟨by rw [HR.out, HC.out]; rfl, ?_⟩
          · simp [results, Tryd.results23, go_sem]
          · go_grown
        · exfalso
          unfold ipCode at h5
          rw [if_neg h20, if_neg hv, if_neg hL, if_neg hS] at h5
          split at h5
          · exact h5.2 rfl
          · exact h5.1 rfl
end Go.Proofs.YtgknkhhoelgnhaaDoor
