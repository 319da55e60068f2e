/-
  The program's reader of datagrams: the head measured.
-/
import Derived.Test.YtgknkhhoelgnhaaDoorIpRd1
import Derived.Deep.RegionWith
namespace Go.Proofs.YtgknkhhoelgnhaaDoor
open Go.RowKit Go.PlainAid
set_option maxRecDepth 100000 in
set_option maxHeartbeats 3200000 in
theorem i_measuredHead (A : Nat → Addr) (s : ByteArray) (w : World) (hs : s.size ≤ 1099511627776) (hE : Errs A w) :
    Calls Tryd.prog 91 #[.string s] w fun e w' => e = .returned (.tuple #[.int .i64 (mhSize s), errV A (mhCode s)]) ∧ Below w.heap.size w w' := by
  have cc := hE.cell
  by_cases h20 : s.size < 20
  · have hB := Below.refl w.heap.size w
    have HC : Hid (mhCode s = 1) := by show _ = _; unfold mhCode; rw [if_pos h20]
    have HZ : Hid (mhSize s = 0) := by show _ = _; unfold mhSize; rw [HC.out]; rfl
    have c1 := cc 1 (by decide) (by decide)
    simp only [errG] at c1
    have h20' : (s.size : Int) < 20 := by omega
    rw [HC.out, HZ.out]
    clear cc hE HC HZ
    go_enter Tryd.func91, Tryd.ntmps91
    go_wp2_with fail
    go_region
    all_goals
      go_wp2
      refine bodyPost_ret (v := .tuple #[.int .i64 0, errV A 1]) ?_ rfl ⟨rfl, ?_⟩
      · simp [results, Tryd.results91, go_sem, errV]
      · go_grown
  · have q20 : ¬ (s.size : Int) < 20 := by omega
    have hB := Below.refl w.heap.size w
    have CF : Hid (∀ u : World, Calls Tryd.prog 47 #[.string s, .int .i64 2, .int .i64 2] u fun e w' => e = .returned (.int .i64 (fld s 2 2)) ∧ w' = u) := fun u => i_fieldAt s 2 2 u hs (by decide) (by decide) (by decide) (by omega)
    have CS : Hid (∀ u : World, Calls Tryd.prog 51 #[.string (s.extract 0 (hdr s))] u fun e w' => e = .returned (.int .i64 (sumOf (bl (s.extract 0 (hdr s))))) ∧ w' = u) := fun u => i_SumOf _ u (by rw [ByteArray.size_extract]; omega)
    have hb0 : 0 ≤ bt s 0 ∧ bt s 0 ≤ 255 := by rw [bt_eq s 0 (by rw [bl_length]; omega)]; have := ((bl s)[0]'(by rw [bl_length]; omega)).toNat_lt; omega
    have E0 : ((s[0]'(by omega)).toNat : Int) = bt s 0 := by rw [bt_eq s 0 (by rw [bl_length]; omega)]; rfl
    obtain ⟨hb00, hb01⟩ := hb0
    by_cases hv : bt s 0 < 69 ∨ 79 < bt s 0
    · by_cases hv1 : bt s 0 < 69
      · have HC : Hid (mhCode s = 2) := by show _ = _; unfold mhCode; rw [if_neg h20, if_pos hv]
        have HZ : Hid (mhSize s = 0) := by show _ = _; unfold mhSize; rw [HC.out]; rfl
        have c2 := cc 2 (by decide) (by decide)
        simp only [errG] at c2
        rw [HC.out, HZ.out]
        clear cc hE HC HZ hv CF CS
        go_enter Tryd.func91, Tryd.ntmps91
        go_wp2_with fail
        go_region
        all_goals
          go_wp2
          refine bodyPost_ret (v := .tuple #[.int .i64 0, errV A 2]) ?_ rfl ⟨rfl, ?_⟩
          · simp [results, Tryd.results91, go_sem, errV]
          · go_grown
      · have HC : Hid (mhCode s = 2) := by show _ = _; unfold mhCode; rw [if_neg h20, if_pos hv]
        have HZ : Hid (mhSize s = 0) := by show _ = _; unfold mhSize; rw [HC.out]; rfl
        have c2 := cc 2 (by decide) (by decide)
        simp only [errG] at c2
        have hv2 : 79 < bt s 0 := by omega
        rw [HC.out, HZ.out]
        clear cc hE HC HZ hv CF CS
        go_enter Tryd.func91, Tryd.ntmps91
        go_wp2_with fail
        go_region
        all_goals
          go_wp2
          refine bodyPost_ret (v := .tuple #[.int .i64 0, errV A 2]) ?_ rfl ⟨rfl, ?_⟩
          · simp [results, Tryd.results91, go_sem, errV]
          · go_grown
    · have hv1 : ¬ bt s 0 < 69 := by omega
      have hv2 : ¬ 79 < bt s 0 := by omega
      have hh : ((hdr s : Nat) : Int) = 4 * (bt s 0 - 64) := by unfold hdr; omega
      have hhn : (4 * (bt s 0 - 64)).toNat = hdr s := rfl
      have w8 : IntKind.u8.wrap (bt s 0 - 64) = bt s 0 - 64 := by show (bt s 0 - 64) % 256 = _; omega
      have w9 : IntKind.i64.wrap (bt s 0 - 64) = bt s 0 - 64 := wraps_i64 _ (by omega) (by omega)
      have w10 : IntKind.i64.wrap (4 * (bt s 0 - 64)) = 4 * (bt s 0 - 64) := wraps_i64 _ (by omega) (by omega)
      by_cases hL1 : s.size < hdr s
      · have HC : Hid (mhCode s = 3) := by show _ = _; unfold mhCode; rw [if_neg h20, if_neg hv, if_pos (.inl hL1)]
        have HZ : Hid (mhSize s = 0) := by show _ = _; unfold mhSize; rw [HC.out]; rfl
        have c3 := cc 3 (by decide) (by decide)
        simp only [errG] at c3
        have hL1' : (s.size : Int) < 4 * (bt s 0 - 64) := by omega
        rw [HC.out, HZ.out]
        clear cc hE HC HZ hv CF CS hL1 hh hhn
        go_enter Tryd.func91, Tryd.ntmps91
        go_wp2_with fail
        go_region
        all_goals
          go_wp2
          refine bodyPost_ret (v := .tuple #[.int .i64 0, errV A 3]) ?_ rfl ⟨rfl, ?_⟩
          · simp [results, Tryd.results91, go_sem, errV]
          · go_grown
      · have hL1' : ¬ (s.size : Int) < 4 * (bt s 0 - 64) := by omega
        by_cases hL2 : fld s 2 2 = s.size
        · have hL2' : (fld s 2 2 != (s.size : Int)) = false := by simp [hL2]
          by_cases hS : sumOf (bl (s.extract 0 (hdr s))) = 0
          · have HC : Hid (mhCode s = 0) := by show _ = _; unfold mhCode; rw [if_neg h20, if_neg hv, if_neg (by omega), if_neg (by simpa using hS)]
            have HZ : Hid (mhSize s = hdr s) := by show _ = _; unfold mhSize; rw [HC.out]; rfl
            have hS' : (sumOf (bl (s.extract 0 (hdr s))) != 0) = false := by simp [hS]
            rw [HC.out, HZ.out]
            clear cc hE HC HZ hv hL1 hL2 hS
            go_enter Tryd.func91, Tryd.ntmps91
            go_wp2_with (first | (go_at_call 47; refine (CF.out _).mono ?_; rintro e wq ⟨rfl, hq⟩; rw [hq]; clear hq wq) | (go_at_call 51; refine (CS.out _).mono ?_; rintro e wq ⟨rfl, hq⟩; rw [hq]; clear hq wq))
            refine bodyPost_ret (v := .tuple #[.int .i64 (hdr s), errV A 0]) ?_ rfl ⟨rfl, ?_⟩
            · simp [results, Tryd.results91, go_sem, errV, hh]
            · go_grown
          · have HC : Hid (mhCode s = 4) := by show _ = _; unfold mhCode; rw [if_neg h20, if_neg hv, if_neg (by omega), if_pos hS]
            have HZ : Hid (mhSize s = 0) := by show _ = _; unfold mhSize; rw [HC.out]; rfl
            have c4 := cc 4 (by decide) (by decide)
            simp only [errG] at c4
            have hS' : (sumOf (bl (s.extract 0 (hdr s))) != 0) = true := by simpa using hS
            rw [HC.out, HZ.out]
            clear cc hE HC HZ hv hL1 hL2 hS
            go_enter Tryd.func91, Tryd.ntmps91
            go_wp2_with (first | (go_at_call 47; refine (CF.out _).mono ?_; rintro e wq ⟨rfl, hq⟩; rw [hq]; clear hq wq) | (go_at_call 51; refine (CS.out _).mono ?_; rintro e wq ⟨rfl, hq⟩; rw [hq]; clear hq wq))
            go_region
            all_goals
              go_wp2
              refine bodyPost_ret (v := .tuple #[.int .i64 0, errV A 4]) ?_ rfl ⟨rfl, ?_⟩
              · simp [results, Tryd.results91, go_sem, errV]
              · go_grown
        · have HC : Hid (mhCode s = 3) := by show _ = _; unfold mhCode; rw [if_neg h20, if_neg hv, if_pos (.inr hL2)]
          have HZ : Hid (mhSize s = 0) := by show _ = _; unfold mhSize; rw [HC.out]; rfl
          have c3 := cc 3 (by decide) (by decide)
          simp only [errG] at c3
          have hL2' : (fld s 2 2 != (s.size : Int)) = true := by simpa using hL2
          rw [HC.out, HZ.out]
          clear cc hE HC HZ hv CS hL1 hL2
          go_enter Tryd.func91, Tryd.ntmps91
          go_wp2_with (first | (go_at_call 47; refine (CF.out _).mono ?_; rintro e wq ⟨rfl, hq⟩; rw [hq]; clear hq wq) | (go_at_call 51; refine (CS.out _).mono ?_; rintro e wq ⟨rfl, hq⟩; rw [hq]; clear hq wq))
          go_region
          all_goals
            go_wp2
            refine bodyPost_ret (v := .tuple #[.int .i64 0, errV A 3]) ?_ rfl ⟨rfl, ?_⟩
            · simp [results, Tryd.results91, go_sem, errV]
            · go_grown
end Go.Proofs.YtgknkhhoelgnhaaDoor
