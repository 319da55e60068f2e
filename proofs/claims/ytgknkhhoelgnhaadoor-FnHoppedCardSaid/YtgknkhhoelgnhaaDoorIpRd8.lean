/-
  A hop: the program.
-/
import Derived.Test.YtgknkhhoelgnhaaDoorIpRd7
namespace Go.Proofs.YtgknkhhoelgnhaaDoor
open Go.RowKit Go.PlainAid
/-- the bytes behind a hop -/
def hopT (s : ByteArray) : List UInt8 := (bl s).take 8 ++ be 2 (fld s 8 2 - 256) ++ be 2 (sumFix (fld s 10 2) (fld s 8 2) (fld s 8 2 - 256)) ++ (bl s).drop 12
def hopOk (s : ByteArray) : Bool := decide (ipCode s = 0) && decide (1 < bt s 8)
def hopV (s : ByteArray) : Value := .tuple #[.string (str (if hopOk s then hopT s else [])), .bool (hopOk s)]
theorem ttl_read {s : ByteArray} (h : ipCode s = 0) : (readIp s).ttl = bt s 8 := by unfold readIp; rw [if_pos h]; rfl
theorem sumFix_bd (a b c : Int) (ha : 0 ≤ a ∧ a ≤ 65535) (hb : 0 ≤ b ∧ b ≤ 65535) (hc : 0 ≤ c ∧ c ≤ 65535) : 0 ≤ sumFix a b c ∧ sumFix a b c ≤ 65535 := by
  have h := fold16_bd (65535 - a + (65535 - b) + c)
  rw [sumFix_ok (inB_true ha.1 ha.2) (inB_true hb.1 hb.2) (inB_true hc.1 hc.2)]
  omega
set_option maxRecDepth 100000 in
set_option maxHeartbeats 3200000 in
theorem i_Hopped (A : Nat → Addr) (s : ByteArray) (w : World) (hs : s.size ≤ 1099511627776) (hE : Errs A w) :
    Calls Tryd.prog 17 #[.string s] w fun e w' => e = .returned (hopV s) ∧ Below w.heap.size w w' := by
  have CR : Hid (∀ u : World, Below w.heap.size w u → Calls Tryd.prog 22 #[.string s] u fun e w' => e = .returned (.tuple #[.agg (ipL (readIp s)), .int .i64 (ipCode s)]) ∧ Below u.heap.size u w') := fun u hb => i_ReadIp A s u hs (hE.below hb)
  have htt := @ttl_read s
  by_cases h0 : ipCode s = 0
  · have ht := htt h0
    have hok : hopOk s = decide (1 < bt s 8) := by unfold hopOk; rw [h0]; simp
    by_cases h1 : 1 < bt s 8
    · obtain ⟨hc0, hc1⟩ := ipCode_in s
      have hmh : mhCode s = 0 := by
        by_cases hm : mhCode s = 0
        · exact hm
        · have := (mh_code hm).1; omega
      obtain ⟨h20, _, _, hh, hl, _⟩ := mh_all hmh
      have f82 : fld s 8 2 = bt s 8 * 256 + bt s 9 := by
        have := num_take_succ s 8 1 (by omega)
        rw [show num (((bl s).drop 8).take 1) = bt s 8 from fld_one s 8 (by omega)] at this
        exact this
      have hb9 : 0 ≤ bt s 9 ∧ bt s 9 ≤ 255 := by rw [bt_eq s 9 (by rw [bl_length]; omega)]; have := ((bl s)[9]'(by rw [bl_length]; omega)).toNat_lt; omega
      have hb10 := fld_bd2 s 10
      have hb8 := fld_bd2 s 8
      have hsf := sumFix_bd (fld s 10 2) (fld s 8 2) (fld s 8 2 - 256) (by omega) (by omega) (by omega)
      have HV : Hid (hopV s = .tuple #[.string (str ((bl s).take 8) ++ str (be 2 (fld s 8 2 - 256)) ++ str (be 2 (sumFix (fld s 10 2) (fld s 8 2) (fld s 8 2 - 256))) ++ str ((bl s).drop 12)), .bool true]) := by
        show _ = _; unfold hopV; rw [hok]; simp only [h1, decide_true, if_true, hopT, str_app]
      have HB : ∀ (n : Int) (u : World), 0 ≤ n → n ≤ 65535 → Calls Tryd.prog 49 #[.int .i64 n, .int .i64 2] u fun e w' => e = .returned (.string (str (be 2 n))) ∧ Below u.heap.size u w' := fun n u n0 n1 => by
        have := i_BytesOf n 2 u (by omega)
        rw [okB_of (by decide) (by decide) n0 (by simp only [Int.reduceToNat, Int.reducePow]; omega)] at this
        exact this
      have B1 : Hid (∀ (n : Int) (u : World), 0 ≤ n → n ≤ 65535 → Calls Tryd.prog 49 #[.int .i64 n, .int .i64 2] u fun e w' => e = .returned (.string (str (be 2 n))) ∧ Below u.heap.size u w') := HB
      have q1 : 0 ≤ fld s 8 2 - 256 := by omega
      have q2 : fld s 8 2 - 256 ≤ 65535 := by omega
      obtain ⟨hsf0, hsf1⟩ := hsf
      have CF : Hid (∀ (x : Int) (u : World), 0 ≤ x → x ≤ 18 → Calls Tryd.prog 47 #[.string s, .int .i64 x, .int .i64 2] u fun e w' => e = .returned (.int .i64 (fld s x 2)) ∧ w' = u) := fun x u x0 x1 => i_fieldAt s x 2 u hs x0 (by decide) (by decide) (by omega)
      have CX : Hid (∀ u : World, Calls Tryd.prog 48 #[.int .i64 (fld s 10 2), .int .i64 (fld s 8 2), .int .i64 (fld s 8 2 - 256)] u fun e w' => e = .returned (.int .i64 (sumFix (fld s 10 2) (fld s 8 2) (fld s 8 2 - 256))) ∧ w' = u) := fun u => i_SumFix _ _ _ u
      have hw : IntKind.i64.wrap (fld s 8 2 - 256) = fld s 8 2 - 256 := wraps_i64 _ (by omega) (by omega)
      have p8 : (8 : Int) ≤ (s.size : Int) := by omega
      have p12 : (12 : Int) ≤ (s.size : Int) := by omega
      have n8 : 8 ≤ s.size := by omega
      have n12 : 12 ≤ s.size := by omega
      have E1 : s.extract 0 8 = str ((bl s).take 8) := by have := bl_extract s 0 8; rw [List.drop_zero] at this; rw [← this, str_bl]
      have E2 : s.extract 12 s.size = str ((bl s).drop 12) := by
        have := bl_extract s 12 s.size
        rw [List.take_of_length_le (by rw [List.length_drop, bl_length]; omega)] at this
        rw [← this, str_bl]
      have h1b : ¬ bt s 8 ≤ 1 := by omega
      have z1 : (str ((bl s).take 8)).size ≤ 8 := by rw [str_size, List.length_take]; omega
      have z2 : ∀ n, (str (be 2 n)).size = 2 := fun n => by rw [str_size, be_length]
      have z3 : (str ((bl s).drop 12)).size ≤ 1099511627776 := by rw [str_size, List.length_drop, bl_length]; omega
      rw [h0] at CR
      clear htt hok h0 hE HB f82 hc0 hc1 hmh hh hl hb8 hb9 hb10
      generalize sumFix (fld s 10 2) (fld s 8 2) (fld s 8 2 - 256) = sf at *
      generalize hopV s = hv at *
      generalize readIp s = rp at *
      obtain ⟨tos, id, df, mf, off, ttl, pro, src, dst, opts, data⟩ := rp
      simp only at ht
      subst ht
      simp only [ipL] at *
      go_enter Tryd.func17, Tryd.ntmps17
      go_wp2_with fail
      go_at_call 22
      refine (CR.out _ (Below.refl _ _)).mono ?_
      rintro e w1 ⟨rfl, hB⟩
      have hsz := hB.size
      go_wp2_with (first | (go_at_call 47; refine (CF.out _ _ (by decide) (by decide)).mono ?_; rintro e wq ⟨rfl, hq⟩; rw [hq]; clear hq wq) | (go_at_call 48; refine (CX.out _).mono ?_; rintro e wq ⟨rfl, hq⟩; rw [hq]; clear hq wq))
      have hB1 := hB.alloc hB.size (.cells #[.int .i64 tos, .int .i64 id, .bool df, .bool mf, .int .i64 off, .int .i64 (bt s 8), .int .i64 pro, .int .i64 src, .int .i64 dst, .string opts, .string data] 32)
      generalize w1.alloc _ = u1 at *
      have hne := BW.some u1
      refine wp_region_below (by kernel_rfl) (by kernel_rfl) ?_
      repeat (go_big_quiet_step (first | (go_at_call 49; exact Calls.into (B1.out _ _ (by omega) (by omega)))))
      refine wpQuiet_nil ?_
      intro _ hw'
      obtain ⟨u, hw''⟩ := hw'
      subst hw''
      have hB2 := hB1.trans (u.le.mono hB1.size)
      clear hne
      go_wp2
      refine bodyPost_ret (v := .tuple #[.string (str ((bl s).take 8) ++ str (be 2 (fld s 8 2 - 256)) ++ str (be 2 sf) ++ str ((bl s).drop 12)), .bool true]) ?_ rfl ⟨by rw [HV.out], hB2⟩
      simp [results, Tryd.results17, go_sem]
    · have HV : Hid (hopV s = .tuple #[.string ⟨#[]⟩, .bool false]) := by show _ = _; unfold hopV; rw [hok]; simp [h1]
      rw [h0] at CR
      have h1b : bt s 8 ≤ 1 := by omega
      clear htt hok h0 hE
      generalize hopV s = hv at *
      generalize readIp s = rp at *
      obtain ⟨tos, id, df, mf, off, ttl, pro, src, dst, opts, data⟩ := rp
      simp only at ht
      subst ht
      simp only [ipL] at *
      go_enter Tryd.func17, Tryd.ntmps17
      go_wp2_with fail
      go_at_call 22
      refine (CR.out _ (Below.refl _ _)).mono ?_
      rintro e w1 ⟨rfl, hB⟩
      have hsz := hB.size
      go_wp2
      refine bodyPost_ret (v := .tuple #[.string ⟨#[]⟩, .bool false]) ?_ rfl ⟨by rw [HV.out], ?_⟩
      · simp [results, Tryd.results17, go_sem]
      · go_grown
  · have HV : Hid (hopV s = .tuple #[.string ⟨#[]⟩, .bool false]) := by show _ = _; unfold hopV hopOk; simp [h0]
    have hne : (ipCode s != 0) = true := by simpa using h0
    clear htt h0 hE
    generalize hopV s = hv at *
    generalize readIp s = rp at *
    generalize ipCode s = cc at *
    obtain ⟨tos, id, df, mf, off, ttl, pro, src, dst, opts, data⟩ := rp
    simp only [ipL] at *
    go_enter Tryd.func17, Tryd.ntmps17
    go_wp2_with fail
    go_at_call 22
    refine (CR.out _ (Below.refl _ _)).mono ?_
    rintro e w1 ⟨rfl, hB⟩
    have hsz := hB.size
    go_wp2
    refine bodyPost_ret (v := .tuple #[.string ⟨#[]⟩, .bool false]) ?_ rfl ⟨by rw [HV.out], ?_⟩
    · simp [results, Tryd.results17, go_sem]
    · go_grown
end Go.Proofs.YtgknkhhoelgnhaaDoor
