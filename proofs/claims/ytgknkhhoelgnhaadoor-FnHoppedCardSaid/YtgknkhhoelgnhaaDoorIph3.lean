/-
  A hop: the model; the exact law.
-/
import Derived.Test.YtgknkhhoelgnhaaDoorIph1
import Derived.Test.YtgknkhhoelgnhaaDoorIps4
import Derived.Test.YtgknkhhoelgnhaaDoorIpRd6
namespace Go.Proofs.YtgknkhhoelgnhaaDoor
open Go.RowKit Go.PlainAid
theorem hop_parts (s : ByteArray) : (ipBytes (hopP s)).take 10 ++ be 2 (hopX s) ++ (ipBytes (hopP s)).drop 12 = ipT (hopP s) (hopX s) := by
  have e : ∀ x, ipT (hopP s) x = ipA (hopP s) ++ (be 2 x ++ (ipB (hopP s) ++ bl (hopP s).data)) := fun x => by simp only [ipT, ipHead, List.append_assoc]
  rw [ipBytes_eq, e, e, List.take_left' (ipA_length _)]
  have : (ipA (hopP s) ++ (be 2 (sumOf (ipHead (hopP s) 0)) ++ (ipB (hopP s) ++ bl (hopP s).data))).drop 12 = ipB (hopP s) ++ bl (hopP s).data := by
    rw [← List.append_assoc]
    exact List.drop_left' (by rw [List.length_append, ipA_length, be_length])
  rw [this, List.append_assoc]
set_option maxRecDepth 100000 in
set_option maxHeartbeats 3200000 in
theorem s_Hopped (s : ByteArray) (w : World) (hs : s.size ≤ 1099511627776) :
    Calls Tryd.prog 16 #[.string s] w fun e w' => e = .returned (hopV s) ∧ Below w.heap.size w w' := by
  have CR : Hid (∀ u : World, Calls Tryd.prog 23 #[.string s] u fun e w' => e = .returned (.tuple #[.agg (ipL (readIp s)), .int .i64 (ipCode s)]) ∧ Below u.heap.size u w') := fun u => s_ReadIp s u hs
  have htt := @ttl_read s
  by_cases h0 : ipCode s = 0
  · have ht := htt h0
    have hok : hopOk s = decide (1 < bt s 8) := by unfold hopOk; rw [h0]; simp
    by_cases h1 : 1 < bt s 8
    · obtain ⟨hF, hT, ⟨hx0, hx1⟩, _⟩ := hop_plain h0 h1
      have hR : readIp s = ipV s := by unfold readIp; rw [if_pos h0]
      have h20 := (read_ipT h0).2.2.2
      have hb8 := fld_bd2 s 8
      have f82 : fld s 8 2 = bt s 8 * 256 + bt s 9 := by
        have := num_take_succ s 8 1 (by omega)
        rw [show num (((bl s).drop 8).take 1) = bt s 8 from fld_one s 8 (by omega)] at this
        exact this
      have hb9 : 0 ≤ bt s 9 := hF.pro.1
      have hw : IntKind.i64.wrap (fld s 8 2 - 256) = fld s 8 2 - 256 := wraps_i64 _ (by omega) (by omega)
      clear f82 hb9
      have HV : Hid (hopV s = .tuple #[.string (str ((ipBytes (hopP s)).take 10) ++ str (be 2 (hopX s)) ++ str ((ipBytes (hopP s)).drop 12)), .bool true]) := by
        show _ = _; unfold hopV; rw [hok, hT, ← hop_parts]; simp only [h1, decide_true, if_true, str_app]
      have B1 : Hid (∀ (n : Int) (u : World), Calls Tryd.prog 46 #[.int .i64 n, .int .i64 2] u fun e w' => e = .returned (.string (str (be 2 n))) ∧ Below u.heap.size u w') := fun n u => be_any n 2 u (by decide) (by decide)
      have CF : Hid (∀ (x : Int) (u : World), 0 ≤ x → x ≤ 18 → Calls Tryd.prog 44 #[.string s, .int .i64 x, .int .i64 2] u fun e w' => e = .returned (.int .i64 (fld s x 2)) ∧ w' = u) := fun x u x0 x1 => s_Fld s x 2 u hs x0 (by decide) (by decide) (by omega)
      have CX : Hid (∀ u : World, Calls Tryd.prog 43 #[.int .i64 (fld s 10 2), .int .i64 (fld s 8 2), .int .i64 (fld s 8 2 - 256)] u fun e w' => e = .returned (.int .i64 (hopX s)) ∧ w' = u) := fun u => s_SumFix _ _ _ u
      have CB : Hid (∀ u : World, Calls Tryd.prog 45 #[.agg (ipL (hopP s))] u fun e w' => e = .returned (.string (str (ipBytes (hopP s)))) ∧ Below u.heap.size u w') := fun u => s_l3Bytes (hopP s) u hF.off (by have := hF.opts; omega) (by have := hF.len; omega)
      have hlen : (ipBytes (hopP s)).length = 20 + (hopP s).opts.size + (hopP s).data.size := by rw [ipBytes_eq, ipT_length]
      have hsz := hF.len
      generalize ipBytes (hopP s) = tb at *
      have E1 : (str tb).extract 0 10 = str (tb.take 10) := by rw [str_extract, List.drop_zero]
      have E2 : (str tb).extract 12 tb.length = str (tb.drop 12) := by
        rw [str_extract, List.take_of_length_le (by rw [List.length_drop]; omega)]
      have p10 : (10 : Int) ≤ ((str tb).size : Int) := by rw [str_size]; omega
      have p12 : (12 : Int) ≤ ((str tb).size : Int) := by rw [str_size]; omega
      have hP : ipL (hopP s) = #[.int .i64 (bt s 1), .int .i64 (fld s 4 2), .bool (decide (fld s 6 2 / 16384 % 2 = 1)), .bool (decide (fld s 6 2 / 8192 % 2 = 1)), .int .i64 (fld s 6 2 % 8192), .int .i64 (bt s 8 - 1), .int .i64 (bt s 9), .int .i64 (fld s 12 4), .int .i64 (fld s 16 4), .string (s.extract 20 (hdr s)), .string (s.extract (hdr s) s.size)] := rfl
      have hQ : ipL (readIp s) = #[.int .i64 (bt s 1), .int .i64 (fld s 4 2), .bool (decide (fld s 6 2 / 16384 % 2 = 1)), .bool (decide (fld s 6 2 / 8192 % 2 = 1)), .int .i64 (fld s 6 2 % 8192), .int .i64 (bt s 8), .int .i64 (bt s 9), .int .i64 (fld s 12 4), .int .i64 (fld s 16 4), .string (s.extract 20 (hdr s)), .string (s.extract (hdr s) s.size)] := by rw [hR]; rfl
      rw [hP] at CB
      rw [hQ, h0] at CR
      have hb8' := hF.ttl
      have h8 : (hopP s).ttl = bt s 8 - 1 := rfl
      rw [h8] at hb8'
      have hw8 : IntKind.i64.wrap (bt s 8 - 1) = bt s 8 - 1 := wraps_i64 _ (by omega) (by omega)
      have hlt : ¬ bt s 8 < 2 := by omega
      have z1 : (str (tb.take 10)).size ≤ 10 := by rw [str_size, List.length_take]; omega
      have z2 : ∀ n, (str (be 2 n)).size = 2 := fun n => by rw [str_size, be_length]
      have z3 : (str (tb.drop 12)).size ≤ 70000 := by rw [str_size, List.length_drop]; omega
      have zz : tb.length ≤ 70000 := by omega
      have zy : 12 ≤ tb.length := by omega
      have zx : (be 2 (hopX s)).length = 2 := be_length 2 _
      clear htt hok h0 hP hQ hR ht h8 hF hT hlen hsz h20
      generalize hopX s = sf at *
      generalize hopV s = hv at *
      generalize decide (fld s 6 2 / 16384 % 2 = 1) = df at *
      generalize decide (fld s 6 2 / 8192 % 2 = 1) = mf at *
      generalize fld s 6 2 % 8192 = off at *
      generalize s.extract 20 (hdr s) = opts at *
      generalize s.extract (hdr s) s.size = data at *
      generalize bt s 8 = ttl at *
      generalize bt s 9 = pro at *
      generalize bt s 1 = tos at *
      generalize fld s 4 2 = id at *
      generalize fld s 12 4 = src at *
      generalize fld s 16 4 = dst at *
      go_enter Tryd.func16, Tryd.ntmps16
      go_wp2_with fail
      go_at_call 23
      refine (CR.out _).mono ?_
      rintro e w1 ⟨rfl, hB⟩
      have hszz := hB.size
      go_wp2_with (first | (go_at_call 44; refine (CF.out _ _ (by decide) (by decide)).mono ?_; rintro e wq ⟨rfl, hq⟩; rw [hq]; clear hq wq) | (go_at_call 43; refine (CX.out _).mono ?_; rintro e wq ⟨rfl, hq⟩; rw [hq]; clear hq wq) | (go_at_call 45; refine (CB.out _).mono ?_; rintro e w2 ⟨rfl, hb2⟩))
      have hB1 : Below w.heap.size w w2 := by
        refine Below.trans ?_ (hb2.mono ?_)
        · go_grown
        · simp; omega
      have hne := BW.some w2
      refine wp_region_below (by kernel_rfl) (by kernel_rfl) ?_
      repeat (go_big_quiet_step (first | (go_at_call 46; exact Calls.into (B1.out _ _))))
      refine wpQuiet_nil ?_
      intro _ hw'
      obtain ⟨u, hw''⟩ := hw'
      subst hw''
      have hB2 := hB1.trans (u.le.mono hB1.size)
      clear hne
      go_wp2
      refine bodyPost_ret (v := .tuple #[.string (str (tb.take 10) ++ str (be 2 sf) ++ str (tb.drop 12)), .bool true]) ?_ rfl ⟨by rw [HV.out], hB2⟩
      simp [results, Tryd.results16, go_sem]
    · have HV : Hid (hopV s = .tuple #[.string ⟨#[]⟩, .bool false]) := by show _ = _; unfold hopV; rw [hok]; simp [h1]
      rw [h0] at CR
      have h1b : bt s 8 < 2 := by omega
      clear htt hok h0
      generalize hopV s = hv at *
      generalize readIp s = rp at *
      obtain ⟨tos, id, df, mf, off, ttl, pro, src, dst, opts, data⟩ := rp
      simp only at ht
      subst ht
      simp only [ipL] at *
      go_enter Tryd.func16, Tryd.ntmps16
      go_wp2_with fail
      go_at_call 23
      refine (CR.out _).mono ?_
      rintro e w1 ⟨rfl, hB⟩
      have hsz := hB.size
      go_wp2
      refine bodyPost_ret (v := .tuple #[.string ⟨#[]⟩, .bool false]) ?_ rfl ⟨by rw [HV.out], ?_⟩
      · simp [results, Tryd.results16, go_sem]
      · go_grown
  · have HV : Hid (hopV s = .tuple #[.string ⟨#[]⟩, .bool false]) := by show _ = _; unfold hopV hopOk; simp [h0]
    have hne : (ipCode s != 0) = true := by simpa using h0
    clear htt h0
    generalize hopV s = hv at *
    generalize readIp s = rp at *
    generalize ipCode s = cc at *
    obtain ⟨tos, id, df, mf, off, ttl, pro, src, dst, opts, data⟩ := rp
    simp only [ipL] at *
    go_enter Tryd.func16, Tryd.ntmps16
    go_wp2_with fail
    go_at_call 23
    refine (CR.out _).mono ?_
    rintro e w1 ⟨rfl, hB⟩
    have hsz := hB.size
    go_wp2
    refine bodyPost_ret (v := .tuple #[.string ⟨#[]⟩, .bool false]) ?_ rfl ⟨by rw [HV.out], ?_⟩
    · simp [results, Tryd.results16, go_sem]
    · go_grown
end Go.Proofs.YtgknkhhoelgnhaaDoor
