/-
  The walk of the law FnIpTurned.
-/
import Derived.Test.YtgknkhhoelgnhaaDoorDhip
import Derived.Test.YtgknkhhoelgnhaaDoorIph2
import Derived.Test.YtgknkhhoelgnhaaDoorIps4
import Derived.Test.YtgknkhhoelgnhaaDoorIpRd4
import Derived.Test.YtgknkhhoelgnhaaDoorTurn
namespace Go.Proofs.YtgknkhhoelgnhaaDoor
open Go.RowKit Go.PlainAid
set_option maxRecDepth 100000 in
set_option maxHeartbeats 6400000 in
theorem walk_FnIpTurned (A : Nat → Addr) (C : Option Addr) (len cap : Nat) (zs : List Int) (w : World) (w0 : IsRow .u8 w C len cap zs) (hE : Errs A w) :
    Calls Tryd.prog 7 #[.slice C len cap] w fun e w' => e = .returned (.bool true) ∧ Below w.heap.size w w' := by
  have hl := row_len w0
  by_cases hz : 1048576 < len
  · go_enter Tryd.func7, Tryd.ntmps7
    go_wp2
    go_ret
    exact ⟨rfl, Below.refl _ _⟩
  · have hC := code_of_row w0 (by omega)
    clear w0
    have CR0 : Hid (∀ (s : ByteArray) (u : World), Below w.heap.size w u → s.size ≤ 1099511627776 → Calls Tryd.prog 22 #[.string s] u fun e w' => e = .returned (.tuple #[.agg (ipL (readIp s)), .int .i64 (ipCode s)]) ∧ Below u.heap.size u w') := fun s u hb hs => i_ReadIp A s u hs (hE.below hb)
    clear hE
    go_enter Tryd.func7, Tryd.ntmps7
    go_wp2_with fail
    refine (big_no _ _ _ _ (by omega)).mono ?_
    rintro e w' ⟨rfl, hw'⟩
    rw [hw']
    clear hw' w'
    go_wp2_with fail
    refine (d_IpOk _ C len cap _ hC).mono ?_
    rintro e w1 ⟨p, rfl, hpd, hpo, hB⟩
    have CI : Hid (∀ v : World, Calls Tryd.prog 20 #[.agg (ipL p)] v fun e w' => e = .returned (.string (str (ipText p))) ∧ Below v.heap.size v w') := fun v => i_IpBytes p v (by omega) (by omega)
    have CS : Hid (∀ v : World, Calls Tryd.prog 24 #[.agg (ipL p)] v fun e w' => e = .returned (.string (str (ipText p))) ∧ Below v.heap.size v w') := fun v => s_IpBytes p v (by omega) (by omega)
    have hA := Bx.new w1 (ipL p) 32
    have hB1 := hB.alloc hB.size (.cells (ipL p) 32)
    cases hok : ipOk p
    · have hT : ipText p = [] := by unfold ipText; rw [hok]; rfl
      rw [hT] at CI CS
      clear hok hB hpd hpo hT CR0
      obtain ⟨tos, id, df, mf, off, ttl, pro, src, dst, opts, data⟩ := p
      simp only [ipL] at *
      have a0 := hA.2 0 _ rfl; have a1 := hA.2 1 _ rfl; have a2 := hA.2 2 _ rfl; have a3 := hA.2 3 _ rfl; have a4 := hA.2 4 _ rfl; have a5 := hA.2 5 _ rfl; have a6 := hA.2 6 _ rfl; have a7 := hA.2 7 _ rfl; have a8 := hA.2 8 _ rfl; have a9 := hA.2 9 _ rfl; have a10 := hA.2 10 _ rfl
      go_wp2_with fail
      refine (CI.out _).mono ?_
      rintro e w2 ⟨rfl, hX⟩
      replace hA := hA.below hX; replace hB1 := hB1.trans (hX.mono hB1.size); clear hX
      clear a0 a1 a2 a3 a4 a5 a6 a7 a8 a9 a10
      have a0 := hA.2 0 _ rfl; have a1 := hA.2 1 _ rfl; have a2 := hA.2 2 _ rfl; have a3 := hA.2 3 _ rfl; have a4 := hA.2 4 _ rfl; have a5 := hA.2 5 _ rfl; have a6 := hA.2 6 _ rfl; have a7 := hA.2 7 _ rfl; have a8 := hA.2 8 _ rfl; have a9 := hA.2 9 _ rfl; have a10 := hA.2 10 _ rfl
      go_wp2_with fail
      refine (CS.out _).mono ?_
      rintro e w3 ⟨rfl, hX⟩
      replace hA := hA.below hX; replace hB1 := hB1.trans (hX.mono hB1.size); clear hX
      clear a0 a1 a2 a3 a4 a5 a6 a7 a8 a9 a10
      have a0 := hA.2 0 _ rfl; have a1 := hA.2 1 _ rfl; have a2 := hA.2 2 _ rfl; have a3 := hA.2 3 _ rfl; have a4 := hA.2 4 _ rfl; have a5 := hA.2 5 _ rfl; have a6 := hA.2 6 _ rfl; have a7 := hA.2 7 _ rfl; have a8 := hA.2 8 _ rfl; have a9 := hA.2 9 _ rfl; have a10 := hA.2 10 _ rfl
      go_wp2_with fail
      refine (CS.out _).mono ?_
      rintro e w4 ⟨rfl, hX⟩
      replace hB1 := hB1.trans (hX.mono hB1.size)
      go_wp2
      go_ret
      exact ⟨rfl, hB1⟩
    · have hF := (ipOk_iff p).1 hok
      have hx := sumOf_bd (ipHead p 0)
      have hz0 := sum_fits p
      have hTT : ipText p = ipT p (sumOf (ipHead p 0)) := by unfold ipText; rw [if_pos hok]; rfl
      have hTl := ipT_length p (sumOf (ipHead p 0))
      obtain ⟨hc0, hr0⟩ := ipBytes_code p hF
      rw [ipBytes_eq] at hc0 hr0
      have htn := fun i h1 hi c hc => ipT_turned p hF _ hx hz0 i h1 hi c hc
      rw [hTT] at CI CS
      have hbo := hF.opts
      have hbl := hF.len
      generalize ipT p (sumOf (ipHead p 0)) = T at *
      have hTs : (str T).size = T.length := str_size T
      have hT0 : T.isEmpty = false := by
        cases T with
        | nil => simp at hTl; omega
        | cons => rfl
      clear hok hB hF hx hz0 hTT
      have CR3 : Hid (∀ u : World, Below w.heap.size w u → Calls Tryd.prog 22 #[.string (str T)] u fun e w' => e = .returned (.tuple #[.agg (ipL p), .int .i64 0]) ∧ Below u.heap.size u w') := fun u hb => by
        have := CR0.out (str T) u hb (by omega)
        rw [hc0, hr0] at this; exact this
      have CO : Hid (∀ (i : Nat) (c : UInt8) (u : World), Below w.heap.size w u → 1 ≤ i → i < 20 + p.opts.size → T[i]? ≠ some c → ∃ j : Int, ¬ j = 0 ∧ Calls Tryd.prog 22 #[.string (str (T.set i c))] u fun e w' => e = .returned (.tuple #[.agg (ipL ip0), .int .i64 j]) ∧ Below u.heap.size u w') := fun i c u hb h1 hi hc => by
        have := CR0.out (str (T.set i c)) u hb (by rw [str_size, List.length_set]; omega)
        have hn := htn i h1 hi c hc
        have hr : readIp (str (T.set i c)) = ip0 := by unfold readIp; rw [if_neg hn]
        rw [hr] at this
        exact ⟨_, hn, this⟩
      have hT70 : T.length ≤ 65535 := by omega
      have hi0 : 20 + p.opts.size ≤ T.length := by omega
      have hoz : p.opts.size ≤ 40 := hbo.1
      clear htn hTl hbo hbl
      clear CR0 hc0 hr0
      obtain ⟨tos, id, df, mf, off, ttl, pro, src, dst, opts, data⟩ := p
      simp only [ipL, ip0] at *
      have a0 := hA.2 0 _ rfl; have a1 := hA.2 1 _ rfl; have a2 := hA.2 2 _ rfl; have a3 := hA.2 3 _ rfl; have a4 := hA.2 4 _ rfl; have a5 := hA.2 5 _ rfl; have a6 := hA.2 6 _ rfl; have a7 := hA.2 7 _ rfl; have a8 := hA.2 8 _ rfl; have a9 := hA.2 9 _ rfl; have a10 := hA.2 10 _ rfl
      go_wp2_with fail
      refine (CI.out _).mono ?_
      rintro e w2 ⟨rfl, hX⟩
      replace hA := hA.below hX; replace hB1 := hB1.trans (hX.mono hB1.size); clear hX
      clear a0 a1 a2 a3 a4 a5 a6 a7 a8 a9 a10
      have a0 := hA.2 0 _ rfl; have a1 := hA.2 1 _ rfl; have a2 := hA.2 2 _ rfl; have a3 := hA.2 3 _ rfl; have a4 := hA.2 4 _ rfl; have a5 := hA.2 5 _ rfl; have a6 := hA.2 6 _ rfl; have a7 := hA.2 7 _ rfl; have a8 := hA.2 8 _ rfl; have a9 := hA.2 9 _ rfl; have a10 := hA.2 10 _ rfl
      go_wp2_with fail
      refine (CS.out _).mono ?_
      rintro e w3 ⟨rfl, hX⟩
      replace hA := hA.below hX; replace hB1 := hB1.trans (hX.mono hB1.size); clear hX
      clear a0 a1 a2 a3 a4 a5 a6 a7 a8 a9 a10 CI CS
      have a9 := hA.2 9 _ rfl
      go_wp2_with fail
      refine (CR3.out _ hB1).mono ?_
      rintro e w4 ⟨rfl, hX⟩
      replace hA := hA.below hX
      replace hB1 := hB1.trans (hX.mono hB1.size)
      clear a9 hX CR3
      have hq := (Below.refl w4.heap.size w4).alloc (Nat.le_refl _) (.cells #[.int .i64 tos, .int .i64 id, .bool df, .bool mf, .int .i64 off, .int .i64 ttl, .int .i64 pro, .int .i64 src, .int .i64 dst, .string opts, .string data] 32)
      replace hA := hA.below hq
      replace hB1 := hB1.trans (hq.mono hB1.size)
      clear hq
      have a9 := hA.2 9 _ rfl
      have hC4 := hC.below hB1
      have hw1 : IntKind.i64.wrap (19 + (opts.size : Int)) = 19 + (opts.size : Int) := wraps_i64 _ (by omega) (by omega)
      go_wp2_with fail
      refine (l_place _ C len cap _ _ (by omega) hC4).mono ?_
      rintro e w5 ⟨x, rfl, hx0, hx1, hw5⟩
      rw [hw5]
      clear hw5 w5
      obtain ⟨i, rfl⟩ := Int.eq_ofNat_of_zero_le hx0
      have hi1 : 1 + i < T.length := by omega
      have hi2 : 1 + i < 20 + opts.size := by omega
      have hw2 : IntKind.i64.wrap (1 + (i : Int)) = 1 + (i : Int) := wraps_i64 _ (by omega) (by omega)
      have CT : Hid (∀ v : World, Code v w.heap.size C len → Calls Tryd.prog 28 #[.string (str T), .int .i64 (1 + (i : Int)), .slice C len cap] v fun e w' => ∃ c : UInt8, T[1 + i]? ≠ some c ∧ e = .returned (.string (str (T.set (1 + i) c))) ∧ Below v.heap.size v w') := fun v hv => by
        have := l_turned _ C len cap (str T) (1 + i) v (by rw [hTs]; exact hi1) (by rw [hTs]; omega) hv
        rw [show ((1 + i : Nat) : Int) = 1 + (i : Int) by omega] at this
        exact this
      go_wp2_with fail
      refine (CT.out _ hC4).mono ?_
      rintro e w7 ⟨c, hcn, rfl, hX⟩
      replace hB1 := hB1.trans (hX.mono hB1.size)
      clear hX a9 hA CT
      obtain ⟨j, hj, CO'⟩ := CO.out _ c w7 hB1 (by omega) hi2 hcn
      have CO2 : Hid (Calls Tryd.prog 22 #[.string (str (T.set (1 + i) c))] w7 fun e w' => e = .returned (.tuple #[.agg #[.int .i64 0, .int .i64 0, .bool false, .bool false, .int .i64 0, .int .i64 0, .int .i64 0, .int .i64 0, .int .i64 0, .string ⟨#[]⟩, .string ⟨#[]⟩], .int .i64 j]) ∧ Below w7.heap.size w7 w') := CO'
      clear CO' CO
      have hj2 : (j != 0) = true := by simp [hj]
      clear hj hcn
      go_wp2_with fail
      refine CO2.out.mono ?_
      rintro e w8 ⟨rfl, hX⟩
      replace hB1 := hB1.trans (hX.mono hB1.size)
      replace hB1 := hB1.alloc hB1.size (.cells #[.int .i64 0, .int .i64 0, .bool false, .bool false, .int .i64 0, .int .i64 0, .int .i64 0, .int .i64 0, .int .i64 0, .string ⟨#[]⟩, .string ⟨#[]⟩] 32)
      go_wp2
      go_ret
      exact ⟨rfl, hB1⟩
end Go.Proofs.YtgknkhhoelgnhaaDoor
