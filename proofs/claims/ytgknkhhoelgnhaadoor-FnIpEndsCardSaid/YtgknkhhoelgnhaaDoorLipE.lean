/-
  The walk of the law FnIpEnds.
-/
import Derived.Test.YtgknkhhoelgnhaaDoorDhip
import Derived.Test.YtgknkhhoelgnhaaDoorIph2
import Derived.Test.YtgknkhhoelgnhaaDoorIps4
import Derived.Test.YtgknkhhoelgnhaaDoorIpRd4
namespace Go.Proofs.YtgknkhhoelgnhaaDoor
open Go.RowKit Go.PlainAid
set_option maxRecDepth 100000 in
set_option maxHeartbeats 6400000 in
theorem walk_FnIpEnds (A : Nat → Addr) (C : Option Addr) (len cap : Nat) (zs : List Int) (w : World) (w0 : IsRow .u8 w C len cap zs) (hE : Errs A w) :
    Calls Tryd.prog 11 #[.slice C len cap] w fun e w' => e = .returned (.bool true) ∧ Below w.heap.size w w' := by
  have hl := row_len w0
  by_cases hz : 1048576 < len
  · go_enter Tryd.func11, Tryd.ntmps11
    go_wp2
    go_ret
    exact ⟨rfl, Below.refl _ _⟩
  · have hC := code_of_row w0 (by omega)
    clear w0
    have CR0 : Hid (∀ (s : ByteArray) (u : World), Below w.heap.size w u → s.size ≤ 1099511627776 → Calls Tryd.prog 22 #[.string s] u fun e w' => e = .returned (.tuple #[.agg (ipL (readIp s)), .int .i64 (ipCode s)]) ∧ Below u.heap.size u w') := fun s u hb hs => i_ReadIp A s u hs (hE.below hb)
    clear hE
    go_enter Tryd.func11, Tryd.ntmps11
    go_wp2_with fail
    refine (big_no _ _ _ _ (by omega)).mono ?_
    rintro e w' ⟨rfl, hw'⟩
    rw [hw']
    clear hw' w'
    go_wp2_with fail
    refine (d_IpBytes _ C len cap _ hC).mono ?_
    rintro e w1 ⟨p, rfl, hpd, hpo, hB⟩
    have CI : Hid (∀ v : World, Calls Tryd.prog 20 #[.agg (ipL p)] v fun e w' => e = .returned (.string (str (ipText p))) ∧ Below v.heap.size v w') := fun v => i_IpBytes p v (by omega) (by omega)
    have CS : Hid (∀ v : World, Calls Tryd.prog 24 #[.agg (ipL p)] v fun e w' => e = .returned (.string (str (ipText p))) ∧ Below v.heap.size v w') := fun v => s_IpBytes p v (by omega) (by omega)
    have hA := Bx.new w1 (ipL p) 32
    have hB1 := hB.alloc hB.size (.cells (ipL p) 32)
    cases hok : ipOk p
    · have hT : ipText p = [] := by unfold ipText; rw [hok]; rfl
      rw [hT] at CI CS
      clear hok hB hpd hpo hT CR0
      obtain ⟨tos, id, df, mf, off, ttl, pro, src, dst, opts, data⟩ := p
      simp only [ipL] at *
      have a0 := hA.2 0 _ rfl; have a1 := hA.2 1 _ rfl; have a2 := hA.2 2 _ rfl; have a3 := hA.2 3 _ rfl; have a4 := hA.2 4 _ rfl; have a5 := hA.2 5 _ rfl; have a6 := hA.2 6 _ rfl; have a7 := hA.2 7 _ rfl; have a8 := hA.2 8 _ rfl; have a9 := hA.2 9 _ rfl; have a10 := hA.2 10 _ rfl
      go_wp2_with fail
      refine (CI.out _).mono ?_
      rintro e w2 ⟨rfl, hX⟩
      replace hA := hA.below hX; replace hB1 := hB1.trans (hX.mono hB1.size); clear hX
      clear a0 a1 a2 a3 a4 a5 a6 a7 a8 a9 a10
      have a0 := hA.2 0 _ rfl; have a1 := hA.2 1 _ rfl; have a2 := hA.2 2 _ rfl; have a3 := hA.2 3 _ rfl; have a4 := hA.2 4 _ rfl; have a5 := hA.2 5 _ rfl; have a6 := hA.2 6 _ rfl; have a7 := hA.2 7 _ rfl; have a8 := hA.2 8 _ rfl; have a9 := hA.2 9 _ rfl; have a10 := hA.2 10 _ rfl
      go_wp2_with fail
      refine (CS.out _).mono ?_
      rintro e w3 ⟨rfl, hX⟩
      replace hA := hA.below hX; replace hB1 := hB1.trans (hX.mono hB1.size); clear hX
      clear a0 a1 a2 a3 a4 a5 a6 a7 a8 a9 a10
      have a0 := hA.2 0 _ rfl; have a1 := hA.2 1 _ rfl; have a2 := hA.2 2 _ rfl; have a3 := hA.2 3 _ rfl; have a4 := hA.2 4 _ rfl; have a5 := hA.2 5 _ rfl; have a6 := hA.2 6 _ rfl; have a7 := hA.2 7 _ rfl; have a8 := hA.2 8 _ rfl; have a9 := hA.2 9 _ rfl; have a10 := hA.2 10 _ rfl
      go_wp2_with fail
      refine (CS.out _).mono ?_
      rintro e w4 ⟨rfl, hX⟩
      replace hB1 := hB1.trans (hX.mono hB1.size)
      go_wp2
      go_ret
      exact ⟨rfl, hB1⟩
    · have hF := (ipOk_iff p).1 hok
      have hx := sumOf_bd (ipHead p 0)
      have hz0 := sum_fits p
      have hTT : ipText p = ipT p (sumOf (ipHead p 0)) := by unfold ipText; rw [if_pos hok]; rfl
      have hTl := ipT_length p (sumOf (ipHead p 0))
      obtain ⟨hc0, hr0⟩ := ipBytes_code p hF
      rw [ipBytes_eq] at hc0 hr0
      have hm := ipT_more p hF _ hx 0
      have hless := ipT_less p hF _ hx
      rw [hTT] at CI CS
      have hbo := hF.opts
      have hbl := hF.len
      generalize ipT p (sumOf (ipHead p 0)) = T at *
      have hTs : (str T).size = T.length := str_size T
      have hT0 : T.isEmpty = false := by
        cases T with
        | nil => simp at hTl; omega
        | cons => rfl
      clear hok hB hF hx hz0 hTT
      have e3 : str T ++ (⟨#[0]⟩ : ByteArray) = str (T ++ [0]) := str_app T [0]
      have CR1 : Hid (∀ u : World, Below w.heap.size w u → Calls Tryd.prog 22 #[.string (str T ++ ⟨#[0]⟩)] u fun e w' => e = .returned (.tuple #[.agg (ipL ip0), .int .i64 3]) ∧ Below u.heap.size u w') := fun u hb => by
        have := CR0.out (str T ++ ⟨#[0]⟩) u hb (by rw [e3, str_size, List.length_append]; simp; omega)
        have hr : readIp (str T ++ ⟨#[0]⟩) = ip0 := by unfold readIp; rw [e3, hm, if_neg (by decide)]
        rw [hr, e3, hm] at this
        rw [e3]; exact this
      obtain ⟨cl, hcl, hcl2⟩ : ∃ cl : Int, ipCode (str (T.take (T.length - 1))) = cl ∧ (cl = 3 ∨ cl = 1 ∧ T.length = 20) := ⟨_, rfl, by rw [hless]; split <;> omega⟩
      have e4 : (str T).extract 0 (T.length - 1) = str (T.take (T.length - 1)) := by rw [str_extract, List.drop_zero, Nat.sub_zero]
      have CR2 : Hid (∀ u : World, Below w.heap.size w u → Calls Tryd.prog 22 #[.string ((str T).extract 0 (T.length - 1))] u fun e w' => e = .returned (.tuple #[.agg (ipL ip0), .int .i64 cl]) ∧ Below u.heap.size u w') := fun u hb => by
        have := CR0.out (str (T.take (T.length - 1))) u hb (by rw [str_size, List.length_take]; omega)
        have hr : readIp (str (T.take (T.length - 1))) = ip0 := by unfold readIp; rw [hcl, if_neg (by omega)]
        rw [hr, hcl] at this
        rw [e4]; exact this
      have CR3 : Hid (∀ u : World, Below w.heap.size w u → Calls Tryd.prog 22 #[.string (str T)] u fun e w' => e = .returned (.tuple #[.agg (ipL p), .int .i64 0]) ∧ Below u.heap.size u w') := fun u hb => by
        have := CR0.out (str T) u hb (by omega)
        rw [hc0, hr0] at this; exact this
      have hT20 : 20 ≤ T.length := by omega
      have hT70 : T.length ≤ 65535 := by omega
      have hw1 : IntKind.i64.wrap ((T.length : Int) - 1) = ((T.length - 1 : Nat) : Int) := (wraps_i64 _ (by omega) (by omega)).trans (by omega)
      clear e3 e4 hcl hm hless hTl hbo hbl
      clear CR0 hc0 hr0
      obtain ⟨tos, id, df, mf, off, ttl, pro, src, dst, opts, data⟩ := p
      simp only [ipL, ip0] at *
      have a0 := hA.2 0 _ rfl; have a1 := hA.2 1 _ rfl; have a2 := hA.2 2 _ rfl; have a3 := hA.2 3 _ rfl; have a4 := hA.2 4 _ rfl; have a5 := hA.2 5 _ rfl; have a6 := hA.2 6 _ rfl; have a7 := hA.2 7 _ rfl; have a8 := hA.2 8 _ rfl; have a9 := hA.2 9 _ rfl; have a10 := hA.2 10 _ rfl
      go_wp2_with fail
      refine (CI.out _).mono ?_
      rintro e w2 ⟨rfl, hX⟩
      replace hA := hA.below hX; replace hB1 := hB1.trans (hX.mono hB1.size); clear hX
      clear a0 a1 a2 a3 a4 a5 a6 a7 a8 a9 a10
      have a0 := hA.2 0 _ rfl; have a1 := hA.2 1 _ rfl; have a2 := hA.2 2 _ rfl; have a3 := hA.2 3 _ rfl; have a4 := hA.2 4 _ rfl; have a5 := hA.2 5 _ rfl; have a6 := hA.2 6 _ rfl; have a7 := hA.2 7 _ rfl; have a8 := hA.2 8 _ rfl; have a9 := hA.2 9 _ rfl; have a10 := hA.2 10 _ rfl
      go_wp2_with fail
      refine (CS.out _).mono ?_
      rintro e w3 ⟨rfl, hX⟩
      replace hA := hA.below hX; replace hB1 := hB1.trans (hX.mono hB1.size); clear hX
      clear a0 a1 a2 a3 a4 a5 a6 a7 a8 a9 a10 CI CS
      clear hA
      go_wp2_with fail
      refine (CR1.out _ hB1).mono ?_
      rintro e w4 ⟨rfl, hX⟩
      replace hB1 := hB1.trans (hX.mono hB1.size)
      replace hB1 := hB1.alloc hB1.size (.cells #[.int .i64 0, .int .i64 0, .bool false, .bool false, .int .i64 0, .int .i64 0, .int .i64 0, .int .i64 0, .int .i64 0, .string ⟨#[]⟩, .string ⟨#[]⟩] 32)
      clear hX CR1
      go_wp2_with fail
      refine (CR2.out _ hB1).mono ?_
      rintro e w5 ⟨rfl, hX⟩
      replace hB1 := hB1.trans (hX.mono hB1.size)
      replace hB1 := hB1.alloc hB1.size (.cells #[.int .i64 0, .int .i64 0, .bool false, .bool false, .int .i64 0, .int .i64 0, .int .i64 0, .int .i64 0, .int .i64 0, .string ⟨#[]⟩, .string ⟨#[]⟩] 32)
      clear hX CR2
      go_wp2_with fail
      refine (CR3.out _ hB1).mono ?_
      rintro e w6 ⟨rfl, hX⟩
      replace hB1 := hB1.trans (hX.mono hB1.size)
      replace hB1 := hB1.alloc hB1.size (.cells #[.int .i64 tos, .int .i64 id, .bool df, .bool mf, .int .i64 off, .int .i64 ttl, .int .i64 pro, .int .i64 src, .int .i64 dst, .string opts, .string data] 32)
      clear hX CR3
      rcases hcl2 with rfl | ⟨rfl, h20⟩
      · go_wp2
        go_ret
        exact ⟨rfl, hB1⟩
      · have h20b : ((T.length : Int) == 20) = true := by simp; omega
        clear h20
        go_wp2
        go_ret
        exact ⟨rfl, hB1⟩
end Go.Proofs.YtgknkhhoelgnhaaDoor
