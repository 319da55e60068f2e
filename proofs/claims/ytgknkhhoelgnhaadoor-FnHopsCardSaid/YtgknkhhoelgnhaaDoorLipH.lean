/-
  The walk of the law FnHops.
-/
import Derived.Test.YtgknkhhoelgnhaaDoorDhip
import Derived.Test.YtgknkhhoelgnhaaDoorIph1
import Derived.Test.YtgknkhhoelgnhaaDoorIps4
import Derived.Test.YtgknkhhoelgnhaaDoorIpRd4
namespace Go.Proofs.YtgknkhhoelgnhaaDoor
open Go.RowKit Go.PlainAid
/-- a datagram that has k hops -/
def HopG (t : ByteArray) (k : Int) : Prop := ipCode t = 0 ∧ bt t 8 = k ∧ t.size ≤ 65535
theorem HopG.next {t : ByteArray} {k : Int} (h : HopG t k) (h1 : 1 < k) : HopG (str (hopT t)) (k - 1) ∧ hopV t = .tuple #[.string (str (hopT t)), .bool true] := by
  obtain ⟨h0, rfl, hs⟩ := h
  obtain ⟨c0, r0⟩ := hop_read h0 h1
  obtain ⟨hF, hT, _, _⟩ := hop_plain h0 h1
  refine ⟨⟨c0, ?_, ?_⟩, ?_⟩
  · rw [← ttl_read c0, r0]; rfl
  · rw [str_size, hT, ipT_length]; exact hF.len
  · unfold hopV hopOk; simp [h0, h1]
theorem HopG.last {t : ByteArray} {k : Int} (h : HopG t k) (h1 : k ≤ 1) : hopV t = .tuple #[.string ⟨#[]⟩, .bool false] := by
  obtain ⟨h0, rfl, hs⟩ := h
  unfold hopV hopOk
  have : ¬ 1 < bt t 8 := by omega
  simp [h0, this]
def intH : Value → Int
  | .int _ n => n
  | _ => 0
set_option maxRecDepth 100000 in
set_option maxHeartbeats 6400000 in
theorem walk_FnHops (A : Nat → Addr) (C : Option Addr) (len cap : Nat) (zs : List Int) (w : World) (w0 : IsRow .u8 w C len cap zs) (hE : Errs A w) :
    Calls Tryd.prog 9 #[.slice C len cap] w fun e w' => e = .returned (.bool true) ∧ Below w.heap.size w w' := by
  have hl := row_len w0
  by_cases hz : 1048576 < len
  · go_enter Tryd.func9, Tryd.ntmps9
    go_wp2
    go_ret
    exact ⟨rfl, Below.refl _ _⟩
  · have hC := code_of_row w0 (by omega)
    clear w0
    have CH : Hid (∀ (s : ByteArray) (u : World), Below w.heap.size w u → s.size ≤ 1099511627776 → Calls Tryd.prog 17 #[.string s] u fun e w' => e = .returned (hopV s) ∧ Below u.heap.size u w') := fun s u hb hs => i_Hopped A s u hs (hE.below hb)
    clear hE
    go_enter Tryd.func9, Tryd.ntmps9
    go_wp2_with fail
    refine (big_no _ _ _ _ (by omega)).mono ?_
    rintro e w' ⟨rfl, hw'⟩
    rw [hw']
    clear hw' w'
    go_wp2_with fail
    refine (d_IpOk _ C len cap _ hC).mono ?_
    rintro e w1 ⟨p, rfl, hpd, hpo, hB⟩
    have CI : Hid (∀ v : World, Calls Tryd.prog 20 #[.agg (ipL p)] v fun e w' => e = .returned (.string (str (ipText p))) ∧ Below v.heap.size v w') := fun v => i_IpBytes p v (by omega) (by omega)
    have CK : Hid (∀ v : World, Calls Tryd.prog 26 #[.agg (ipL p)] v fun e w' => e = .returned (.bool (ipOk p)) ∧ Below v.heap.size v w') := fun v => i_IpOk p v (by omega) (by omega)
    have CS : Hid (∀ v : World, Calls Tryd.prog 25 #[.agg (ipL p)] v fun e w' => e = .returned (.bool (ipOk p)) ∧ Below v.heap.size v w') := fun v => s_IpOk p v (by omega) (by omega)
    have hA := Bx.new w1 (ipL p) 32
    have hB1 := hB.alloc hB.size (.cells (ipL p) 32)
    by_cases hgo : ipOk p = true ∧ p.data.size ≤ 1000
    · obtain ⟨hok, hd1⟩ := hgo
      have hF := (ipOk_iff p).1 hok
      have hTT : ipText p = ipBytes p := by unfold ipText; rw [if_pos hok]
      obtain ⟨hc0, hr0⟩ := ipBytes_code p hF
      have hTl : (ipBytes p).length = 20 + p.opts.size + p.data.size := by rw [ipBytes_eq, ipT_length]
      have hG0 : HopG (str (ipBytes p)) p.ttl := ⟨hc0, by rw [← ttl_read hc0, hr0], by rw [str_size, hTl]; exact hF.len⟩
      rw [hTT] at CI
      rw [hok] at CS
      have httl := hF.ttl
      clear CK hok hF hTT hc0 hr0 hTl hB
      generalize ipBytes p = T at *
      obtain ⟨tos, id, df, mf, off, ttl, pro, src, dst, opts, data⟩ := p
      simp only [ipL] at *
      obtain ⟨ht0, ht1⟩ := httl
      have hd2 : ¬ 1000 < (data.size : Int) := by omega
      have a0 := hA.2 0 _ rfl; have a1 := hA.2 1 _ rfl; have a2 := hA.2 2 _ rfl; have a3 := hA.2 3 _ rfl; have a4 := hA.2 4 _ rfl; have a5 := hA.2 5 _ rfl; have a6 := hA.2 6 _ rfl; have a7 := hA.2 7 _ rfl; have a8 := hA.2 8 _ rfl; have a9 := hA.2 9 _ rfl; have a10 := hA.2 10 _ rfl
      go_wp2_with fail
      refine (CS.out _).mono ?_
      rintro e w2 ⟨rfl, hX⟩
      replace hA := hA.below hX; replace hB1 := hB1.trans (hX.mono hB1.size); clear hX CS
      clear a0 a1 a2 a3 a4 a5 a6 a7 a8 a9 a10
      have a0 := hA.2 0 _ rfl; have a1 := hA.2 1 _ rfl; have a2 := hA.2 2 _ rfl; have a3 := hA.2 3 _ rfl; have a4 := hA.2 4 _ rfl; have a5 := hA.2 5 _ rfl; have a6 := hA.2 6 _ rfl; have a7 := hA.2 7 _ rfl; have a8 := hA.2 8 _ rfl; have a9 := hA.2 9 _ rfl; have a10 := hA.2 10 _ rfl
      go_wp2_with fail
      refine (CI.out _).mono ?_
      rintro e w3 ⟨rfl, hX⟩
      replace hA := hA.below hX; replace hB1 := hB1.trans (hX.mono hB1.size); clear hX CI
      clear a0 a1 a2 a3 a4 a5 a6 a7 a8 a9 a10 hpd hpo
      go_wp2
      go_loopw [4, 5] (fun s n wr => ∃ (t : ByteArray) (j : Nat), s = .string t ∧ n = .int .i64 (j : Int) ∧ HopG t (ttl - (j : Int)) ∧ ((j : Int) ≤ ttl - 1 ∨ j = 0) ∧ Bx wr w1.heap.size [.int .i64 tos, .int .i64 id, .bool df, .bool mf, .int .i64 off, .int .i64 ttl, .int .i64 pro, .int .i64 src, .int .i64 dst, .string opts, .string data] ∧ Below w.heap.size w wr) (fun _ n _ => (300 - intH n).toNat)
      case atStart => exact ⟨_, 0, rfl, rfl, by simpa using hG0, .inr rfl, hA, hB1⟩
      case round =>
        clear hG0 hA hB1
        obtain ⟨t, j, rfl, rfl, hG, hj, hA, hB1⟩ := hrel
        have hts := hG.2.2
        by_cases hk : 1 < ttl - (j : Int)
        · obtain ⟨hG2, hV⟩ := hG.next hk
          have C1 := CH.out t wr hB1 (by omega)
          rw [hV] at C1
          have C2 : Hid (Calls Tryd.prog 17 #[.string t] wr fun e w' => e = .returned (.tuple #[.string (str (hopT t)), .bool true]) ∧ Below wr.heap.size wr w') := C1
          clear C1 hV hG
          generalize str (hopT t) = t2 at *
          have hj2 : ¬ 256 < (j : Int) := by omega
          have hw : IntKind.i64.wrap ((j : Int) + 1) = (j : Int) + 1 := wraps_i64 _ (by omega) (by omega)
          go_wp2_with fail
          refine C2.out.mono ?_
          rintro e w4 ⟨rfl, hX⟩
          replace hA := hA.below hX; replace hB1 := hB1.trans (hX.mono hB1.size); clear hX C2
          go_wp2
          go_roundw
          case rel => exact ⟨t2, j + 1, rfl, by go_num, by rw [show ttl - ((j + 1 : Nat) : Int) = ttl - (j : Int) - 1 by omega]; exact hG2, .inl (by omega), hA, hB1⟩
          case measure => simp [intH]; omega
        · have hV := hG.last (by omega)
          have C1 := CH.out t wr hB1 (by omega)
          rw [hV] at C1
          have C2 : Hid (Calls Tryd.prog 17 #[.string t] wr fun e w' => e = .returned (.tuple #[.string ⟨#[]⟩, .bool false]) ∧ Below wr.heap.size wr w') := C1
          clear C1 hV hG
          have hw : IntKind.i64.wrap (ttl - 1) = ttl - 1 := by rw [IntKind.wrap_i64]; omega
          have hm : max (ttl - 1) 0 = (j : Int) := by omega
          go_wp2_with fail
          refine C2.out.mono ?_
          rintro e w4 ⟨rfl, hX⟩
          replace hA := hA.below hX; replace hB1 := hB1.trans (hX.mono hB1.size); clear hX C2
          have a5 := hA.2 5 _ rfl
          clear hm
          by_cases hm0 : 0 ≤ ttl - 1
          · have hq : ((j : Int) == ttl - 1) = true := by simp; omega
            clear hj
            go_wp2
            go_ret
            exact ⟨rfl, hB1⟩
          · have hj0 : j = 0 := by omega
            subst hj0
            clear hj
            go_wp2
            go_ret
            exact ⟨rfl, hB1⟩
    · have hpick : ((!ipOk p) || decide (1000 < (p.data.size : Int))) = true := by
        cases hok : ipOk p
        · rfl
        · simp; have : ¬ p.data.size ≤ 1000 := fun h => hgo ⟨hok, h⟩
          omega
      have hcase : ipOk p = false ∨ ipOk p = true ∧ 1000 < (p.data.size : Int) := by
        cases hok : ipOk p
        · exact .inl rfl
        · refine .inr ⟨rfl, ?_⟩
          have : ¬ p.data.size ≤ 1000 := fun h => hgo ⟨hok, h⟩
          omega
      clear hgo CI CH hpick hB
      generalize ipOk p = ok at *
      obtain ⟨tos, id, df, mf, off, ttl, pro, src, dst, opts, data⟩ := p
      simp only [ipL] at *
      have a0 := hA.2 0 _ rfl; have a1 := hA.2 1 _ rfl; have a2 := hA.2 2 _ rfl; have a3 := hA.2 3 _ rfl; have a4 := hA.2 4 _ rfl; have a5 := hA.2 5 _ rfl; have a6 := hA.2 6 _ rfl; have a7 := hA.2 7 _ rfl; have a8 := hA.2 8 _ rfl; have a9 := hA.2 9 _ rfl; have a10 := hA.2 10 _ rfl
      rcases hcase with rfl | ⟨rfl, hbig⟩
      all_goals
        go_wp2_with fail
        refine (CS.out _).mono ?_
        rintro e w2 ⟨rfl, hX⟩
        replace hA := hA.below hX; replace hB1 := hB1.trans (hX.mono hB1.size); clear hX
        clear a0 a1 a2 a3 a4 a5 a6 a7 a8 a9 a10
        have a10 := hA.2 10 _ rfl
        go_wp2_with fail
        clear a10
        have hne := BW.some w2
        have b0 := fun u : BW w2 => (hA.ofBW u).2 0 _ rfl
        have b1 := fun u : BW w2 => (hA.ofBW u).2 1 _ rfl
        have b2 := fun u : BW w2 => (hA.ofBW u).2 2 _ rfl
        have b3 := fun u : BW w2 => (hA.ofBW u).2 3 _ rfl
        have b4 := fun u : BW w2 => (hA.ofBW u).2 4 _ rfl
        have b5 := fun u : BW w2 => (hA.ofBW u).2 5 _ rfl
        have b6 := fun u : BW w2 => (hA.ofBW u).2 6 _ rfl
        have b7 := fun u : BW w2 => (hA.ofBW u).2 7 _ rfl
        have b8 := fun u : BW w2 => (hA.ofBW u).2 8 _ rfl
        have b9 := fun u : BW w2 => (hA.ofBW u).2 9 _ rfl
        have b10 := fun u : BW w2 => (hA.ofBW u).2 10 _ rfl
        refine wp_region_below (by kernel_rfl) (by kernel_rfl) ?_
        repeat (go_big_quiet_step (first | (go_at_call 26; exact Calls.into (CK.out _)) | (go_at_call 25; exact Calls.into (CS.out _))))
        refine wpQuiet_nil ?_
        intro _ hw'
        obtain ⟨u, hw''⟩ := hw'
        subst hw''
        clear b0 b1 b2 b3 b4 b5 b6 b7 b8 b9 b10 hne
        go_wp2
        go_ret
        exact ⟨rfl, hB1.trans (u.le.mono hB1.size)⟩
end Go.Proofs.YtgknkhhoelgnhaaDoor
