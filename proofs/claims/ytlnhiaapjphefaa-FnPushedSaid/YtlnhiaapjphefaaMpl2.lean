/-
  The bytes of an MPLS, by program and model; the exact law on it.
-/
import Derived.Test.YtlnhiaapjphefaaMpl1
namespace Go.Proofs.Ytlnhiaapjphefaa
open Go.RowKit Go.PlainAid
set_option maxRecDepth 100000 in
set_option maxHeartbeats 1600000 in
theorem i_tunMp (T : Option Addr) (c : Nat) (l : List LbV) (data : ByteArray) (w : World) (h : IntsAt w T (lbF l)) (hl : l.length ≤ 1048576) (hd : data.size ≤ 1099511627776) : Calls Try.prog 47 #[.iface 96 (.agg #[.slice T l.length c, .string data])] w fun e w' => e = .returned (.string (str (mpText l data))) ∧ Below w.heap.size w w' := by
  have CR : Hid (∀ u : World, Below w.heap.size w u → Calls Try.prog 142 #[.agg #[.slice T l.length c, .string data]] u fun e w' => e = .returned (.bool (lbsB l)) ∧ Below u.heap.size u w') := fun u hu => i_mpRight T c l data u (h.below hu) hl
  have CC : Hid (∀ u : World, Calls Try.prog 140 #[.agg #[.slice T l.length c, .string data]] u fun e w' => e = .returned (.string data) ∧ Below u.heap.size u w') := fun u => i_mpCar T _ c data u
  cases hn : lbsB l
  · rw [hn] at CR
    have HT : Hid (mpText l data = []) := by show _ = _; unfold mpText; rw [hn]; rfl
    generalize mpText l data = tx at *
    go_enter Try.func47, Try.ntmps47
    go_wp2_with (go_at_call 142; refine (CR.out _ (Below.refl _ _)).mono ?_; rintro e w1 ⟨rfl, hb1⟩)
    go_ret
    exact ⟨by rw [HT.out]; rfl, hb1⟩
  · rw [hn] at CR
    obtain ⟨hl1, hl4⟩ := lbsB_len hn
    have CH : Hid (∀ u : World, Below w.heap.size w u → Calls Try.prog 141 #[.agg #[.slice T l.length c, .string data]] u fun e w' => e = .returned (.string (str (mpHd l l.length ++ be 4 0))) ∧ Below u.heap.size u w') := fun u hu => i_mpHead T c l data u (h.below hu) hn
    by_cases hc : data.size ≤ 65000
    · have HT : Hid (str (mpHd l l.length ++ be 4 0) ++ data = str (mpText l data)) := by show _ = _; unfold mpText carB; rw [hn, str_app_bl]; simp [hc]
      have hlx : (mpHd l l.length ++ be 4 0).length = 4 * l.length + 4 := by rw [List.length_append, mpHd_len, be_length]
      generalize mpText l data = tx at *
      generalize mpHd l l.length ++ be 4 0 = hx at *
      clear hn
      go_enter Try.func47, Try.ntmps47
      go_wp2_with fail
      go_at_call 142
      refine (CR.out _ (Below.refl _ _)).mono ?_
      rintro e w1 ⟨rfl, hb1⟩
      have hB := hb1
      go_wp2_with fail
      go_at_call 140
      refine (CC.out _).mono ?_
      rintro e w2 ⟨rfl, hb2⟩
      replace hB := hB.trans (hb2.mono hB.size)
      go_wp2_with fail
      go_at_call 141
      refine (CH.out _ hB).mono ?_
      rintro e w3 ⟨rfl, hb3⟩
      replace hB := hB.trans (hb3.mono hB.size)
      go_wp2_with fail
      go_at_call 140
      refine (CC.out _).mono ?_
      rintro e w4 ⟨rfl, hb4⟩
      replace hB := hB.trans (hb4.mono hB.size)
      go_wp2
      go_ret
      exact ⟨ret_strb HT.out, hB⟩
    · have HT : Hid (mpText l data = []) := by show _ = _; unfold mpText carB; simp [hc]
      generalize mpText l data = tx at *
      clear hn
      go_enter Try.func47, Try.ntmps47
      go_wp2_with fail
      go_at_call 142
      refine (CR.out _ (Below.refl _ _)).mono ?_
      rintro e w1 ⟨rfl, hb1⟩
      go_wp2_with fail
      go_at_call 140
      refine (CC.out _).mono ?_
      rintro e w2 ⟨rfl, hb2⟩
      go_wp2
      go_ret
      exact ⟨by rw [HT.out]; rfl, hb1.trans (hb2.mono hb1.size)⟩
set_option maxRecDepth 100000 in
theorem i_MplsBytes (T : Option Addr) (c : Nat) (l : List LbV) (data : ByteArray) (w : World) (h : IntsAt w T (lbF l)) (hl : l.length ≤ 1048576) (hd : data.size ≤ 1099511627776) : Calls Try.prog 33 #[.slice T l.length c, .string data] w fun e w' => e = .returned (.string (str (mpText l data))) ∧ Below w.heap.size w w' := by
  have C : Hid (∀ u : World, u = w → Calls Try.prog 47 #[.iface 96 (.agg #[.slice T l.length c, .string data])] u fun e w' => e = .returned (.string (str (mpText l data))) ∧ Below u.heap.size u w') := by
    rintro u rfl; exact i_tunMp T c l data u h hl hd
  generalize mpText l data = tx at *
  go_enter Try.func33, Try.ntmps33
  go_wp2_with fail
  go_at_call 47
  refine (C.out _ rfl).mono ?_
  rintro e w1 ⟨rfl, hb1⟩
  go_wp2
  go_ret
  exact ⟨rfl, hb1⟩
set_option maxRecDepth 100000 in
set_option maxHeartbeats 6400000 in
theorem s_MplsBytes (T : Option Addr) (c : Nat) (l : List LbV) (data : ByteArray) (w : World) (h : IntsAt w T (lbF l)) (hl : l.length ≤ 1048576) (hd : data.size ≤ 1099511627776) : Calls Try.prog 37 #[.slice T l.length c, .string data] w fun e w' => e = .returned (.string (str (mpText l data))) ∧ Below w.heap.size w w' := by
  have CI : Hid (∀ u : World, Calls Try.prog 68 #[.int .i64 (l.length : Int), .int .i64 1, .int .i64 4] u fun e w' => e = .returned (.bool (inB (l.length : Int) 1 4)) ∧ w' = u) := fun u => s_In _ 1 4 u
  have CG : Hid (∀ u : World, Calls Try.prog 56 #[.string data] u fun e w' => e = .returned (.bool (!carB data)) ∧ w' = u) := fun u => s_Long data u hd
  have HT : Hid (mpText l data = if lbsB l && carB data then mpHd l l.length ++ be 4 0 ++ bl data else []) := rfl
  cases h0 : inB (l.length : Int) 1 4
  · have e0 : mpText l data = [] := by unfold mpText lbsB; rw [h0]; rfl
    have HE : Hid (mpText l data = []) := e0
    rw [h0] at CI
    clear e0 HT
    generalize mpText l data = tx at *
    go_enter Try.func37, Try.ntmps37
    go_wp2_with (go_at_call 68; refine (CI.out _).mono ?_; rintro e wz ⟨rfl, hz⟩; rw [hz]; clear hz wz)
    go_ret
    exact ⟨by rw [HE.out]; rfl, Below.refl _ _⟩
  · obtain ⟨hi1, hi4⟩ := of_inB h0
    rw [h0] at CI
    cases hc : carB data
    · have e0 : mpText l data = [] := by unfold mpText; rw [hc]; simp
      have HE : Hid (mpText l data = []) := e0
      rw [hc] at CG
      clear e0 HT
      generalize mpText l data = tx at *
      go_enter Try.func37, Try.ntmps37
      go_wp2_with (first | (go_at_call 68; refine (CI.out _).mono ?_; rintro e wz ⟨rfl, hz⟩; rw [hz]; clear hz wz) | (go_at_call 56; refine (CG.out _).mono ?_; rintro e wz ⟨rfl, hz⟩; rw [hz]; clear hz wz))
      go_ret
      exact ⟨by rw [HE.out]; rfl, Below.refl _ _⟩
    · rw [hc] at CG
      have hcs : data.size ≤ 65000 := of_decide_eq_true hc
      have HY : Hid ((∀ i, i < l.length → lbOk (lbA l i) = true) → mpText l data = mpHd l l.length ++ be 4 0 ++ bl data) := fun hh => by
        unfold mpText lbsB; rw [h0, hc, lbAll_yes hh]; rfl
      have HN : Hid (∀ i, i < l.length → lbOk (lbA l i) = false → mpText l data = []) := fun i hi hh => by
        unfold mpText lbsB; rw [lbAll_no hi hh]; simp
      have CB : Hid (∀ (n : Int) (u : World), Calls Try.prog 57 #[.int .i64 n, .int .i64 4] u fun e w' => e = .returned (.string (str (be 4 n))) ∧ Below u.heap.size u w') := fun n u => be_any n 4 u (by decide) (by decide)
      have CL : Hid (∀ (a : LbV) (u : World), Calls Try.prog 69 #[.agg (lbL a)] u fun e w' => e = .returned (.bool (lbOk a)) ∧ Below u.heap.size u w') := fun a u => s_Label a u
      clear HT hc h0
      generalize mpText l data = tx at *
      go_enter Try.func37, Try.ntmps37
      go_wp2_with (first | (go_at_call 68; refine (CI.out _).mono ?_; rintro e wz ⟨rfl, hz⟩; rw [hz]; clear hz wz) | (go_at_call 56; refine (CG.out _).mono ?_; rintro e wz ⟨rfl, hz⟩; rw [hz]; clear hz wz))
      go_loopw [6, 5] (fun i v wr => ∃ j : Nat, j ≤ l.length ∧ i = .int .i64 (j : Int) ∧ v = .string (str (mpHd l j)) ∧ Hid (∀ i, i < j → lbOk (lbA l i) = true) ∧ Below w.heap.size w wr) (fun i _ _ => ((l.length : Int) - intOf i).toNat)
      case atStart => exact ⟨0, by omega, rfl, rfl, fun i hi => by omega, Below.refl _ _⟩
      case round =>
        obtain ⟨j, hj, rfl, rfl, hst, hB⟩ := hrel
        have hms : (mpHd l j).length = 4 * j := mpHd_len l j
        by_cases hlt : j < l.length
        · rcases h.below hB with h | ⟨g, off, rfl, hg, hc⟩
          · have := lbF_len l; rw [h] at this; simp at this; omega
          · have hj1 : (j : Int) < (l.length : Int) := by omega
            have hcs2 := lb_cells hc j hlt
            clear hc
            have CLj : Hid (∀ u : World, Calls Try.prog 69 #[.agg (lbL (lbA l j))] u fun e w' => e = .returned (.bool (lbOk (lbA l j))) ∧ Below u.heap.size u w') := fun u => CL.out _ u
            cases hk : lbOk (lbA l j)
            · have ht := HN.out j hlt hk
              have HE : Hid (tx = []) := ht
              rw [hk] at CLj
              clear ht hk
              go_wp2_with (go_at_call 69; refine (CLj.out _).mono ?_; rintro e w2 ⟨rfl, hb2⟩)
              go_ret
              exact ⟨by rw [HE.out]; rfl, hB.trans (hb2.mono hB.size)⟩
            · have HH : Hid (∀ i, i < j + 1 → lbOk (lbA l i) = true) := fun i hi => by
                by_cases e : i = j
                · rw [e]; exact hk
                · exact hst.out i (by omega)
              have HS : Hid (mpHd l (j + 1) = mpHd l j ++ be 4 (lbN (lbA l j) (decide (j + 1 = l.length)))) := mpHd_succ l j
              have hbd := lbN_bd hk (decide (j + 1 = l.length))
              have HLN : Hid (lbN (lbA l j) (decide (j + 1 = l.length)) = (lbA l j).label * 4096 + (lbA l j).tc * 512 + (lbA l j).ttl + (if decide (j + 1 = l.length) then 256 else 0)) := rfl
              rw [hk] at CLj
              clear hk hst
              go_wp2_with fail
              go_at_call 69
              refine (CLj.out _).mono ?_
              rintro e w2 ⟨rfl, hb2⟩
              have hg2 : g < w2.heap.size := Nat.lt_of_lt_of_le hg hb2.size
              have hB2 := hB.trans (hb2.mono hB.size)
              have c0 := (hb2.cell (p := ⟨g, off + j * 3, none⟩) hg).trans hcs2.1
              have c1 := (hb2.cell (p := ⟨g, off + j * 3 + 1, none⟩) hg).trans hcs2.2.1
              have c2 := (hb2.cell (p := ⟨g, off + j * 3 + 2, none⟩) hg).trans hcs2.2.2
              clear hcs2 hb2
              generalize lbA l j = b at *
              obtain ⟨x, y, z⟩ := b
              simp only [] at *
              obtain ⟨n0, n1, q0, q1, q2, q3, q4, q5⟩ := hbd
              have s1 : wrap64 (x * 4096) = x * 4096 := by unfold wrap64; omega
              have s2 : wrap64 (y * 512) = y * 512 := by unfold wrap64; omega
              generalize lbN ⟨x, y, z⟩ (decide (j + 1 = l.length)) = nn at *
              go_wp2_with fail
              go_quiet (fail)
              by_cases he : j + 1 = l.length
              · have hd : ((j : Int) == (l.length : Int) - 1) = true := by rw [beq_iff_eq]; omega
                rw [decide_eq_true he, if_pos rfl] at HLN
                have hnn : nn = x * 4096 + y * 512 + z + 256 := HLN.out
                subst hnn
                have b4 : (be 4 (x * 4096 + y * 512 + z + 256)).length = 4 := be_length 4 _
                go_wp2_with (go_at_call 57; refine (CB.out _ _).mono ?_; rintro e w3 ⟨rfl, hb3⟩)
                go_roundw
                case rel => exact ⟨j + 1, by omega, by go_num, by rw [HS.out, ← str_app], HH, by refine Below.trans ?_ (hb3.mono hB2.size); exact hB2.trans ⟨rfl, rfl, rfl, Nat.le_refl _, fun _ _ => rfl⟩⟩
                case measure => simp [intOf]; omega
              · have hd : ((j : Int) == (l.length : Int) - 1) = false := by rw [beq_eq_false_iff_ne]; omega
                rw [decide_eq_false he] at HLN
                have hnn : nn = x * 4096 + y * 512 + z := by rw [HLN.out]; simp
                subst hnn
                have b4 : (be 4 (x * 4096 + y * 512 + z)).length = 4 := be_length 4 _
                go_wp2_with (go_at_call 57; refine (CB.out _ _).mono ?_; rintro e w3 ⟨rfl, hb3⟩)
                go_roundw
                case rel => exact ⟨j + 1, by omega, by go_num, by rw [HS.out, ← str_app], HH, by refine Below.trans ?_ (hb3.mono hB2.size); exact hB2.trans ⟨rfl, rfl, rfl, Nat.le_refl _, fun _ _ => rfl⟩⟩
                case measure => simp [intOf]; omega
        · have e : j = l.length := by omega
          subst e
          have HE : Hid (tx = mpHd l l.length ++ be 4 0 ++ bl data) := HY.out hst.out
          have b4 : (be 4 0).length = 4 := be_length 4 0
          go_wp2_with (go_at_call 57; refine (CB.out _ _).mono ?_; rintro e w1 ⟨rfl, hb1⟩)
          go_ret
          exact ⟨ret_strb (by rw [HE.out, str_app, str_app_bl]), hB.trans (hb1.mono hB.size)⟩
end Go.Proofs.Ytlnhiaapjphefaa
