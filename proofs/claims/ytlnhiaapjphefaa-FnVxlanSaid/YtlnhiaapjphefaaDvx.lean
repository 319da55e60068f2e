/-
  The law on VXLANs: a net and bytes come back from one; what is read, written again, is the same.
-/
import Derived.Test.YtlnhiaapjphefaaDtun1
import Derived.Test.YtlnhiaapjphefaaVxr
namespace Go.Proofs.Ytlnhiaapjphefaa
open Go.RowKit Go.PlainAid
set_option maxRecDepth 100000 in
set_option maxHeartbeats 800000 in
theorem d_VxlanBytes (B : Nat) (C : Option Addr) (len cap : Nat) (w : World) (h : Code w B C len) :
    Calls Try.prog 11 #[.slice C len cap] w fun e w' => ∃ (x : Int) (t : ByteArray), e = .returned (.tuple #[.int .i64 x, .string t]) ∧ t.size ≤ 65100 ∧ Below w.heap.size w w' := by
  go_enter Try.func11, Try.ntmps11
  go_wp2_with fail
  refine (r_Open B C len cap _ h).mono ?_
  rintro e w1 ⟨rfl, hR1, hb1, hs1⟩
  go_wp2_with fail
  refine (r_net _ C len cap _ hR1).mono ?_
  rintro e w2 ⟨x, rfl, hR2, hO2⟩
  go_wp2_with fail
  refine (r_data _ C len cap _ hR2).mono ?_
  rintro e w3 ⟨t, rfl, ht, hR3, hO3⟩
  go_wp2
  go_ret2
  exact ⟨x, t, rfl, ht, hb1.trans ((hO2.trans hO3).below (Nat.le_refl _) hb1.size)⟩
theorem vxText_len (net : Int) (data : ByteArray) : (vxText net data).length ≤ data.size + 8 := by
  unfold vxText; split
  · simp only [vxHead, List.length_append, be_length, bl_length]; omega
  · simp
set_option maxRecDepth 100000 in
set_option maxHeartbeats 800000 in
theorem d_ReadVxlan (B : Nat) (C : Option Addr) (len cap : Nat) (w : World) (h : Code w B C len) :
    Calls Try.prog 13 #[.slice C len cap] w fun e w' => ∃ t : ByteArray, e = .returned (.string t) ∧ t.size ≤ 100 ∧ Below w.heap.size w w' := by
  go_enter Try.func13, Try.ntmps13
  go_wp2_with fail
  refine (r_Open B C len cap _ h).mono ?_
  rintro e w1 ⟨rfl, hR1, hb1, hs1⟩
  go_wp2_with fail
  refine (r_net _ C len cap _ hR1).mono ?_
  rintro e w2 ⟨x, rfl, hR2, hO2⟩
  go_wp2_with fail
  refine (r_bytes _ C len cap _ _ (by omega) (by omega) hR2).mono ?_
  rintro e w3 ⟨l, rfl, hl, hR3, hO3⟩
  have hsl : (str l).size ≤ 30 := by rw [str_size]; omega
  go_wp2_with fail
  refine (s_VxlanBytes x (str l) _ (by omega)).mono ?_
  rintro e w4 ⟨rfl, hb4⟩
  have hvl := vxText_len x (str l)
  have hvs : (str (vxText x (str l))).size ≤ 38 := by rw [str_size]; omega
  go_wp2_with fail
  refine (r_bent _ C len cap _ _ (by omega) (hR3.far hb4)).mono ?_
  rintro e w5 ⟨t, rfl, ht, hR5, hO5⟩
  go_wp2
  go_ret
  have hO4 : Only w.heap.size w1 w4 := (hO2.trans hO3).trans ⟨hb4.os, hb4.tape, hb4.output, hb4.size, fun i hi _ => hb4.block i hi⟩
  exact ⟨t, rfl, by omega, hb1.trans ((hO4.trans hO5).below (Nat.le_refl _) hb1.size)⟩
theorem vx_numAt (net : Int) (data : ByteArray) (h0 : 0 ≤ net) (h1 : net ≤ 16777215) : numAt (str (vxHead net ++ bl data)) 4 3 = net := by
  have hsz : (str (vxHead net ++ bl data)).size = 8 + data.size := by rw [str_size, List.length_append, bl_length]; simp only [vxHead, List.length_append, be_length]
  rw [(okN_true (s := str (vxHead net ++ bl data)) (at_ := 4) (k := 3) ⟨by omega, by omega, by omega, by rw [hsz]; omega⟩).2, bl_str]
  have e : vxHead net ++ bl data = (be 1 8 ++ be 3 0) ++ (be 3 net ++ (be 1 0 ++ bl data)) := by simp [vxHead]
  have l1 : (be 1 8 ++ be 3 0).length = 4 := by decide
  rw [e]
  simp only [Int.reduceToNat]
  rw [List.drop_append_of_le_length (by rw [l1]; exact Nat.le_refl _), List.drop_of_length_le (by rw [l1]; exact Nat.le_refl _), List.nil_append, List.take_append_of_le_length (by rw [be_length]; exact Nat.le_refl _), List.take_of_length_le (by rw [be_length]; exact Nat.le_refl _)]
  exact num_be 3 net h0 (by omega)
theorem vx_extract (net : Int) (data : ByteArray) : (str (vxHead net ++ bl data)).extract 8 (str (vxHead net ++ bl data)).size = data := by
  have l1 : (vxHead net).length = 8 := by simp only [vxHead, List.length_append, be_length]
  rw [str_extract, str_size]
  rw [List.drop_append_of_le_length (by omega), List.drop_of_length_le (by omega), List.nil_append, List.take_of_length_le (by simp; omega)]
theorem vx_yes2 (net : Int) (data : ByteArray) (h : (netB net && carB data) = true) : vxGood (str (vxText net data)) = true ∧ rvN (str (vxText net data)) = net ∧ rvD (str (vxText net data)) = data ∧ ¬ str (vxText net data) = ⟨#[]⟩ := by
  have e : vxText net data = vxHead net ++ bl data := by unfold vxText; rw [h]; rfl
  have h2 := h
  rw [Bool.and_eq_true] at h2
  obtain ⟨n0, n1⟩ := of_inB h2.1
  rw [e]
  have hsz : (str (vxHead net ++ bl data)).size = 8 + data.size := by rw [str_size, List.length_append, bl_length]; simp only [vxHead, List.length_append, be_length]
  have hg : vxGood (str (vxHead net ++ bl data)) = true := by
    unfold vxGood
    rw [vx_numAt net data n0 n1, vx_extract, e, decide_eq_true rfl, decide_eq_true (by rw [hsz]; omega)]; rfl
  obtain ⟨y1, y2⟩ := vx_yes hg
  rw [y1, y2, vx_numAt net data n0 n1, vx_extract]
  refine ⟨hg, rfl, rfl, fun hh => ?_⟩
  rw [hh] at hsz
  have : (⟨#[]⟩ : ByteArray).size = 0 := rfl
  omega
theorem vx_no2 (net : Int) (data : ByteArray) (h : (netB net && carB data) = false) : vxGood (str (vxText net data)) = false ∧ str (vxText net data) = ⟨#[]⟩ := by
  have e : vxText net data = [] := by unfold vxText; rw [h]; rfl
  rw [e]
  exact ⟨by unfold vxGood; rw [decide_eq_false (by rw [str_size]; simp)]; rfl, rfl⟩
theorem vx_again {t : ByteArray} (h : vxGood t = true) : str (vxText (rvN t) (rvD t)) = t ∧ (rvD t).size ≤ t.size := by
  obtain ⟨y1, y2⟩ := vx_yes h
  rw [y1, y2]
  unfold vxGood at h
  rw [Bool.and_eq_true, decide_eq_true_iff, decide_eq_true_iff] at h
  exact ⟨h.2, by simp⟩
set_option maxRecDepth 100000 in
set_option maxHeartbeats 3200000 in
theorem walk_FnVxlan (a : Option Addr) (len cap : Nat) (zs : List Int) (w : World) (w0 : IsRow .u8 w a len cap zs) :
    Calls Try.prog 3 #[.slice a len cap] w fun e w' => e = .returned (.bool true) ∧ Below w.heap.size w w' := by
  have hl := row_len w0
  by_cases hz : 1048576 < len
  · go_enter Try.func3, Try.ntmps3
    go_wp2
    go_ret
    exact ⟨rfl, Below.refl _ _⟩
  · have hC := code_of_row w0 (by omega)
    clear w0
    go_enter Try.func3, Try.ntmps3
    go_wp2_with fail
    refine (big_no _ _ _ _ (by omega)).mono ?_
    rintro e w' ⟨rfl, rfl⟩
    go_wp2_with fail
    refine (d_VxlanBytes _ a len cap _ hC).mono ?_
    rintro e w1 ⟨n, d, rfl, hd, hb⟩
    go_wp2_with fail
    go_at_call 12
    refine (i_VxlanBytes n d _ (by omega)).mono ?_
    rintro e w2 ⟨rfl, hb2⟩
    replace hb := hb.trans (hb2.mono hb.size)
    clear hb2
    have hC2 := hC.below hb
    go_wp2_with fail
    refine (d_ReadVxlan _ a len cap _ hC2).mono ?_
    rintro e w3 ⟨t, rfl, ht, hb3⟩
    replace hb := hb.trans (hb3.mono hb.size)
    clear hb3 hC2
    have hvl := vxText_len n d
    have hvs : (str (vxText n d)).size ≤ 65108 := by rw [str_size]; omega
    have CSB : Hid (∀ u : World, Calls Try.prog 16 #[.int .i64 n, .string d] u fun e w' => e = .returned (.string (str (vxText n d))) ∧ Below u.heap.size u w') := fun u => s_VxlanBytes n d u (by omega)
    have CRs : Hid (∀ u : World, Calls Try.prog 14 #[.string (str (vxText n d))] u fun e w' => e = .returned (.tuple #[.int .i64 (rvN (str (vxText n d))), .string (rvD (str (vxText n d))), .bool (vxGood (str (vxText n d)))]) ∧ Below u.heap.size u w') := fun u => i_ReadVxlan _ u (by omega)
    have CRt : Hid (∀ u : World, Calls Try.prog 14 #[.string t] u fun e w' => e = .returned (.tuple #[.int .i64 (rvN t), .string (rvD t), .bool (vxGood t)]) ∧ Below u.heap.size u w') := fun u => i_ReadVxlan t u (by omega)
    have CSt : Hid (∀ u : World, Calls Try.prog 15 #[.string t] u fun e w' => e = .returned (.tuple #[.int .i64 (rvN t), .string (rvD t), .bool (vxGood t)]) ∧ Below u.heap.size u w') := fun u => s_ReadVxlan t u (by omega)
    have HG : Hid (vxGood t = true → str (vxText (rvN t) (rvD t)) = t ∧ (rvD t).size ≤ t.size) := fun h => vx_again h
    have HY : Hid ((netB n && carB d) = true → vxGood (str (vxText n d)) = true ∧ rvN (str (vxText n d)) = n ∧ rvD (str (vxText n d)) = d ∧ ¬ str (vxText n d) = ⟨#[]⟩) := fun h => vx_yes2 n d h
    have HN : Hid ((netB n && carB d) = false → vxGood (str (vxText n d)) = false ∧ str (vxText n d) = ⟨#[]⟩) := fun h => vx_no2 n d h
    clear hvl hvs
    generalize str (vxText n d) = s at *
    go_wp2_with fail
    go_at_call 14
    refine (CRt.out _).mono ?_
    rintro e w4 ⟨rfl, hb4⟩
    replace hb := hb.trans (hb4.mono hb.size)
    clear hb4
    go_wp2_with fail
    go_at_call 15
    refine (CSt.out _).mono ?_
    rintro e w5 ⟨rfl, hb5⟩
    replace hb := hb.trans (hb5.mono hb.size)
    clear hb5 CRt CSt
    have e1 : (rvN t != rvN t) = false := by simp
    cases hg : vxGood t
    · clear HG
      generalize rvN t = tn at *
      generalize rvD t = td at *
      clear hg
      cases hT : (netB n && carB d)
      · obtain ⟨y1, y2⟩ := HN.out hT
        rw [y1] at CRs
        have e2 : s.toList = [] := by rw [y2]; simp
        clear HY HN hT y1 y2
        go_wp2_with (first | (go_at_call 16; refine (CSB.out _).mono ?_; rintro e w6 ⟨rfl, hb6⟩; replace hb := hb.trans (hb6.mono hb.size); clear hb6) | (go_at_call 14; refine (CRs.out _).mono ?_; rintro e w8 ⟨rfl, hb8⟩; replace hb := hb.trans (hb8.mono hb.size); clear hb8))
        go_ret
        exact ⟨by first | rfl | exact ret_bool (by simp [e2]), hb⟩
      · obtain ⟨y1, y2, y3, y4⟩ := HY.out hT
        rw [y1, y2, y3] at CRs
        have e2 : ¬ s.toList = [] := fun hh => by have := str_ne y4; rw [hh] at this; simp at this
        clear HY HN hT y1 y2 y3 y4
        go_wp2_with (first | (go_at_call 16; refine (CSB.out _).mono ?_; rintro e w6 ⟨rfl, hb6⟩; replace hb := hb.trans (hb6.mono hb.size); clear hb6) | (go_at_call 14; refine (CRs.out _).mono ?_; rintro e w8 ⟨rfl, hb8⟩; replace hb := hb.trans (hb8.mono hb.size); clear hb8))
        go_ret
        exact ⟨by first | rfl | exact ret_bool (by simp [e2]), hb⟩
    · obtain ⟨g1, g2⟩ := HG.out hg
      have CAg : Hid (∀ u : World, Calls Try.prog 12 #[.int .i64 (rvN t), .string (rvD t)] u fun e w' => e = .returned (.string t) ∧ Below u.heap.size u w') := fun u => by
        have := i_VxlanBytes (rvN t) (rvD t) u (by omega)
        rw [g1] at this; exact this
      clear HG g1 g2
      generalize rvN t = tn at *
      generalize rvD t = td at *
      clear hg
      cases hT : (netB n && carB d)
      · obtain ⟨y1, y2⟩ := HN.out hT
        rw [y1] at CRs
        have e2 : s.toList = [] := by rw [y2]; simp
        clear HY HN hT y1 y2
        go_wp2_with (first | (go_at_call 16; refine (CSB.out _).mono ?_; rintro e w6 ⟨rfl, hb6⟩; replace hb := hb.trans (hb6.mono hb.size); clear hb6) | (go_at_call 12; refine (CAg.out _).mono ?_; rintro e w7 ⟨rfl, hb7⟩; replace hb := hb.trans (hb7.mono hb.size); clear hb7) | (go_at_call 14; refine (CRs.out _).mono ?_; rintro e w8 ⟨rfl, hb8⟩; replace hb := hb.trans (hb8.mono hb.size); clear hb8))
        go_ret
        exact ⟨by first | rfl | exact ret_bool (by simp [e2]), hb⟩
      · obtain ⟨y1, y2, y3, y4⟩ := HY.out hT
        rw [y1, y2, y3] at CRs
        have e2 : ¬ s.toList = [] := fun hh => by have := str_ne y4; rw [hh] at this; simp at this
        clear HY HN hT y1 y2 y3 y4
        go_wp2_with (first | (go_at_call 16; refine (CSB.out _).mono ?_; rintro e w6 ⟨rfl, hb6⟩; replace hb := hb.trans (hb6.mono hb.size); clear hb6) | (go_at_call 12; refine (CAg.out _).mono ?_; rintro e w7 ⟨rfl, hb7⟩; replace hb := hb.trans (hb7.mono hb.size); clear hb7) | (go_at_call 14; refine (CRs.out _).mono ?_; rintro e w8 ⟨rfl, hb8⟩; replace hb := hb.trans (hb8.mono hb.size); clear hb8))
        go_ret
        exact ⟨by first | rfl | exact ret_bool (by simp [e2]), hb⟩
end Go.Proofs.Ytlnhiaapjphefaa
