/-
  The bytes of a Geneve, by the program: the whole.
-/
import Derived.Test.YtnheppkjeoiipaaGnv3
namespace Go.Proofs.Ytnheppkjeoiipaa
open Go.RowKit Go.PlainAid
theorem gvText_len (net : Int) (l : List OpV) (data : ByteArray) : (gvText net l data).length ≤ 260 + data.size := by
  unfold gvText; split
  · rename_i h
    simp only [Bool.and_eq_true] at h
    have := (opsB_facts h.1.2).2
    rw [List.length_append, List.length_append, gvH_len, opsText_len, bl_length]; omega
  · simp
set_option maxRecDepth 100000 in
set_option maxHeartbeats 1600000 in
theorem i_tunGv (net : Int) (T : Option Addr) (c : Nat) (l : List OpV) (data : ByteArray) (w : World) (h : CellsAt w T (opF l)) (hn : l.length + opTot l ≤ 1048576) (hd : data.size ≤ 1099511627776) : Calls Try.prog 30 #[.iface 54 (.agg #[.int .i64 net, .slice T l.length c, .string data])] w fun e w' => e = .returned (.string (str (gvText net l data))) ∧ Below w.heap.size w w' := by
  have CR : Hid (∀ u : World, u = w → Calls Try.prog 121 #[.agg #[.int .i64 net, .slice T l.length c, .string data]] u fun e w' => e = .returned (.bool (netB net && opsB l)) ∧ Below u.heap.size u w') := by rintro u rfl; exact i_gvRight net T c l data u h hn
  have CC : Hid (∀ u : World, Calls Try.prog 119 #[.agg #[.int .i64 net, .slice T l.length c, .string data]] u fun e w' => e = .returned (.string data) ∧ Below u.heap.size u w') := fun u => i_gvCar net T _ c data u
  have HT : Hid (gvText net l data = if netB net && opsB l && carB data then gvH net l ++ opsText l ++ bl data else []) := rfl
  have HC : Hid (carB data = decide (data.size ≤ 65000)) := rfl
  cases hk : (netB net && opsB l)
  · rw [hk] at CR HT
    have HE : Hid (gvText net l data = []) := HT.out
    clear HT hk
    generalize gvText net l data = tx at *
    go_enter Try.func30, Try.ntmps30
    go_wp2_with (go_at_call 121; refine (CR.out _ rfl).mono ?_; rintro e w1 ⟨rfl, hb1⟩)
    go_ret
    exact ⟨by rw [HE.out]; rfl, hb1⟩
  · rw [hk] at CR HT
    rw [Bool.and_eq_true] at hk
    obtain ⟨n0, n1⟩ := of_inB hk.1
    have hsum := (opsB_facts hk.2).2
    have CH : Hid (∀ u : World, Below w.heap.size w u → Calls Try.prog 120 #[.agg #[.int .i64 net, .slice T l.length c, .string data]] u fun e w' => e = .returned (.string (str (gvH net l ++ opsText l))) ∧ Below u.heap.size u w') := fun u hu => i_gvHead net T c l data u (h.below hu) n0 n1 hk.2
    have hl : (gvH net l ++ opsText l).length ≤ 260 := by rw [List.length_append, gvH_len, opsText_len]; omega
    by_cases hc : data.size ≤ 65000
    · have HE : Hid (str (gvH net l ++ opsText l) ++ data = str (gvText net l data)) := by show _ = _; rw [HT.out, HC.out, decide_eq_true hc, str_app_bl]; rfl
      clear HT HC hk
      generalize gvText net l data = tx at *
      generalize gvH net l ++ opsText l = hx at *
      go_enter Try.func30, Try.ntmps30
      go_wp2_with fail
      go_at_call 121
      refine (CR.out _ rfl).mono ?_
      rintro e w1 ⟨rfl, hB⟩
      go_wp2_with fail
      go_at_call 119
      refine (CC.out _).mono ?_
      rintro e w2 ⟨rfl, hb2⟩
      replace hB := hB.trans (hb2.mono hB.size)
      go_wp2_with fail
      go_at_call 120
      refine (CH.out _ hB).mono ?_
      rintro e w3 ⟨rfl, hb3⟩
      replace hB := hB.trans (hb3.mono hB.size)
      go_wp2_with fail
      go_at_call 119
      refine (CC.out _).mono ?_
      rintro e w4 ⟨rfl, hb4⟩
      replace hB := hB.trans (hb4.mono hB.size)
      go_wp2
      go_ret
      exact ⟨ret_strb HE.out, hB⟩
    · have HE : Hid (gvText net l data = []) := by show _ = _; rw [HT.out, HC.out, decide_eq_false hc]; rfl
      clear HT HC hk CH
      generalize gvText net l data = tx at *
      go_enter Try.func30, Try.ntmps30
      go_wp2_with fail
      go_at_call 121
      refine (CR.out _ rfl).mono ?_
      rintro e w1 ⟨rfl, hB⟩
      go_wp2_with fail
      go_at_call 119
      refine (CC.out _).mono ?_
      rintro e w2 ⟨rfl, hb2⟩
      go_wp2
      go_ret
      exact ⟨by rw [HE.out]; rfl, hB.trans (hb2.mono hB.size)⟩
set_option maxRecDepth 100000 in
theorem i_GeneveBytes (net : Int) (T : Option Addr) (c : Nat) (l : List OpV) (data : ByteArray) (w : World) (h : CellsAt w T (opF l)) (hn : l.length + opTot l ≤ 1048576) (hd : data.size ≤ 1099511627776) : Calls Try.prog 9 #[.int .i64 net, .slice T l.length c, .string data] w fun e w' => e = .returned (.string (str (gvText net l data))) ∧ Below w.heap.size w w' := by
  have C : Hid (∀ u : World, u = w → Calls Try.prog 30 #[.iface 54 (.agg #[.int .i64 net, .slice T l.length c, .string data])] u fun e w' => e = .returned (.string (str (gvText net l data))) ∧ Below u.heap.size u w') := by rintro u rfl; exact i_tunGv net T c l data u h hn hd
  generalize gvText net l data = tx at *
  go_enter Try.func9, Try.ntmps9
  go_wp2_with fail
  go_at_call 30
  refine (C.out _ rfl).mono ?_
  rintro e w1 ⟨rfl, hb1⟩
  go_wp2
  go_ret
  exact ⟨rfl, hb1⟩
end Go.Proofs.Ytnheppkjeoiipaa
