/-
  Options that are copied: the model.
-/
import Derived.Test.YtgfpoohjbgdcpaaCop2
namespace Go.Proofs.Ytgfpoohjbgdcpaa
open Go.RowKit Go.PlainAid
theorem wrap_small {v : Int} (h0 : 0 ≤ v) (h1 : v ≤ 1099511627776) : wrap64 v = v := by unfold wrap64; omega
theorem hid_c {p : Prop} (h : p) : Hid p := h
theorem toN_add (x n : Nat) : ((x : Int) + (n : Int)).toNat = x + n := by omega
theorem add_in {x n s : Nat} (h : x + n ≤ s) : (0 : Int) ≤ (x : Int) + (n : Int) ∧ (x : Int) + (n : Int) ≤ (s : Int) ∧ (x : Int) ≤ (x : Int) + (n : Int) := by omega
theorem meas_add {x n s : Nat} (h0 : 1 ≤ n) (h : x + n ≤ s) : ((s : Int) - ((x + n : Nat) : Int)).toNat < ((s : Int) - (x : Int)).toNat := by omega
theorem str_app_cop (a : List UInt8) (s : ByteArray) : str a ++ s = str (a ++ bl s) := by rw [← str_app, str_bl]
theorem not_big {a b s x : Nat} (h : a ≤ s) (h2 : x + b ≤ s) (hs : s ≤ 40) : ¬ 9223372036854775807 < a + b := by omega
theorem bt_from (t : ByteArray) (x k : Nat) (h : x ≤ t.size) : bt (t.extract x t.size) k = bt t (x + k) := by
  unfold bt
  have hs : (t.extract x t.size).size = t.size - x := by simp
  by_cases hk : x + k < t.size
  · rw [dif_pos hk, dif_pos (by omega)]
    congr 2
    simp [ByteArray.getElem_eq_getElem_data, ByteArray.data_extract]
  · rw [dif_neg hk, dif_neg (by omega)]
theorem bt_head (u : ByteArray) (n : Nat) (h0 : 0 < n) (h : n ≤ u.size) : bt (u.extract 0 n) 0 = bt u 0 := by
  unfold bt
  have hs : (u.extract 0 n).size = n := by simp; omega
  rw [dif_pos (by omega), dif_pos (by omega)]
  congr 2
  simp [ByteArray.getElem_eq_getElem_data, ByteArray.data_extract]
theorem ext_two (s : ByteArray) (x a b : Nat) (h : x + b ≤ s.size) : (s.extract x s.size).extract a b = s.extract (x + a) (x + b) := by
  apply ByteArray.ext
  simp only [ByteArray.data_extract, Array.extract_extract]
  congr 1
  omega
/-- what stands from a place on -/
def rest (t : ByteArray) (x : Nat) : ByteArray := t.extract x t.size
theorem rest_go {t : ByteArray} {x n : Nat} (hx : x < t.size) (h0 : bt t x ≠ 0) (hw : oW (rest t x) = true) (hn : oN (rest t x) = n) : 1 ≤ n ∧ x + n ≤ t.size ∧ oSeq (rest t x) = (t.extract x (x + n), true) :: oSeq (rest t (x + n)) ∧ cpSel (t.extract x (x + n), true) = if 128 ≤ bt t x then bl (t.extract x (x + n)) else [] := by
  have hs : (rest t x).size = t.size - x := by unfold rest; simp
  have hb : bt (rest t x) 0 = bt t x := bt_from t x 0 (by omega)
  have hi := oN_in (by omega) hw
  rw [hn] at hi
  have e1 : (rest t x).extract 0 n = t.extract x (x + n) := ext_two t x 0 n (by omega)
  have e2 : (rest t x).extract n (rest t x).size = rest t (x + n) := by
    rw [hs]; unfold rest; rw [ext_two t x n (t.size - x) (by omega)]; congr 1; omega
  refine ⟨hi.1, by omega, ?_, ?_⟩
  · rw [oSeq_go (by omega) (by rw [hb]; exact h0) hw, hn, e1, e2]
  · unfold cpSel
    rw [← e1, bt_head _ n (by omega) (by omega), hb]
set_option maxRecDepth 100000 in
set_option maxHeartbeats 6400000 in
theorem s_CopiedOpts (t : ByteArray) (w : World) (ht : t.size ≤ 1099511627776) :
    Calls Try.prog 22 #[.string t] w fun e w' => e = .returned (.tuple #[.string (cpText t), .bool (cpOk t)]) ∧ w' = w := by
  by_cases h40 : t.size ≤ 40
  case neg =>
    have HV : Hid (cpText t = ⟨#[]⟩ ∧ cpOk t = false) := by
      have e : cpOk t = false := by unfold cpOk; rw [decide_eq_false h40]; rfl
      exact ⟨by unfold cpText; rw [e]; rfl, e⟩
    have h40i : (40 : Int) < (t.size : Int) := by omega
    rw [HV.out.1, HV.out.2]
    clear HV h40
    go_enter Try.func22, Try.ntmps22
    go_wp2
    go_ret2
    exact ⟨rfl, rfl⟩
  case pos =>
    have h40i : ¬ (40 : Int) < (t.size : Int) := by omega
    have HBad : Hid (cpWhole (oSeq t) = false → cpText t = ⟨#[]⟩ ∧ cpOk t = false) := fun e => by
      have e2 : cpOk t = false := by unfold cpOk; rw [e, Bool.and_false]
      exact ⟨by unfold cpText; rw [e2]; rfl, e2⟩
    have HGood : Hid (cpWhole (oSeq t) = true → cpText t = str (pad4 (cpBytes (oSeq t))) ∧ cpOk t = true) := fun e => by
      have e2 : cpOk t = true := by unfold cpOk; rw [e, decide_eq_true h40]; rfl
      exact ⟨by unfold cpText; rw [e2]; rfl, e2⟩
    have hr0 : rest t 0 = t := by unfold rest; simp
    go_enter Try.func22, Try.ntmps22
    go_wp2
    go_loopw [5, 4] (fun i v wr => ∃ (x : Nat) (pre : List (ByteArray × Bool)), i = .int .i64 (x : Int) ∧ v = .string (str (cpBytes pre)) ∧ x ≤ t.size ∧ Hid (cpWhole pre = true) ∧ Hid (oSeq t = pre ++ oSeq (rest t x)) ∧ wr = w) (fun i _ _ => ((t.size : Int) - intOf i).toNat)
    case atStart => exact ⟨0, [], rfl, rfl, by omega, rfl, by show _ = _; rw [hr0]; rfl, rfl⟩
    case round =>
      obtain ⟨x, pre, rfl, rfl, hx, HW, HQ, rfl⟩ := hrel
      have hs : (rest t x).size = t.size - x := by unfold rest; simp
      by_cases hlt : x < t.size ∧ bt t x ≠ 0
      · obtain ⟨hlt, hb0⟩ := hlt
        have hxi : (x : Int) < (t.size : Int) := by omega
        have z0 : (bt t x != 0) = true := by simp [hb0]
        have HE0 := hid_c (get_bt t x hlt)
        have hbx : bt (rest t x) 0 = bt t x := bt_from t x 0 (by omega)
        have hbx1 : bt (rest t x) 1 = bt t (x + 1) := bt_from t x 1 (by omega)
        have hd0 := bt_bd t x
        have hd1 := bt_bd t (x + 1)
        by_cases h1 : bt t x = 1
        · have z1 : (bt t x == 1) = true := by simp [h1]
          have hw : oW (rest t x) = true := by unfold oW; rw [hbx, h1]; rfl
          have hn : oN (rest t x) = 1 := by unfold oN; rw [hbx, if_pos h1]
          obtain ⟨_, _, g1, g2⟩ := rest_go hlt hb0 hw hn
          have HN : Hid (oSeq t = (pre ++ [(t.extract x (x + 1), true)]) ++ oSeq (rest t (x + 1)) ∧ cpBytes (pre ++ [(t.extract x (x + 1), true)]) = cpBytes pre ∧ cpWhole (pre ++ [(t.extract x (x + 1), true)]) = true) := ⟨by rw [HQ.out, g1]; simp, by rw [cpBytes_snoc, g2, if_neg (by omega)]; simp, by rw [cpWhole_snoc, HW.out]; rfl⟩
          clear g1 g2 hw hn hbx hbx1 h1 hb0
          have E0 := HE0.out
          go_wp2
          all_goals (try clear E0)
          go_roundw
          case rel => exact ⟨x + 1, pre ++ [(t.extract x (x + 1), true)], by go_num, by rw [HN.out.2.1], by omega, HN.out.2.2, HN.out.1, by first | rfl | trivial⟩
          case measure => simp [intOf]; omega
        · have z1 : (bt t x == 1) = false := by simp [h1]
          by_cases hsz : t.size ≤ x + 1
          · have hw : oW (rest t x) = false := by unfold oW; rw [hbx, decide_eq_false h1, decide_eq_false (by omega : ¬ 2 ≤ (rest t x).size)]; rfl
            have HN : Hid (cpWhole (oSeq t) = false) := by
              show _ = _
              rw [HQ.out, oSeq_bad (by omega) (by rw [hbx]; exact hb0) hw, cpWhole_snoc, Bool.and_false]
            have hv := hid_c (HBad.out HN.out)
            have hszi : (t.size : Int) ≤ (x : Int) + 1 := by omega
            clear hw hbx hbx1 h1 hb0
            have E0 := HE0.out
            go_wp2
            all_goals (try clear E0)
            go_ret2
            exact ⟨by rw [hv.out.1, hv.out.2]; rfl, rfl⟩
          · have hszi : ¬ (t.size : Int) ≤ (x : Int) + 1 := by omega
            have hszj : (x : Int) + 1 < (t.size : Int) := by omega
            have hx1 : x + 1 < t.size := by omega
            have HE1 := hid_c (get_bt t (x + 1) hx1)
            by_cases h2 : bt t (x + 1) < 2
            · have hw : oW (rest t x) = false := by unfold oW; rw [hbx, hbx1, decide_eq_false h1, decide_eq_false (by omega : ¬ 2 ≤ bt t (x + 1))]; simp
              have HN : Hid (cpWhole (oSeq t) = false) := by
                show _ = _
                rw [HQ.out, oSeq_bad (by omega) (by rw [hbx]; exact hb0) hw, cpWhole_snoc, Bool.and_false]
              have hv := hid_c (HBad.out HN.out)
              clear hw hbx hbx1 h1 hb0
              have E0 := HE0.out
              have E1 := HE1.out
              go_wp2
              all_goals (try clear E0)
              all_goals (try clear E1)
              go_ret2
              exact ⟨by rw [hv.out.1, hv.out.2]; rfl, rfl⟩
            · have hwb : wrap64 (bt t (x + 1)) = bt t (x + 1) := wrap_small (by omega) (by omega)
              have hws : wrap64 ((x : Int) + bt t (x + 1)) = (x : Int) + bt t (x + 1) := wrap_small (by omega) (by omega)
              have hwi : IntKind.i64.wrap ((x : Int) + bt t (x + 1)) = (x : Int) + bt t (x + 1) := wraps_i64 _ (by omega) (by omega)
              by_cases h3 : (t.size : Int) < (x : Int) + bt t (x + 1)
              · have hw : oW (rest t x) = false := by unfold oW; rw [hbx, hbx1, decide_eq_false h1, decide_eq_false (by omega : ¬ bt t (x + 1) ≤ (rest t x).size)]; simp
                have HN : Hid (cpWhole (oSeq t) = false) := by
                  show _ = _
                  rw [HQ.out, oSeq_bad (by omega) (by rw [hbx]; exact hb0) hw, cpWhole_snoc, Bool.and_false]
                have hv := hid_c (HBad.out HN.out)
                clear hw hbx hbx1 h1 hb0
                have E0 := HE0.out
                have E1 := HE1.out
                go_wp2
                all_goals (try clear E0)
                all_goals (try clear E1)
                go_ret2
                exact ⟨by rw [hv.out.1, hv.out.2]; rfl, rfl⟩
              · have hw : oW (rest t x) = true := by unfold oW; rw [hbx, hbx1, decide_eq_false h1, decide_eq_true (by omega : 2 ≤ (rest t x).size), decide_eq_true (by omega : 2 ≤ bt t (x + 1)), decide_eq_true (by omega : bt t (x + 1) ≤ (rest t x).size)]; rfl
                obtain ⟨n, hne⟩ := Int.eq_ofNat_of_zero_le hd1.1
                have hn : oN (rest t x) = n := by unfold oN; rw [hbx, hbx1, if_neg h1, if_neg (by omega)]; omega
                obtain ⟨n1, n2, g1, g2⟩ := rest_go hlt hb0 hw hn
                rw [hne] at hwb hws hwi h3 h2
                clear hw hn
                have HG1 := hid_c g1
                have HG2 := hid_c g2
                clear g1 g2
                have hxn : ((x : Int) + (n : Int)).toNat = x + n := toN_add x n
                have hxn0 : (0 : Int) ≤ (x : Int) + (n : Int) := (add_in n2).1
                have hxn1 : (x : Int) + (n : Int) ≤ (t.size : Int) := (add_in n2).2.1
                have hxn2 : (x : Int) ≤ (x : Int) + (n : Int) := (add_in n2).2.2
                have hbig := not_big (cpBytes_len t pre ⟨_, HQ.out.symm⟩) n2 h40
                by_cases h128 : 128 ≤ bt t x
                · have HN : Hid (oSeq t = (pre ++ [(t.extract x (x + n), true)]) ++ oSeq (rest t (x + n)) ∧ str (cpBytes (pre ++ [(t.extract x (x + n), true)])) = str (cpBytes pre) ++ t.extract x (x + n) ∧ cpWhole (pre ++ [(t.extract x (x + n), true)]) = true) := ⟨by rw [HQ.out, HG1.out]; simp, by rw [cpBytes_snoc, HG2.out, if_pos h128, str_app_cop], by rw [cpWhole_snoc, HW.out]; rfl⟩
                  clear HG1 HG2 hbx hbx1 h1 hb0
                  have E0 := HE0.out
                  have E1 := HE1.out
                  go_wp2
                  all_goals (try clear E0)
                  all_goals (try clear E1)
                  go_roundw
                  case rel => exact ⟨x + n, pre ++ [(t.extract x (x + n), true)], by first | rfl | (congr 1; omega), by rw [HN.out.2.1], n2, HN.out.2.2, HN.out.1, by first | rfl | trivial⟩
                  case measure => exact meas_add n1 n2
                · have HN : Hid (oSeq t = (pre ++ [(t.extract x (x + n), true)]) ++ oSeq (rest t (x + n)) ∧ cpBytes (pre ++ [(t.extract x (x + n), true)]) = cpBytes pre ∧ cpWhole (pre ++ [(t.extract x (x + n), true)]) = true) := ⟨by rw [HQ.out, HG1.out]; simp, by rw [cpBytes_snoc, HG2.out, if_neg h128]; simp, by rw [cpWhole_snoc, HW.out]; rfl⟩
                  clear HG1 HG2 hbx hbx1 h1 hb0
                  have E0 := HE0.out
                  have E1 := HE1.out
                  go_wp2
                  all_goals (try clear E0)
                  all_goals (try clear E1)
                  go_roundw
                  case rel => exact ⟨x + n, pre ++ [(t.extract x (x + n), true)], by first | rfl | (congr 1; omega), by rw [HN.out.2.1], n2, HN.out.2.2, HN.out.1, by first | rfl | trivial⟩
                  case measure => exact meas_add n1 n2
      · have hend : (rest t x).size = 0 ∨ bt (rest t x) 0 = 0 := by
          have hbq : bt (rest t x) 0 = bt t x := bt_from t x 0 (by omega)
          rw [hs, hbq]
          by_cases h : x < t.size
          · right
            by_cases hb : bt t x = 0
            · exact hb
            · exact absurd ⟨h, hb⟩ hlt
          · left; omega
        have HS : Hid (oSeq t = pre) := by show _ = _; rw [HQ.out, oSeq_end hend]; simp
        have hv := hid_c (HGood.out (by rw [HS.out]; exact HW.out))
        have hlen : (cpBytes pre).length ≤ 40 := by
          have := cpBytes_len t pre (by rw [HS.out]; exact List.prefix_refl _)
          omega
        have hpad : Hid (pad4 (cpBytes pre) = pad4 (cpBytes (oSeq t))) := by show _ = _; rw [HS.out]
        generalize cpBytes pre = cb at *
        clear HS HBad HGood hr0 hs hend HQ HW
        by_cases hxl : x < t.size
        · have hb : bt t x = 0 := by
            by_cases hb : bt t x = 0
            · exact hb
            · exact absurd ⟨hxl, hb⟩ hlt
          have hxi : (x : Int) < (t.size : Int) := by omega
          have E0 := get_bt t x hxl
          have z0 : (bt t x != 0) = false := by simp [hb]
          clear hb hlt
          go_wp2
          go_loopw [4] (fun v wq => ∃ bs : List UInt8, v = .string (str bs) ∧ bs.length ≤ 44 ∧ Hid (pad4 bs = pad4 (cpBytes (oSeq t))) ∧ wq = wr) (fun v _ => (4 - strLen v % 4) % 4)
          case atStart => exact ⟨cb, rfl, by omega, hpad.out, rfl⟩
          case round =>
            clear hpad hlen
            obtain ⟨bs, rfl, hbl, HP, rfl⟩ := hrel
            have hm : Int.tmod (bs.length : Int) 4 = ((bs.length % 4 : Nat) : Int) := by rw [Int.tmod_eq_emod_of_nonneg (by omega)]; omega
            have hss : (str bs).size = bs.length := str_size bs
            by_cases h4 : bs.length % 4 = 0
            · have z4 : (((bs.length % 4 : Nat) : Int) != 0) = false := by rw [h4]; rfl
              have HT : Hid (cpText t = str bs) := by show _ = _; rw [hv.out.1, ← HP.out, pad4_done h4]
              clear h4 HP
              go_wp2
              go_ret2
              exact ⟨by rw [HT.out, hv.out.2]; rfl, by first | rfl | trivial⟩
            · have z4 : (((bs.length % 4 : Nat) : Int) != 0) = true := by simp; omega
              have HP2 : Hid (pad4 (bs ++ [0]) = pad4 (cpBytes (oSeq t))) := by show _ = _; rw [pad4_more h4, HP.out]
              have HA : Hid (str bs ++ (⟨#[0]⟩ : ByteArray) = str (bs ++ [0])) := str_app bs [0]
              have hl2 : (bs ++ [(0 : UInt8)]).length = bs.length + 1 := by simp
              go_wp2
              go_roundw
              case rel => exact ⟨bs ++ [0], by rw [← HA.out], by omega, HP2.out, by first | rfl | trivial⟩
              case measure => simp only [strLen]; rw [HA.out, str_size, str_size, hl2]; omega
        · have hxi : ¬ (x : Int) < (t.size : Int) := by omega
          clear hlt
          go_wp2
          go_loopw [4] (fun v wq => ∃ bs : List UInt8, v = .string (str bs) ∧ bs.length ≤ 44 ∧ Hid (pad4 bs = pad4 (cpBytes (oSeq t))) ∧ wq = wr) (fun v _ => (4 - strLen v % 4) % 4)
          case atStart => exact ⟨cb, rfl, by omega, hpad.out, rfl⟩
          case round =>
            clear hpad hlen
            obtain ⟨bs, rfl, hbl, HP, rfl⟩ := hrel
            have hm : Int.tmod (bs.length : Int) 4 = ((bs.length % 4 : Nat) : Int) := by rw [Int.tmod_eq_emod_of_nonneg (by omega)]; omega
            have hss : (str bs).size = bs.length := str_size bs
            by_cases h4 : bs.length % 4 = 0
            · have z4 : (((bs.length % 4 : Nat) : Int) != 0) = false := by rw [h4]; rfl
              have HT : Hid (cpText t = str bs) := by show _ = _; rw [hv.out.1, ← HP.out, pad4_done h4]
              clear h4 HP
              go_wp2
              go_ret2
              exact ⟨by rw [HT.out, hv.out.2]; rfl, by first | rfl | trivial⟩
            · have z4 : (((bs.length % 4 : Nat) : Int) != 0) = true := by simp; omega
              have HP2 : Hid (pad4 (bs ++ [0]) = pad4 (cpBytes (oSeq t))) := by show _ = _; rw [pad4_more h4, HP.out]
              have HA : Hid (str bs ++ (⟨#[0]⟩ : ByteArray) = str (bs ++ [0])) := str_app bs [0]
              have hl2 : (bs ++ [(0 : UInt8)]).length = bs.length + 1 := by simp
              go_wp2
              go_roundw
              case rel => exact ⟨bs ++ [0], by rw [← HA.out], by omega, HP2.out, by first | rfl | trivial⟩
              case measure => simp only [strLen]; rw [HA.out, str_size, str_size, hl2]; omega
end Go.Proofs.Ytgfpoohjbgdcpaa
