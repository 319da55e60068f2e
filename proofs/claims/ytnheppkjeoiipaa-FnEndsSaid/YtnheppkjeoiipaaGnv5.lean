/-
  The bytes of a Geneve, by the model.
-/
import Derived.Test.YtnheppkjeoiipaaGnv4
namespace Go.Proofs.Ytnheppkjeoiipaa
open Go.RowKit Go.PlainAid
set_option maxRecDepth 100000 in
set_option maxHeartbeats 3200000 in
theorem s_Opts (T : Option Addr) (c : Nat) (l : List OpV) (w : World) (h : CellsAt w T (opF l)) (hn : l.length + opTot l ≤ 1048576) :
    Calls Try.prog 40 #[.slice T l.length c] w fun e w' => e = .returned (.bool (opsB l)) ∧ Below w.heap.size w w' := by
  have HB : Hid (opsB l = (opsOk l && decide (opSum l ≤ 252))) := rfl
  have HNo : Hid (∀ j, j < l.length → opOk (opA l j) = false → opsOk l = false) := fun j hj h => opsOk_no j hj h
  have HAl : Hid ((∀ i, i < l.length → opOk (opA l i) = true) → opsOk l = true) := fun h => opsOk_all h
  have HSe : Hid (opSum l = 4 * l.length + opTot l) := opSum_eq l
  have CI : Hid (∀ (n : Int) (u : World), Calls Try.prog 56 #[.int .i64 n, .int .i64 0, .int .i64 65535] u fun e w' => e = .returned (.bool (inB n 0 65535)) ∧ w' = u) := fun n u => s_In n 0 65535 u
  have CB : Hid (∀ (n : Int) (u : World), Calls Try.prog 67 #[.int .i64 n] u fun e w' => e = .returned (.bool (byteB n)) ∧ w' = u) := fun n u => s_Byte n u
  go_enter Try.func40, Try.ntmps40
  go_wp2
  go_loopw [4, 3] (fun i q wr => ∃ j : Nat, j ≤ l.length ∧ i = .int .i64 (j : Int) ∧ q = .int .i64 (opSum (l.take j) : Int) ∧ Hid (∀ i, i < j → opOk (opA l i) = true) ∧ Below w.heap.size w wr) (fun i _ _ => ((l.length : Int) - intOf i).toNat)
  case atStart => exact ⟨0, by omega, rfl, rfl, fun i hi => by omega, Below.refl _ _⟩
  case round =>
    obtain ⟨j, hj, rfl, rfl, HP, hb⟩ := hrel
    by_cases hlt : j < l.length
    · rcases h.below hb with h | ⟨g, off, rfl, hg, hc⟩
      · have := opF_len l; rw [h] at this; simp at this; omega
      · have hcs := op_cells hc j hlt
        clear hc
        have hj1 : (j : Int) < (l.length : Int) := by omega
        have hsz : (opA l j).data.size ≤ 1048576 := by
          have h1 := opTot_take l j hlt
          have h2 := opTot_le l (j + 1)
          have e : opSz (opA l j) = (opA l j).data.size := rfl
          omega
        have ht := opSum_take l j hlt
        have htl := opSum_le l (j + 1)
        have hse := HSe.out
        have HOK : Hid (opOk (opA l j) = false → opsOk l = false) := HNo.out j hlt
        have HNX : Hid (opOk (opA l j) = true → ∀ i, i < j + 1 → opOk (opA l i) = true) := fun h1 i hi => by
          by_cases e : i = j
          · rw [e]; exact h1
          · exact HP.out i (by omega)
        have HO : Hid (opOk (opA l j) = (inB (opA l j).cls 0 65535 && byteB (opA l j).typ && decide ((opA l j).data.size ≤ 124) && decide ((opA l j).data.size % 4 = 0))) := rfl
        obtain ⟨sz, hs1, hs2⟩ : ∃ sz : Nat, sz ≤ opSum (l.take j) ∧ opSum (l.take j) ≤ sz := ⟨_, Nat.le_refl _, Nat.le_refl _⟩
        rw [show opSum (l.take j) = sz from by omega]
        have hnext : Hid (opSum (l.take (j + 1)) = sz + (4 + (opA l j).data.size)) := by unfold Hid; omega
        have hbd : sz + (4 + (opA l j).data.size) ≤ 8388608 := by omega
        clear ht htl hse hs1 hs2
        generalize opOk (opA l j) = ok at *
        generalize opA l j = a at *
        obtain ⟨cls, typ, data⟩ := a
        dsimp only at hbd hcs hnext HO hsz
        have hrm : Int.tmod (data.size : Int) 4 = ((data.size % 4 : Nat) : Int) := by rw [Int.tmod_eq_emod_of_nonneg (by omega)]; omega
        cases h1 : inB cls 0 65535
        · have hk : ok = false := by rw [HO.out, h1]; rfl
          subst hk
          clear HO HNX
          go_wp2_with (first | (go_at_call 56; refine (CI.out _ _).mono ?_; rintro e wz ⟨rfl, hz⟩; rw [hz, h1]; clear hz wz))
          go_ret
          exact ⟨ret_bool (by rw [HB.out, HOK.out (by first | rfl | trivial)]; rfl), hb⟩
        · cases h2 : byteB typ
          · have hk : ok = false := by rw [HO.out, h1, h2]; rfl
            subst hk
            clear HO HNX
            go_wp2_with (first | (go_at_call 56; refine (CI.out _ _).mono ?_; rintro e wz ⟨rfl, hz⟩; rw [hz, h1]; clear hz wz) | (go_at_call 67; refine (CB.out _ _).mono ?_; rintro e wz ⟨rfl, hz⟩; rw [hz, h2]; clear hz wz))
            go_ret
            exact ⟨ret_bool (by rw [HB.out, HOK.out (by first | rfl | trivial)]; rfl), hb⟩
          · by_cases h3 : data.size ≤ 124
            · have h3' : decide ((124 : Int) < (data.size : Int)) = false := by simp; omega
              by_cases h4 : data.size % 4 = 0
              · have hk : ok = true := by rw [HO.out, h1, h2, decide_eq_true h3, decide_eq_true h4]; rfl
                subst hk
                have h4' : (((data.size % 4 : Nat) : Int) != 0) = false := by rw [h4]; rfl
                clear HO HOK
                go_wp2_with (first | (go_at_call 56; refine (CI.out _ _).mono ?_; rintro e wz ⟨rfl, hz⟩; rw [hz, h1]; clear hz wz) | (go_at_call 67; refine (CB.out _ _).mono ?_; rintro e wz ⟨rfl, hz⟩; rw [hz, h2]; clear hz wz))
                go_roundw
                case rel => exact ⟨j + 1, by omega, by go_num, by rw [hnext.out]; first | (congr 1; omega) | (congr 1; push_cast; omega), HNX.out (by first | rfl | trivial), hb⟩
                case measure => simp [intOf]; omega
              · have hk : ok = false := by rw [HO.out, h1, h2, decide_eq_true h3, decide_eq_false h4]; rfl
                subst hk
                have h4' : (((data.size % 4 : Nat) : Int) != 0) = true := by simp; omega
                clear HO HNX
                go_wp2_with (first | (go_at_call 56; refine (CI.out _ _).mono ?_; rintro e wz ⟨rfl, hz⟩; rw [hz, h1]; clear hz wz) | (go_at_call 67; refine (CB.out _ _).mono ?_; rintro e wz ⟨rfl, hz⟩; rw [hz, h2]; clear hz wz))
                go_ret
                exact ⟨ret_bool (by rw [HB.out, HOK.out (by first | rfl | trivial)]; rfl), hb⟩
            · have h3' : (124 : Int) < (data.size : Int) := by omega
              have hk : ok = false := by rw [HO.out, h1, h2, decide_eq_false h3]; rfl
              subst hk
              clear HO HNX
              go_wp2_with (first | (go_at_call 56; refine (CI.out _ _).mono ?_; rintro e wz ⟨rfl, hz⟩; rw [hz, h1]; clear hz wz) | (go_at_call 67; refine (CB.out _ _).mono ?_; rintro e wz ⟨rfl, hz⟩; rw [hz, h2]; clear hz wz))
              go_ret
              exact ⟨ret_bool (by rw [HB.out, HOK.out (by first | rfl | trivial)]; rfl), hb⟩
    · have e : j = l.length := by omega
      subst e
      rw [List.take_length]
      go_wp2
      go_ret
      exact ⟨ret_bool (by rw [HB.out, HAl.out HP.out, Bool.true_and, Bool.eq_iff_iff, decide_eq_true_iff, decide_eq_true_iff]; omega), hb⟩
theorem gvFl_take (l : List OpV) (j : Nat) (h : j < l.length) : gvFl (l.take (j + 1)) = if opCr (opA l j) then 64 else gvFl (l.take j) := by
  unfold gvFl opsCr
  rw [List.take_succ_eq_append_getElem h, opA_eq l j h, List.any_append]
  simp only [List.any_cons, List.any_nil, Bool.or_false]
  cases opCr l[j] <;> cases (List.any (List.take j l) opCr) <;> rfl
set_option maxRecDepth 100000 in
set_option maxHeartbeats 3200000 in
theorem s_GeneveBytes (net : Int) (T : Option Addr) (c : Nat) (l : List OpV) (data : ByteArray) (w : World) (h : CellsAt w T (opF l)) (hn : l.length + opTot l ≤ 1048576) (hd : data.size ≤ 1099511627776) : Calls Try.prog 13 #[.int .i64 net, .slice T l.length c, .string data] w fun e w' => e = .returned (.string (str (gvText net l data))) ∧ Below w.heap.size w w' := by
  have CN : Hid (∀ u : World, Calls Try.prog 39 #[.int .i64 net] u fun e w' => e = .returned (.bool (netB net)) ∧ w' = u) := fun u => s_Net net u
  have CL : Hid (∀ u : World, Calls Try.prog 41 #[.string data] u fun e w' => e = .returned (.bool (!carB data)) ∧ w' = u) := fun u => s_Long data u hd
  have CO : Hid (∀ u : World, u = w → Calls Try.prog 40 #[.slice T l.length c] u fun e w' => e = .returned (.bool (opsB l)) ∧ Below u.heap.size u w') := by rintro u rfl; exact s_Opts T c l u h hn
  have BE : Hid (∀ (n k : Int) (u : World), 0 ≤ k → k ≤ 8 → Calls Try.prog 42 #[.int .i64 n, .int .i64 k] u fun e w' => e = .returned (.string (str (be k.toNat n))) ∧ Below u.heap.size u w') := fun n k u h1 h2 => be_any n k u h1 h2
  have HT : Hid (gvText net l data = if netB net && opsB l && carB data then gvH net l ++ opsText l ++ bl data else []) := rfl
  cases hk : netB net
  · rw [hk] at CN HT
    have HE : Hid (gvText net l data = []) := HT.out
    clear HT hk
    generalize gvText net l data = tx at *
    go_enter Try.func13, Try.ntmps13
    go_wp2_with (go_at_call 39; refine (CN.out _).mono ?_; rintro e wz ⟨rfl, hz⟩; rw [hz]; clear hz wz)
    go_ret
    exact ⟨by rw [HE.out]; rfl, Below.refl _ _⟩
  · rw [hk] at CN HT
    cases ho : opsB l
    · rw [ho] at CO HT
      have HE : Hid (gvText net l data = []) := HT.out
      clear HT hk ho
      generalize gvText net l data = tx at *
      go_enter Try.func13, Try.ntmps13
      go_wp2_with (first | (go_at_call 39; refine (CN.out _).mono ?_; rintro e wz ⟨rfl, hz⟩; rw [hz]; clear hz wz) | (go_at_call 40; refine (CO.out _ rfl).mono ?_; rintro e w1 ⟨rfl, hb1⟩))
      go_ret
      exact ⟨by rw [HE.out]; rfl, hb1⟩
    · rw [ho] at CO HT
      cases hc : carB data
      · rw [hc] at CL HT
        have HE : Hid (gvText net l data = []) := HT.out
        clear HT hk ho hc
        generalize gvText net l data = tx at *
        go_enter Try.func13, Try.ntmps13
        go_wp2_with (first | (go_at_call 39; refine (CN.out _).mono ?_; rintro e wz ⟨rfl, hz⟩; rw [hz]; clear hz wz) | (go_at_call 40; refine (CO.out _ rfl).mono ?_; rintro e w1 ⟨rfl, hb1⟩) | (go_at_call 41; refine (CL.out _).mono ?_; rintro e wz ⟨rfl, hz⟩; rw [hz]; clear hz wz))
        go_ret
        exact ⟨by rw [HE.out]; rfl, hb1⟩
      · rw [hc] at CL HT
        have hcs : data.size ≤ 65000 := of_decide_eq_true hc
        obtain ⟨hok, hsum⟩ := opsB_facts ho
        have HOK : Hid (∀ i, i < l.length → opOk (opA l i) = true) := fun i hi => opsOk_at hok i hi
        have HSm : Hid (∀ j, (opsText (l.take j)).length ≤ opSum l) := fun j => by rw [opsText_len]; exact opSum_le l j
        have hll : l.length ≤ 252 := by have := opSum_eq l; omega
        have HE : Hid (str (be 1 ((opSum l : Int) / 4)) ++ str (be 1 (gvFl l)) ++ str (be 2 25944) ++ str (be 3 net) ++ ⟨#[0]⟩ ++ str (opsText l) ++ data = str (gvText net l data)) := by
          show _ = _
          have e2 : (⟨#[0]⟩ : ByteArray) = str (be 1 0) := by decide
          rw [e2, HT.out, str_app, str_app, str_app, str_app, str_app, str_app_bl]; rfl
        have HLn : Hid ((opsText l).length = opSum l) := opsText_len l
        have HFt : Hid (∀ j, j < l.length → gvFl (l.take (j + 1)) = if opCr (opA l j) then 64 else gvFl (l.take j)) := fun j hj => gvFl_take l j hj
        have HTt : Hid (∀ j, j < l.length → opsText (l.take (j + 1)) = opsText (l.take j) ++ opText (opA l j)) := fun j hj => opsText_take l j hj
        have HTx : Hid (∀ a : OpV, str (be 2 a.cls) ++ str (be 1 a.typ) ++ str (be 1 ((a.data.size : Int) / 4)) ++ a.data = str (opText a)) := fun a => by rw [str_app, str_app, str_app_bl]; rfl
        have b1 : ∀ n, (be 1 n).length = 1 := fun n => be_length 1 n
        have b2 : ∀ n, (be 2 n).length = 2 := fun n => be_length 2 n
        have b3 : ∀ n, (be 3 n).length = 3 := fun n => be_length 3 n
        clear HT hk ho hc hok
        generalize gvText net l data = tx at *
        generalize hos : opSum l = os at *
        clear hos
        go_enter Try.func13, Try.ntmps13
        go_wp2_with (first | (go_at_call 39; refine (CN.out _).mono ?_; rintro e wz ⟨rfl, hz⟩; rw [hz]; clear hz wz) | (go_at_call 40; refine (CO.out _ rfl).mono ?_; rintro e w1 ⟨rfl, hb1⟩) | (go_at_call 41; refine (CL.out _).mono ?_; rintro e wz ⟨rfl, hz⟩; rw [hz]; clear hz wz))
        go_loopw [9, 7, 8] (fun i v f wr => ∃ j : Nat, j ≤ l.length ∧ i = .int .i64 (j : Int) ∧ v = .string (str (opsText (l.take j))) ∧ f = .int .i64 (gvFl (l.take j)) ∧ Below w.heap.size w wr) (fun i _ _ _ => ((l.length : Int) - intOf i).toNat)
        case atStart => exact ⟨0, by omega, rfl, rfl, rfl, hb1⟩
        case round =>
          obtain ⟨j, hj, rfl, rfl, rfl, hB⟩ := hrel
          have hms := HSm.out j
          by_cases hlt : j < l.length
          · rcases h.below hB with h | ⟨g, off, rfl, hg, hcc⟩
            · have := opF_len l; rw [h] at this; simp at this; omega
            · have hcs := op_cells hcc j hlt
              clear hcc
              have hj1 : (j : Int) < (l.length : Int) := by omega
              obtain ⟨c0, c1, t0, t1, d1, d4⟩ := opOk_facts (HOK.out j hlt)
              have HS : Hid (str (opsText (l.take j)) ++ str (be 2 (opA l j).cls) ++ str (be 1 (opA l j).typ) ++ str (be 1 (((opA l j).data.size : Int) / 4)) ++ (opA l j).data = str (opsText (l.take (j + 1)))) := by
                show _ = _
                rw [HTt.out j hlt, ← str_app, ← HTx.out (opA l j)]
                simp only [ByteArray.append_assoc]
              have HF : Hid (gvFl (l.take (j + 1)) = if opCr (opA l j) then 64 else gvFl (l.take j)) := HFt.out j hlt
              have HC : Hid (opCr (opA l j) = decide (128 ≤ (opA l j).typ)) := rfl
              have hB1 := hB.alloc hB.size (.cells (opL (opA l j)) 33)
              have hA := Bx.new wr (opL (opA l j)) 33
              have hq : Int.tdiv ((opA l j).data.size : Int) 4 = ((opA l j).data.size : Int) / 4 := Int.tdiv_eq_ediv_of_nonneg (by omega)
              generalize opsText (l.take j) = ga at *
              generalize gvFl (l.take j) = fa at *
              generalize opCr (opA l j) = cr at *
              generalize opA l j = a at *
              obtain ⟨cls, typ, dat⟩ := a
              simp only [opL] at *
              have hcr : typ < 128 ∧ cr = false ∨ 128 ≤ typ ∧ cr = true := by
                by_cases q : 128 ≤ typ
                · exact .inr ⟨q, by rw [HC.out, decide_eq_true q]⟩
                · exact .inl ⟨by omega, by rw [HC.out, decide_eq_false q]⟩
              rcases hcr with ⟨hct, rfl⟩ | ⟨hct, rfl⟩
              all_goals
                simp only [Bool.false_eq_true, if_false, if_true] at HF
                go_wp2_with fail
                generalize hW : wr.alloc _ = w2 at *
                clear hW
                generalize wr.heap.size = gg at *
                have hne := BW.some w2
                have a0 := fun u : BW w2 => (hA.ofBW u).2 0 _ rfl
                have a1 := fun u : BW w2 => (hA.ofBW u).2 1 _ rfl
                have a2 := fun u : BW w2 => (hA.ofBW u).2 2 _ rfl
                refine wp_region_below (by kernel_rfl) (by kernel_rfl) ?_
                repeat (go_big_quiet_step (first | (go_at_call 42; exact Calls.into (BE.out _ _ _ (by decide) (by decide)))))
                refine wpQuiet_nil ?_
                intro _ hw'
                obtain ⟨u, hw''⟩ := hw'
                subst hw''
                try rw [hq]
                simp only [Int.reduceToNat]
                rw [HS.out]
                clear a0 a1 a2 hne HS
                have hB3 := hB1.trans (u.le.mono hB1.size)
                generalize hU : u.u = U at *
                clear hU u hB1 hA
                go_wp2
                go_roundw
                case rel => exact ⟨j + 1, by omega, by go_num, rfl, by rw [HF.out], hB3⟩
                case measure => simp [intOf]; omega
          · have e : j = l.length := by omega
            subst e
            rw [List.take_length] at hms ⊢
            have hLn := HLn.out
            generalize opsText l = ot at *
            have hos1 : ot.length ≤ os := by omega
            have hos2 : os ≤ ot.length := by omega
            have hq : Int.tdiv ((ot.length : Nat) : Int) 4 = ((ot.length : Nat) : Int) / 4 := Int.tdiv_eq_ediv_of_nonneg (by omega)
            have hso : (str ot).size = ot.length := str_size ot
            rw [← hLn] at HE
            clear hLn HLn hos1 hos2 hso
            generalize gvFl l = fl at *
            go_wp2_with (go_at_call 42; refine (BE.out _ _ _ (by decide) (by decide)).mono ?_; rintro e wq ⟨rfl, hX⟩; replace hB := hB.trans (hX.mono hB.size); clear hX)
            go_ret
            exact ⟨ret_strb HE.out, hB⟩
end Go.Proofs.Ytnheppkjeoiipaa
