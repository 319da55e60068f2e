/-
  The law on critical options. Given the draw of options (TlvsC).
-/
import Derived.Test.YtnheppkjeoiipaaDgn1
import Derived.Test.YtnheppkjeoiipaaDgn3
import Derived.Test.YtnheppkjeoiipaaGnva
namespace Go.Proofs.Ytnheppkjeoiipaa
open Go.RowKit Go.PlainAid
theorem opsUn_take (l : List OpV) (j : Nat) (h : j < l.length) : opsUn (l.take (j + 1)) = (opsUn (l.take j) || opUn (opA l j)) := by
  unfold opsUn; rw [List.take_succ_eq_append_getElem h, opA_eq l j h]; simp only [List.any_append, List.any_cons, List.any_nil, Bool.or_false]
set_option maxRecDepth 100000 in
set_option maxHeartbeats 6400000 in
theorem walkT_FnCritical (HTl : TlvsC) (a : Option Addr) (len cap : Nat) (zs : List Int) (w : World) (w0 : IsRow .u8 w a len cap zs) :
    Calls Try.prog 4 #[.slice a len cap] w fun e w' => e = .returned (.bool true) ∧ Below w.heap.size w w' := by
  have hl := row_len w0
  by_cases hz : 1048576 < len
  · go_enter Try.func4, Try.ntmps4
    go_wp2
    go_ret
    exact ⟨rfl, Below.refl _ _⟩
  · have hCo := code_of_row w0 (by omega)
    clear w0
    go_enter Try.func4, Try.ntmps4
    go_wp2_with fail
    refine (big_no _ _ _ _ (by omega)).mono ?_
    rintro e w' ⟨rfl, rfl⟩
    go_wp2_with fail
    refine (d_GeneveBytes HTl _ a len cap _ hCo).mono ?_
    rintro e w1 ⟨x, vL, l, d, rfl, hL, hll, hlt, hd, hb⟩
    obtain ⟨TL, cL, rfl⟩ := hL.form
    go_wp2_with fail
    go_at_call 9
    refine (i_GeneveBytes x TL cL l d _ hL.reads.2 (by omega) (by omega)).mono ?_
    rintro e w2 ⟨rfl, hbq⟩
    replace hL := hL.far hbq
    replace hb := hb.trans (hbq.mono hb.size)
    clear hbq
    have hvl := gvText_le x l d
    have hvs : (str (gvText x l d)).size ≤ 65400 := by rw [str_size]; omega
    have CSB : Hid (∀ u : World, CellsAt u TL (opF l) → Calls Try.prog 13 #[.int .i64 x, .slice TL l.length cL, .string d] u fun e w' => e = .returned (.string (str (gvText x l d))) ∧ Below u.heap.size u w') := fun u hu => s_GeneveBytes x TL cL l d u hu (by omega) (by omega)
    have CRs : Hid (∀ u : World, Calls Try.prog 11 #[.string (str (gvText x l d))] u fun e w' => ∃ v, e = .returned (.tuple #[.int .i64 (rgN (str (gvText x l d))), v, .string (rgT (str (gvText x l d))), .int .i64 (rgC (str (gvText x l d)))]) ∧ ownV w' u.heap.size 33 3 v (rgR (str (gvText x l d))).length (opF (rgR (str (gvText x l d)))) ∧ Below u.heap.size u w') := fun u => i_ReadGeneve _ u (by omega)
    have HY : Hid ((netB x && opsB l && carB d) = true → rgC (str (gvText x l d)) = (if opsUn l then 3 else 0) ∧ rgN (str (gvText x l d)) = x ∧ rgR (str (gvText x l d)) = l ∧ rgT (str (gvText x l d)) = d ∧ ¬ str (gvText x l d) = ⟨#[]⟩) := fun h => gv_back h
    have HN : Hid ((netB x && opsB l && carB d) = false → str (gvText x l d) = ⟨#[]⟩) := fun h => by show str (gvText x l d) = _; unfold gvText; rw [h]; rfl
    clear hvl hvs
    generalize str (gvText x l d) = s at *
    cases hT : (netB x && opsB l && carB d)
    · have y2 := HN.out hT
      have e2 : s.toList.isEmpty = true := by rw [y2]; simp
      clear HY HN hT y2 CRs
      go_wp2_with (go_at_call 13; refine (CSB.out _ hL.reads.2).mono ?_; rintro e w6 ⟨rfl, hbq⟩; replace hL := hL.far hbq; replace hb := hb.trans (hbq.mono hb.size); clear hbq)
      go_ret
      exact ⟨by first | rfl | exact ret_bool (by simp [e2]), hb⟩
    · obtain ⟨y1, y2, y3, y4, y5⟩ := HY.out hT
      rw [y1, y2, y3, y4] at CRs
      have e2 : s.toList.isEmpty = false := by rw [List.isEmpty_eq_false_iff]; exact fun hh => by have := str_ne y5; rw [hh] at this; simp at this
      clear HY HN hT y1 y2 y3 y4 y5
      go_wp2_with (go_at_call 13; refine (CSB.out _ hL.reads.2).mono ?_; rintro e w6 ⟨rfl, hbq⟩; replace hL := hL.far hbq; replace hb := hb.trans (hbq.mono hb.size); clear hbq)
      clear CSB e2
      have hc0 := hL.reads.2
      have HU : Hid (∀ j, j < l.length → opsUn (l.take (j + 1)) = (opsUn (l.take j) || opUn (opA l j))) := fun j h => opsUn_take l j h
      go_loopw [7, 8] (fun q i wr => ∃ j : Nat, j ≤ l.length ∧ i = .int .i64 (j : Int) ∧ q = .bool (opsUn (l.take j)) ∧ Below w'.heap.size w' wr ∧ CellsAt wr TL (opF l)) (fun _ i _ => ((l.length : Int) - intOf i).toNat)
      case atStart => exact ⟨0, by omega, rfl, rfl, hb, hc0⟩
      case round =>
        clear hL hb hc0
        obtain ⟨j, hj, rfl, rfl, hb, hc0⟩ := hrel
        by_cases hlt2 : j < l.length
        · have hc1 := hc0
          rcases hc0 with h | ⟨g, off, rfl, hg, hc⟩
          · have := opF_len l; rw [h] at this; simp at this; omega
          · have hj1 : (j : Int) < (l.length : Int) := by omega
            have hcs := op_cells hc j hlt2
            have hu := HU.out j hlt2
            clear hc
            generalize opA l j = b at *
            obtain ⟨p, q, r⟩ := b
            unfold opUn at hu
            simp only at hu hcs
            cases hq : opsUn (l.take j)
            · rw [hq] at hu
              by_cases h1 : 128 ≤ q
              · by_cases h2 : p = 259
                · have e3 : (p != 259) = false := by simp [h2]
                  have hv : opsUn (l.take (j + 1)) = false := by rw [hu]; simp [h2]
                  subst h2
                  clear hu
                  go_wp2
                  go_roundw
                  case rel => exact ⟨j + 1, by omega, by go_num, by rw [hv], hb, hc1⟩
                  case measure => simp [intOf]; omega
                · have e3 : (p != 259) = true := by simp [h2]
                  have hv : opsUn (l.take (j + 1)) = true := by rw [hu]; simp [h1, h2]
                  clear hu h2
                  go_wp2
                  go_roundw
                  case rel => exact ⟨j + 1, by omega, by go_num, by rw [hv], hb, hc1⟩
                  case measure => simp [intOf]; omega
              · have e4 : decide (128 ≤ q) = false := decide_eq_false h1
                have hv : opsUn (l.take (j + 1)) = false := by rw [hu]; simp [h1]
                clear hu
                go_wp2
                go_roundw
                case rel => exact ⟨j + 1, by omega, by go_num, by rw [hv], hb, hc1⟩
                case measure => simp [intOf]; omega
            · rw [hq] at hu
              have hv : opsUn (l.take (j + 1)) = true := by rw [hu]; rfl
              clear hu
              go_wp2
              go_roundw
              case rel => exact ⟨j + 1, by omega, by go_num, by rw [hv], hb, hc1⟩
              case measure => simp [intOf]; omega
        · have e : j = l.length := by omega
          subst e
          rw [List.take_length]
          clear HU
          cases hun : opsUn l
          all_goals rw [hun] at CRs; clear hun
          · simp only [Bool.false_eq_true, if_false] at CRs
            go_wp2_with fail
            refine (CRs.out _).mono ?_
            rintro e w9 ⟨vX, rfl, hX, hbq⟩
            replace hb := hb.trans (hbq.mono hb.size)
            go_wp2
            go_ret
            exact ⟨by first | rfl | exact ret_bool (by simp), hb⟩
          · simp only [if_true] at CRs
            go_wp2_with fail
            refine (CRs.out _).mono ?_
            rintro e w9 ⟨vX, rfl, hX, hbq⟩
            replace hb := hb.trans (hbq.mono hb.size)
            go_wp2
            go_ret
            exact ⟨by first | rfl | exact ret_bool (by simp), hb⟩
end Go.Proofs.Ytnheppkjeoiipaa
