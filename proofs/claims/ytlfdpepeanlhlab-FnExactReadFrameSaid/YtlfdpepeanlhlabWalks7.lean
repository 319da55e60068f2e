/-
  Contracts of MacText, of the program and of the model.
-/
import Derived.Test.YtlfdpepeanlhlabWalks6
import Derived.Test.YtlfdpepeanlhlabStrs
namespace Go.Proofs.Ytlfdpepeanlhlab
open Go.RowKit Go.PlainAid
/-- whether a number is an address -/
def macB (n : Int) : Bool := inB n 0 281474976710655
theorem i_isMac (n : Int) (w : World) : Calls Try.prog 56 #[.int .i64 n] w fun e w' => e = .returned (.bool (macB n)) ∧ w' = w := by
  by_cases h1 : 0 ≤ n
  · by_cases h2 : n < 281474976710656
    all_goals
      go_enter Try.func56, Try.ntmps56
      go_wp2
      go_ret
      exact ⟨ret_bool (by unfold macB inB; rw [Bool.eq_iff_iff]; simp; omega), rfl⟩
  · go_enter Try.func56, Try.ntmps56
    go_wp2
    go_ret
    exact ⟨ret_bool (by unfold macB inB; rw [Bool.eq_iff_iff]; simp; omega), rfl⟩
theorem s_Mac (n : Int) (w : World) : Calls Try.prog 55 #[.int .i64 n] w fun e w' => e = .returned (.bool (macB n)) ∧ w' = w := by
  go_enter Try.func55, Try.ntmps55
  go_wp2_with (go_at_call 54; refine (s_In _ _ _ _).mono ?_; rintro e w' ⟨rfl, rfl⟩)
  go_ret
  exact ⟨rfl, rfl⟩
/-- a colon ahead of each two digits -/
def colon : List UInt8 → List UInt8
  | a :: b :: l => 58 :: a :: b :: colon l
  | _ => []
theorem colon_append : ∀ l m : List UInt8, l.length % 2 = 0 → colon (l ++ m) = colon l ++ colon m
  | [], m, _ => rfl
  | [a], m, h => by simp at h
  | a :: b :: l, m, h => by simp only [List.cons_append, colon, colon_append l m (by simp at h; omega)]
theorem colon_length : ∀ l : List UInt8, (colon l).length = l.length / 2 * 3
  | [] => rfl
  | [a] => by simp [colon]
  | a :: b :: l => by simp only [colon, List.length_cons, colon_length l]; omega
/-- digits with colons: the first j + 1 pairs -/
def macP (h : List UInt8) (j : Nat) : List UInt8 := h.take 2 ++ colon ((h.drop 2).take (2 * j))
theorem macP_length (h : List UInt8) (hl : h.length = 12) (j : Nat) (hj : j ≤ 5) : (macP h j).length = 2 + 3 * j := by
  unfold macP; rw [List.length_append, colon_length]; simp; omega
theorem macP_step (h : List UInt8) (hl : h.length = 12) (j : Nat) (hj : j < 5) : str (macP h j) ++ (⟨#[58]⟩ ++ (str h).extract (2 + 2 * j) (2 + 2 * j + 2)) = str (macP h (j + 1)) := by
  have e : (⟨#[58]⟩ : ByteArray) = str [58] := rfl
  rw [str_extract, e, str_app, str_app, show 2 + 2 * j + 2 - (2 + 2 * j) = 2 by omega]
  apply congrArg str
  match h, hl with
  | [a, b, c, d, e, f, g, i, k, l, m, n], _ =>
    have : j = 0 ∨ j = 1 ∨ j = 2 ∨ j = 3 ∨ j = 4 := by omega
    rcases this with rfl | rfl | rfl | rfl | rfl <;> rfl
theorem macP_step' (h : List UInt8) (hl : h.length = 12) (j : Nat) (hj : j < 5) : str (macP h j) ++ ⟨#[58]⟩ ++ (str h).extract (2 + 2 * j) (2 + 2 * j + 2) = str (macP h (j + 1)) := by
  rw [← macP_step h hl j hj]
  have e : (⟨#[58]⟩ : ByteArray) = str [58] := rfl
  rw [str_extract, e, str_app, str_app, str_app, str_app, List.append_assoc]
/-- the text of an address -/
def macText (n : Int) : List UInt8 := if macB n then macP (hexOf (be 6 n)) 5 else []
theorem macText_yes {n : Int} (h : macB n = true) : macText n = macP (hexOf (be 6 n)) 5 := by unfold macText; rw [if_pos h]
theorem macText_no {n : Int} (h : macB n = false) : macText n = [] := by unfold macText; rw [h]; rfl

set_option maxRecDepth 100000 in
set_option maxHeartbeats 400000 in
theorem s_MacText (n : Int) (w : World) :
    Calls Try.prog 34 #[.int .i64 n] w fun e w' => e = .returned (.string (str (macText n))) ∧ Below w.heap.size w w' := by
  cases hm : macB n
  · have He : Hid (macText n = []) := macText_no hm
    go_enter Try.func34, Try.ntmps34
    go_wp2_with (go_at_call 55; refine (s_Mac _ _).mono ?_; rintro e w' ⟨rfl, rfl⟩)
    go_ret
    exact ⟨by rw [He.out]; rfl, Below.refl _ _⟩
  · have He : Hid (macText n = macP (hexOf (be 6 n)) 5) := macText_yes hm
    have C1 : Hid (∀ u : World, Calls Try.prog 69 #[.string (str (be 6 n))] u fun e w' => e = .returned (.string (str (hexOf (be 6 n)))) ∧ Below u.heap.size u w') :=
      fun u => s_HexOf (str (be 6 n)) u (by rw [str_size, be_length]; omega)
    have hl : (hexOf (be 6 n)).length = 12 := by rw [hexOf_length, be_length]
    go_enter Try.func34, Try.ntmps34
    go_wp2_with (go_at_call 55; refine (s_Mac _ _).mono ?_; rintro e w' ⟨rfl, rfl⟩)
    refine (be_any _ _ _ (by decide) (by decide)).mono ?_
    rintro e w1 ⟨rfl, hb1⟩
    go_wp2_with fail
    refine (C1.out _).mono ?_
    rintro e w2 ⟨rfl, hb2⟩
    replace hb1 := hb1.trans (hb2.mono hb1.size)
    clear hb2
    generalize hexOf (be 6 n) = h at *
    have hex : (str h).extract 0 2 = str (macP h 0) := by rw [str_extract]; simp [macP, colon]
    go_wp2
    go_loop [4, 5] (fun v i => ∃ j : Nat, j ≤ 5 ∧ i = .int .i64 (2 + 2 * (j : Int)) ∧ v = .string (str (macP h j))) (fun _ i => (12 - intOf i).toNat)
    case atStart => exact ⟨0, by omega, rfl, rfl⟩
    case round =>
      obtain ⟨j, hj, rfl, rfl⟩ := hrel
      by_cases hlt : j < 5
      · have HS : Hid (str (macP h j) ++ ⟨#[58]⟩ ++ (str h).extract (2 + 2 * j) (2 + 2 * j + 2) = str (macP h (j + 1))) := macP_step' h hl j hlt
        have hpl : (macP h j).length ≤ 17 := by rw [macP_length h hl j hj]; omega
        clear hex
        go_wp2
        go_round
        case rel => exact ⟨j + 1, by omega, by go_num, by rw [HS.out]⟩
        case measure => simp [intOf]; omega
      · have hj5 : j = 5 := by omega
        subst hj5
        go_wp2
        go_ret
        exact ⟨by rw [He.out]; rfl, hb1⟩

set_option maxRecDepth 100000 in
set_option maxHeartbeats 400000 in
theorem i_MacText (n : Int) (w : World) :
    Calls Try.prog 30 #[.int .i64 n] w fun e w' => e = .returned (.string (str (macText n))) ∧ Below w.heap.size w w' := by
  cases hm : macB n
  · have He : Hid (macText n = []) := macText_no hm
    go_enter Try.func30, Try.ntmps30
    go_wp2_with (go_at_call 56; refine (i_isMac _ _).mono ?_; rintro e w' ⟨rfl, rfl⟩)
    go_ret
    exact ⟨by rw [He.out]; rfl, Below.refl _ _⟩
  · have He : Hid (macText n = macP (hexOf (be 6 n)) 5) := macText_yes hm
    have hb := of_inB hm
    have C0 : Hid (∀ u : World, Calls Try.prog 42 #[.int .i64 n, .int .i64 6] u fun e w' => e = .returned (.string (str (be 6 n))) ∧ Below u.heap.size u w') := by
      intro u
      have h := i_BytesOf n 6 u (by omega)
      rw [okB_of (by omega) (by omega) hb.1 (by simp; omega)] at h
      exact h
    have C1 : Hid (∀ u : World, Calls Try.prog 65 #[.string (str (be 6 n))] u fun e w' => e = .returned (.string (str (hexOf (be 6 n)))) ∧ Below u.heap.size u w') :=
      fun u => i_HexOf (str (be 6 n)) u (by rw [str_size, be_length]; omega)
    have hl : (hexOf (be 6 n)).length = 12 := by rw [hexOf_length, be_length]
    go_enter Try.func30, Try.ntmps30
    go_wp2_with (go_at_call 56; refine (i_isMac _ _).mono ?_; rintro e w' ⟨rfl, rfl⟩)
    refine (C0.out _).mono ?_
    rintro e w1 ⟨rfl, hb1⟩
    go_wp2_with fail
    refine (C1.out _).mono ?_
    rintro e w2 ⟨rfl, hb2⟩
    replace hb1 := hb1.trans (hb2.mono hb1.size)
    clear hb2
    generalize hexOf (be 6 n) = h at *
    have hex : (str h).extract 0 2 = str (macP h 0) := by rw [str_extract]; simp [macP, colon]
    go_wp2
    go_loop [4, 5] (fun v i => ∃ j : Nat, j ≤ 5 ∧ i = .int .i64 (2 + 2 * (j : Int)) ∧ v = .string (str (macP h j))) (fun _ i => (12 - intOf i).toNat)
    case atStart => exact ⟨0, by omega, rfl, rfl⟩
    case round =>
      obtain ⟨j, hj, rfl, rfl⟩ := hrel
      by_cases hlt : j < 5
      · have HS : Hid (str (macP h j) ++ (⟨#[58]⟩ ++ (str h).extract (2 + 2 * j) (2 + 2 * j + 2)) = str (macP h (j + 1))) := macP_step h hl j hlt
        have hpl : (macP h j).length ≤ 17 := by rw [macP_length h hl j hj]; omega
        clear hex
        go_wp2
        go_round
        case rel => exact ⟨j + 1, by omega, by go_num, by rw [HS.out]⟩
        case measure => simp [intOf]; omega
      · have hj5 : j = 5 := by omega
        subst hj5
        go_wp2
        go_ret
        exact ⟨by rw [He.out]; rfl, hb1⟩
end Go.Proofs.Ytlfdpepeanlhlab
