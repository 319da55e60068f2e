/-
  Contracts of ReadHex, of the program and of the model.
-/
import Derived.Test.YtlfdpepeanlhlabWalks5
namespace Go.Proofs.Ytlfdpepeanlhlab
open Go.RowKit Go.PlainAid

/-- whether a byte is a digit of sixteen, and what it is -/
def isD (c : Int) : Bool := decide (48 ≤ c ∧ c ≤ 57 ∨ 97 ≤ c ∧ c ≤ 102)
def dv (c : Int) : Int := if 48 ≤ c ∧ c ≤ 57 then c - 48 else if 97 ≤ c ∧ c ≤ 102 then c - 87 else 0
def sdig (c : Int) : Int := if isD c then dv c else -1
theorem dv_bd (c : Int) : 0 ≤ dv c ∧ dv c ≤ 15 := by unfold dv; (repeat' split) <;> omega
theorem sdig_yes {c : Int} (h : isD c = true) : sdig c = dv c := by unfold sdig; rw [if_pos h]
theorem sdig_no {c : Int} (h : isD c = false) : sdig c = -1 := by unfold sdig; rw [h]; rfl
theorem isD_iff (c : UInt8) : isD (c.toNat : Int) = true ↔ isHexd c := by unfold isD isHexd; simp; omega
theorem dv_eq (c : UInt8) : dv (c.toNat : Int) = (unhexd c : Int) := by unfold dv unhexd; (repeat' split) <;> omega
theorem or_4 {x y : Int} (h₀ : 0 ≤ x) (h₁ : x ≤ 15) (hy : 0 ≤ y) (hy₁ : y ≤ 15) : bits .or .u8 (x * 16) y = x * 16 + y :=
  bits_join .u8 8 (by decide) wraps_u8 4 (x * 16) y (by omega) (by omega) (by omega) hy (by omega) (by omega)

set_option maxRecDepth 100000 in
theorem s_Digit (c : Int) (w : World) (h0 : 0 ≤ c) (h1 : c ≤ 255) :
    Calls Try.prog 68 #[.int .u8 c] w fun e w' => e = .returned (.int .i64 (sdig c)) ∧ w' = w := by
  have hc : c < 48 ∨ 48 ≤ c ∧ c ≤ 57 ∨ 57 < c ∧ c < 97 ∨ 97 ≤ c ∧ c ≤ 102 ∨ 102 < c := by omega
  rcases hc with hc | ⟨hc, hd⟩ | ⟨hc, hd⟩ | ⟨hc, hd⟩ | hc
  all_goals
    go_enter Try.func68, Try.ntmps68
    go_wp2
    go_ret
    exact ⟨ret_i64 (by unfold sdig isD dv; simp; (repeat' split) <;> omega), rfl⟩

set_option maxRecDepth 100000 in
theorem i_digitOf (c : Int) (w : World) (h0 : 0 ≤ c) (h1 : c ≤ 255) :
    Calls Try.prog 84 #[.int .u8 c] w fun e w' => e = .returned (.tuple #[.int .u8 (dv c), .bool (isD c)]) ∧ w' = w := by
  have hc : c < 48 ∨ 48 ≤ c ∧ c ≤ 57 ∨ 57 < c ∧ c < 97 ∨ 97 ≤ c ∧ c ≤ 102 ∨ 102 < c := by omega
  rcases hc with hc | ⟨hc, hd⟩ | ⟨hc, hd⟩ | ⟨hc, hd⟩ | hc
  all_goals
    go_enter Try.func84, Try.ntmps84
    go_wp2
    go_ret2
    exact ⟨ret_pair (by unfold dv; (repeat' split) <;> omega) (by unfold isD; simp; omega), rfl⟩

/-- whether bytes are digits, two for each byte -/
def hexy (l : List UInt8) : Bool := decide (l.length % 2 = 0 ∧ ∀ c ∈ l, isD (c.toNat : Int) = true)
def readHex (l : List UInt8) : List UInt8 := if hexy l then unhex l else []
theorem hexy_no_len {l : List UInt8} (h : l.length % 2 ≠ 0) : hexy l = false ∧ readHex l = [] := by
  have e : hexy l = false := by unfold hexy; simp; omega
  exact ⟨e, by unfold readHex; rw [e]; rfl⟩
theorem hexy_no_digit (s : ByteArray) (j : Nat) (hj : j < s.size) (h : isD (bt s j) = false) : hexy (bl s) = false ∧ readHex (bl s) = [] := by
  have hl := bl_length s
  have e : hexy (bl s) = false := by
    unfold hexy
    rw [decide_eq_false_iff_not]
    intro ⟨_, h2⟩
    have := h2 _ (List.getElem_mem (show j < (bl s).length by omega))
    rw [← bt_eq s j (by omega), h] at this
    cases this
  exact ⟨e, by unfold readHex; rw [e]; rfl⟩
theorem hexy_yes {l : List UInt8} (h : l.length % 2 = 0) (hd : ∀ c ∈ l, isD (c.toNat : Int) = true) : hexy l = true ∧ readHex l = unhex l := by
  have e : hexy l = true := by unfold hexy; rw [decide_eq_true_iff]; exact ⟨h, hd⟩
  exact ⟨e, by unfold readHex; rw [e]; rfl⟩
theorem unhex_take (s : ByteArray) (k : Nat) (h : 2 * k + 1 < s.size) : unhex ((bl s).take (2 * k)) ++ [UInt8.ofNat (16 * dv (bt s (2 * k)) + dv (bt s (2 * k + 1))).toNat] = unhex ((bl s).take (2 * (k + 1))) := by
  have hl := bl_length s
  have e1 := bt_eq s (2 * k) (by omega)
  have e2 := bt_eq s (2 * k + 1) (by omega)
  rw [show 2 * (k + 1) = 2 * k + 1 + 1 by omega, List.take_succ_eq_append_getElem (by omega), List.take_succ_eq_append_getElem (by omega), List.append_assoc, unhex_append _ _ (by rw [List.length_take]; omega), e1, e2, dv_eq, dv_eq]
  simp only [List.cons_append, List.nil_append, unhex]
  congr 3
theorem digits_take (s : ByteArray) (k : Nat) (h : 2 * k + 1 < s.size) (h0 : ∀ c ∈ (bl s).take (2 * k), isD (c.toNat : Int) = true) (h1 : isD (bt s (2 * k)) = true) (h2 : isD (bt s (2 * k + 1)) = true) : ∀ c ∈ (bl s).take (2 * (k + 1)), isD (c.toNat : Int) = true := by
  have hl := bl_length s
  rw [show 2 * (k + 1) = 2 * k + 1 + 1 by omega, List.take_succ_eq_append_getElem (by omega), List.take_succ_eq_append_getElem (by omega)]
  intro c hc
  simp only [List.mem_append, List.mem_cons, List.not_mem_nil, or_false] at hc
  rcases hc with (hc | rfl) | rfl
  · exact h0 c hc
  · rw [← bt_eq]; exact h1
  · rw [← bt_eq]; exact h2
theorem unhex_take_len (s : ByteArray) (k : Nat) (hs : s.size ≤ 1099511627776) : (unhex ((bl s).take (2 * k))).length ≤ 70368744177664 := by
  rw [unhex_length, List.length_take, bl_length]; omega
theorem ret_sb {a b : List UInt8} {c d : Bool} (h : a = b) (h' : c = d) : Ending.returned (.tuple #[.string (str a), .bool c]) = .returned (.tuple #[.string (str b), .bool d]) := by rw [h, h']

set_option maxRecDepth 100000 in
set_option maxHeartbeats 800000 in
theorem i_ReadHex (s : ByteArray) (w : World) (hs : s.size ≤ 1099511627776) :
    Calls Try.prog 66 #[.string s] w fun e w' => e = .returned (.tuple #[.string (str (readHex (bl s))), .bool (hexy (bl s))]) ∧ Below w.heap.size w w' := by
  by_cases hev : s.size % 2 = 0
  · have hm : ((s.size : Int) % 2 != 0) = false := by simp; omega
    obtain ⟨h, hh⟩ : ∃ h, h = s.size / 2 := ⟨_, rfl⟩
    have hd2 : (s.size : Int) / 2 = (h : Int) := by omega
    have hev' : Hid (s.size = 2 * h) := by show _ = _; omega
    have hle : h ≤ 1099511627776 := by omega
    clear hev hh
    go_enter Try.func66, Try.ntmps66
    go_wp2_with (at_make; refine wpList_make_room rfl _ _ rfl _ _ _ h rfl rfl rfl (by omega) ?_; intro w1 hown hb)
    go_loopw [4, 5] (fun v i wr => ∃ k : Nat, 2 * k ≤ s.size ∧ i = .int .i64 (2 * (k : Int)) ∧ Hid (∀ c ∈ (bl s).take (2 * k), isD (c.toNat : Int) = true) ∧ ownB wr w.heap.size v (unhex ((bl s).take (2 * k))) ∧ Below w.heap.size w wr) (fun _ i _ => ((s.size : Int) - intOf i).toNat)
    case atStart => exact ⟨0, by omega, rfl, by simp [Hid], hown, hb⟩
    case round =>
      clear hown hb
      obtain ⟨k, hk, rfl, hd, hown, hb⟩ := hrel
      have hsz := hb.size
      by_cases hlt : 2 * k < s.size
      · have hlt1 : 2 * k + 1 < s.size := by have := hev'.out; omega
        have hbt := get_bt s
        have hc0 := bt_nonneg s (2 * k)
        have hc1 := bt_le s (2 * k)
        have hd0 := bt_nonneg s (2 * k + 1)
        have hd1 := bt_le s (2 * k + 1)
        have hlen := unhex_take_len s k hs
        cases h1 : isD (bt s (2 * k))
        · have He : Hid (hexy (bl s) = false ∧ readHex (bl s) = []) := hexy_no_digit s (2 * k) (by omega) h1
          clear hown
          go_wp2_with (go_at_call 84; refine (i_digitOf _ _ (by omega) (by omega)).mono ?_; rintro e w' ⟨rfl, rfl⟩)
          go_ret2
          exact ⟨ret_sb He.out.2.symm He.out.1.symm, hb⟩
        · cases h2 : isD (bt s (2 * k + 1))
          · have He : Hid (hexy (bl s) = false ∧ readHex (bl s) = []) := hexy_no_digit s (2 * k + 1) (by omega) h2
            clear hown
            go_wp2_with (go_at_call 84; refine (i_digitOf _ _ (by omega) (by omega)).mono ?_; rintro e w' ⟨rfl, rfl⟩)
            go_ret2
            exact ⟨ret_sb He.out.2.symm He.out.1.symm, hb⟩
          · have HD : Hid (∀ c ∈ (bl s).take (2 * (k + 1)), isD (c.toNat : Int) = true) := digits_take s k hlt1 hd h1 h2
            have HS : Hid (unhex ((bl s).take (2 * k)) ++ [UInt8.ofNat (16 * dv (bt s (2 * k)) + dv (bt s (2 * k + 1))).toNat] = unhex ((bl s).take (2 * (k + 1)))) := unhex_take s k hlt1
            obtain ⟨hv0, hv1⟩ := dv_bd (bt s (2 * k))
            obtain ⟨hu0, hu1⟩ := dv_bd (bt s (2 * k + 1))
            have hor := or_4 hv0 hv1 hu0 hu1
            go_wp2_with (first | (go_at_call 84; refine (i_digitOf _ _ (by omega) (by omega)).mono ?_; rintro e w' ⟨rfl, rfl⟩) | (at_builtin; refine wpList_append_byte rfl _ _ rfl w.heap.size _ _ rfl hown _ rfl (by omega) (by omega) hlen hsz ?_; intro v' w1 hown1 hb1))
            rw [show dv (bt s (2 * k)) * 16 + dv (bt s (2 * k + 1)) = 16 * dv (bt s (2 * k)) + dv (bt s (2 * k + 1)) by omega, HS.out] at hown1
            go_roundw
            case rel => exact ⟨k + 1, by omega, by go_num, HD, hown1, hb.trans hb1⟩
            case measure => simp [intOf]; omega
      · have hT : (bl s).take (2 * k) = bl s := List.take_of_length_le (by rw [bl_length]; omega)
        rw [hT] at hown hd
        have He : Hid (hexy (bl s) = true ∧ readHex (bl s) = unhex (bl s)) := hexy_yes (by have := hev'.out; rw [bl_length]; omega) hd
        have hstr := run_string_own hown
        clear hT hd
        go_wp2
        go_ret2
        exact ⟨ret_sb He.out.2.symm He.out.1.symm, hb⟩
  · have hm : ((s.size : Int) % 2 != 0) = true := by simp; omega
    have He : Hid (hexy (bl s) = false ∧ readHex (bl s) = []) := hexy_no_len (by rw [bl_length]; omega)
    clear hev
    go_enter Try.func66, Try.ntmps66
    go_wp2
    go_ret2
    exact ⟨ret_sb He.out.2.symm He.out.1.symm, Below.refl _ _⟩
end Go.Proofs.Ytlfdpepeanlhlab
