/-
  Contracts of ReadMac, of the program and of the model.
-/
import Derived.Test.YtlfdpepeanlhlabWalks7
namespace Go.Proofs.Ytlfdpepeanlhlab
open Go.RowKit Go.PlainAid
/-- of three bytes the first two -/
def digs3 : List UInt8 → List UInt8
  | a :: b :: _ :: l => a :: b :: digs3 l
  | l => l
theorem digs3_snoc : ∀ (l : List UInt8) (c : UInt8), digs3 (l ++ [c]) = digs3 l ++ (if l.length % 3 = 2 then [] else [c])
  | [], c => rfl
  | [a], c => rfl
  | [a, b], c => rfl
  | a :: b :: d :: l, c => by
    have := digs3_snoc l c
    have e : (a :: b :: d :: l).length % 3 = l.length % 3 := by simp; omega
    rw [e]; simp only [List.cons_append, digs3, this]
/-- digits of sixteen as a number -/
def hexnum (l : List UInt8) : Int := l.foldl (fun n c => n * 16 + dv (c.toNat : Int)) 0
theorem hexnum_snoc (l : List UInt8) (c : UInt8) : hexnum (l ++ [c]) = hexnum l * 16 + dv (c.toNat : Int) := by simp [hexnum]
theorem hexnum_from (l : List UInt8) : ∀ (n : Int) (m : Nat), 0 ≤ n → n < 16 ^ m → 0 ≤ l.foldl (fun n c => n * 16 + dv (c.toNat : Int)) n ∧ l.foldl (fun n c => n * 16 + dv (c.toNat : Int)) n < 16 ^ (m + l.length) := by
  induction l with
  | nil => intro n m h0 h1; exact ⟨h0, h1⟩
  | cons c l ih =>
    intro n m h0 h1
    have hc := dv_bd (c.toNat : Int)
    have := ih (n * 16 + dv (c.toNat : Int)) (m + 1) (by omega) (by rw [Int.pow_succ]; omega)
    rw [List.length_cons, show m + (l.length + 1) = m + 1 + l.length from by omega]
    exact this
theorem hexnum_bd (l : List UInt8) : 0 ≤ hexnum l ∧ hexnum l < 16 ^ l.length := by
  have := hexnum_from l 0 0 (by omega) (by decide)
  simpa [hexnum] using this
theorem ipow16_le {m n : Nat} (h : m ≤ n) : (16 : Int) ^ m ≤ 16 ^ n := by
  have := Nat.pow_le_pow_right (n := 16) (by decide) h
  have e : ∀ a : Nat, (16 : Int) ^ a = ((16 ^ a : Nat) : Int) := fun a => (Int.natCast_pow 16 a).symm
  rw [e, e]; exact Int.ofNat_le.2 this
theorem hexnum_lt (l : List UInt8) (h : l.length ≤ 12) : 0 ≤ hexnum l ∧ hexnum l ≤ 281474976710655 := by
  have := hexnum_bd l
  have h2 := ipow16_le h
  have h3 : (16 : Int) ^ 12 = 281474976710656 := by decide
  omega
theorem hexnum_unhex_from : ∀ (l : List UInt8) (n : Int), l.length % 2 = 0 → l.foldl (fun n c => n * 16 + dv (c.toNat : Int)) n = (unhex l).foldl (fun n c => n * 256 + (c.toNat : Int)) n
  | [], n, _ => rfl
  | [a], n, h => by simp at h
  | a :: b :: l, n, h => by
    have ha := dv_bd (a.toNat : Int)
    have hb := dv_bd (b.toNat : Int)
    have e1 := dv_eq a
    have e2 := dv_eq b
    have e : ((UInt8.ofNat (16 * unhexd a + unhexd b)).toNat : Int) = 16 * dv (a.toNat : Int) + dv (b.toNat : Int) := by
      rw [e1, e2]; simp [UInt8.toNat_ofNat']; omega
    simp only [List.foldl_cons, unhex, e]
    rw [hexnum_unhex_from l _ (by simp at h; omega)]
    congr 1; omega
theorem hexnum_unhex (l : List UInt8) (h : l.length % 2 = 0) : hexnum l = num (unhex l) := hexnum_unhex_from l 0 h
theorem or_4i {x y : Int} (h₀ : 0 ≤ x) (h₁ : x < 2 ^ 58) (hy : 0 ≤ y) (hy₁ : y ≤ 15) : bits .or .i64 (x * 16) y = x * 16 + y :=
  bits_join .i64 63 (by decide) wraps_i64 4 (x * 16) y (by omega) (by omega) (by omega) hy (by omega) (by omega)

/-- the colons stand where they should -/
abbrev cols (s : ByteArray) (k : Nat) : Prop := ∀ m, m < k → bt s (2 + 3 * m) = 58
def okM (s : ByteArray) : Bool := decide (s.size = 17 ∧ cols s 5) && hexy (digs3 (bl s))
def readMac (s : ByteArray) : Int := if okM s then num (unhex (digs3 (bl s))) else 0
theorem okM_no_len {s : ByteArray} (h : s.size ≠ 17) : okM s = false ∧ readMac s = 0 := by
  have e : okM s = false := by unfold okM; simp [h]
  exact ⟨e, by unfold readMac; rw [e]; rfl⟩
theorem okM_no_col {s : ByteArray} (m : Nat) (hm : m < 5) (h : bt s (2 + 3 * m) ≠ 58) : okM s = false ∧ readMac s = 0 := by
  have e : okM s = false := by
    unfold okM
    have : ¬ (s.size = 17 ∧ cols s 5) := fun ⟨_, hc⟩ => h (hc m hm)
    simp [this]
  exact ⟨e, by unfold readMac; rw [e]; rfl⟩
theorem okM_no_hex {s : ByteArray} (h : hexy (digs3 (bl s)) = false) : okM s = false ∧ readMac s = 0 := by
  have e : okM s = false := by unfold okM; rw [h, Bool.and_false]
  exact ⟨e, by unfold readMac; rw [e]; rfl⟩
theorem okM_yes {s : ByteArray} (h : s.size = 17) (hc : cols s 5) (hx : hexy (digs3 (bl s)) = true) : okM s = true ∧ readMac s = num (unhex (digs3 (bl s))) := by
  have e : okM s = true := by unfold okM; rw [hx, Bool.and_true, decide_eq_true_iff]; exact ⟨h, hc⟩
  exact ⟨e, by unfold readMac; rw [e]; rfl⟩
theorem okM_iff {s : ByteArray} (h : okM s = true) : s.size = 17 ∧ cols s 5 ∧ hexy (digs3 (bl s)) = true := by
  unfold okM at h; simp at h; exact ⟨h.1.1, h.1.2, h.2⟩
theorem bt_str (l : List UInt8) (k : Nat) (h : k < l.length) : bt (str l) k = (l[k].toNat : Int) := bt_eq (str l) k h
theorem toNat_58 {c : UInt8} (h : (c.toNat : Int) = 58) : c = 58 := UInt8.toNat.inj (by simp; omega)
theorem text_of_list (l : List UInt8) (h : l.length = 17) (hc : cols (str l) 5) : macP (digs3 l) 5 = l ∧ (digs3 l).length = 12 := by
  match l, h with
  | [c0, c1, c2, c3, c4, c5, c6, c7, c8, c9, c10, c11, c12, c13, c14, c15, c16], _ =>
    have h0 := toNat_58 ((bt_str _ 2 (by simp)).symm.trans (hc 0 (by omega)))
    have h1 := toNat_58 ((bt_str _ 5 (by simp)).symm.trans (hc 1 (by omega)))
    have h2 := toNat_58 ((bt_str _ 8 (by simp)).symm.trans (hc 2 (by omega)))
    have h3 := toNat_58 ((bt_str _ 11 (by simp)).symm.trans (hc 3 (by omega)))
    have h4 := toNat_58 ((bt_str _ 14 (by simp)).symm.trans (hc 4 (by omega)))
    simp at h0 h1 h2 h3 h4
    subst h0 h1 h2 h3 h4
    exact ⟨rfl, rfl⟩
theorem list_of_text (h : List UInt8) (hl : h.length = 12) : (macP h 5).length = 17 ∧ cols (str (macP h 5)) 5 ∧ digs3 (macP h 5) = h := by
  match h, hl with
  | [a, b, c, d, e, f, g, i, k, l, m, n], _ =>
    refine ⟨rfl, ?_, rfl⟩
    intro q hq
    have : q = 0 ∨ q = 1 ∨ q = 2 ∨ q = 3 ∨ q = 4 := by omega
    rcases this with rfl | rfl | rfl | rfl | rfl <;> rfl
theorem hexy_hexOf (l : List UInt8) : hexy (hexOf l) = true :=
  (hexy_yes (by rw [hexOf_length]; omega) (fun c hc => (isD_iff c).2 (hexOf_is l c hc))).1
theorem hexy_even {l : List UInt8} (h : hexy l = true) : l.length % 2 = 0 ∧ ∀ c ∈ l, isHexd c := by
  unfold hexy at h; rw [decide_eq_true_iff] at h
  exact ⟨h.1, fun c hc => (isD_iff c).1 (h.2 c hc)⟩
/-- a text is an address's just when it is that of its digits -/
theorem mac_text (s : ByteArray) (hs : s.size = 17) : (str (macText (hexnum (digs3 (bl s)))) = s ↔ okM s = true) ∧ (okM s = true → hexnum (digs3 (bl s)) = readMac s) := by
  have hl := bl_length s
  have hsb := str_bl s
  constructor
  · constructor
    · intro h
      have hn := hexnum_bd (digs3 (bl s))
      have hmac : macB (hexnum (digs3 (bl s))) = true := by
        cases hm : macB (hexnum (digs3 (bl s)))
        · rw [macText_no hm] at h
          have : s.size = 0 := by rw [← h]; rfl
          omega
        · rfl
      rw [macText_yes hmac] at h
      have ht := list_of_text (hexOf (be 6 (hexnum (digs3 (bl s))))) (by rw [hexOf_length, be_length])
      have hx := hexy_hexOf (be 6 (hexnum (digs3 (bl s))))
      generalize hexOf (be 6 (hexnum (digs3 (bl s)))) = H at *
      rw [← h]
      exact (okM_yes (by rw [str_size]; exact ht.1) ht.2.1 (by rw [bl_str, ht.2.2]; exact hx)).1
    · intro h
      obtain ⟨_, hc, hx⟩ := okM_iff h
      obtain ⟨ht, h12⟩ := text_of_list (bl s) (by omega) (by rw [hsb]; exact hc)
      obtain ⟨he, hd⟩ := hexy_even hx
      have hb := hexnum_lt (digs3 (bl s)) (by omega)
      have e1 := hexnum_unhex (digs3 (bl s)) he
      have e2 := hexOf_unhex (digs3 (bl s)) he hd
      have e3 := be_num_of 6 (unhex (digs3 (bl s))) (by rw [unhex_length]; omega)
      rw [macText_yes (inB_true hb.1 hb.2), e1, e3, e2, ht, hsb]
  · intro h
    obtain ⟨_, _, hx⟩ := okM_iff h
    rw [hexnum_unhex _ (hexy_even hx).1]
    unfold readMac; rw [if_pos h]
end Go.Proofs.Ytlfdpepeanlhlab
