/-
  Plain mathematics: numbers in bytes, sums folded to 16 bits, bit operations on int64 within their range.
-/
import Derived.WalkKit
namespace Go.Proofs.YteflhnmoceppgaaDoor

theorem wraps_i64 (n : Int) (h₀ : 0 ≤ n) (h₁ : n < 2 ^ 63) : IntKind.i64.wrap n = n := by rw [IntKind.wrap_i64]; omega
theorem and_255 {x : Int} (h₀ : 0 ≤ x) (h₁ : x < 2 ^ 63) : bits .and .i64 x 255 = x % 256 := bits_mask .i64 63 (by decide) wraps_i64 8 (by decide) x h₀ h₁
theorem and_65535 {x : Int} (h₀ : 0 ≤ x) (h₁ : x < 2 ^ 63) : bits .and .i64 x 65535 = x % 65536 := bits_mask .i64 63 (by decide) wraps_i64 16 (by decide) x h₀ h₁
theorem or_8 {x y : Int} (h₀ : 0 ≤ x) (h₁ : x < 2 ^ 55) (hy : 0 ≤ y) (hy₁ : y < 256) : bits .or .i64 (x * 256) y = x * 256 + y :=
  bits_join .i64 63 (by decide) wraps_i64 8 (x * 256) y (by omega) (by omega) (by omega) hy (by omega) (by omega)
theorem xor_65535 {x : Int} (h₀ : 0 ≤ x) (h₁ : x ≤ 65535) : bits .xor .i64 x 65535 = 65535 - x := by
  obtain ⟨a, rfl⟩ := Int.eq_ofNat_of_zero_le h₀
  have ha : a < 2 ^ 16 := by omega
  have e : a ^^^ 65535 = 65535 - a := by
    have h2 : 65535 - a = 2 ^ 16 - (a + 1) := by omega
    rw [h2]
    apply Nat.eq_of_testBit_eq
    intro i
    have h3 : (65535 : Nat) = 2 ^ 16 - 1 := by decide
    rw [h3, Nat.testBit_two_pow_sub_succ ha, Nat.testBit_xor, Nat.testBit_two_pow_sub_one]
    by_cases hi : i < 16
    · simp [hi]
    · have : a.testBit i = false := Nat.testBit_lt_two_pow (Nat.lt_of_lt_of_le ha (Nat.pow_le_pow_right (by decide) (by omega)))
      simp [hi, this]
  have e2 : bits .xor .i64 (a : Int) 65535 = ((a ^^^ 65535 : Nat) : Int) := by
    have c : (65535 : Int) = ((65535 : Nat) : Int) := rfl
    rw [c]
    simp only [bits, BitVec.ofInt_natCast, BitVec.toNat_xor, BitVec.toNat_ofNat]
    have q1 : a % 2 ^ IntKind.bits .i64 = a := Nat.mod_eq_of_lt (Nat.lt_of_lt_of_le ha (by decide))
    have q2 : 65535 % 2 ^ IntKind.bits .i64 = 65535 := by decide
    rw [q1, q2]
    exact wraps_i64 _ (by omega) (by rw [e]; omega)
  rw [e2, e]; omega

/-- a number in k bytes, the highest first -/
def be : Nat → Int → List UInt8
  | 0, _ => []
  | k + 1, n => be k (n / 256) ++ [UInt8.ofNat (n % 256).toNat]
theorem be_length (k : Nat) : ∀ n, (be k n).length = k := by
  induction k with
  | zero => intro n; rfl
  | succ k ih => intro n; simp [be, ih]
theorem pow_256 (m : Nat) : (2 : Int) ^ (8 * m) = 256 ^ m := by rw [Int.pow_mul]; rfl
theorem div_pow_256 (n : Int) (m : Nat) : n / 256 ^ (m + 1) = n / 256 ^ m / 256 := by
  rw [Int.pow_succ, Int.ediv_ediv_of_nonneg (Int.le_of_lt (Int.pow_pos (by decide)))]
theorem be_step (n : Int) (K j : Nat) (h : j < K) : be j (n / 256 ^ (K - j)) ++ [UInt8.ofNat (n / 2 ^ (8 * (K - j - 1)) % 256).toNat] = be (j + 1) (n / 256 ^ (K - (j + 1))) := by
  rw [pow_256, be, show K - (j + 1) = K - j - 1 by omega, ← div_pow_256, show K - j - 1 + 1 = K - j by omega]
theorem be_cons (j : Nat) : ∀ n : Int, be (j + 1) n = UInt8.ofNat (n / 256 ^ j % 256).toNat :: be j n := by
  induction j with
  | zero => intro n; simp [be]
  | succ j ih =>
    intro n
    rw [be, ih (n / 256), be]
    rw [Int.ediv_ediv_of_nonneg (by decide), Int.pow_succ, Int.mul_comm]; rfl
/-- bytes as a number -/
def num : List UInt8 → Int := fun l => l.foldl (fun n c => n * 256 + (c.toNat : Int)) 0
theorem num_snoc (l : List UInt8) (c : UInt8) : num (l ++ [c]) = num l * 256 + (c.toNat : Int) := by simp [num]
theorem num_be (k : Nat) : ∀ n : Int, 0 ≤ n → n < 256 ^ k → num (be k n) = n := by
  induction k with
  | zero => intro n h0 h1; simp at h1; simp [be, num]; omega
  | succ k ih =>
    intro n h0 h1
    rw [be, num_snoc, ih (n / 256) (by omega) (by rw [Int.pow_succ] at h1; omega)]
    have : (UInt8.ofNat (n % 256).toNat).toNat = (n % 256).toNat := by
      simp [UInt8.toNat_ofNat']; omega
    rw [this]; omega
theorem num_from (l : List UInt8) : ∀ (n : Int) (m : Nat), 0 ≤ n → n < 256 ^ m →
    0 ≤ l.foldl (fun n c => n * 256 + (c.toNat : Int)) n ∧ l.foldl (fun n c => n * 256 + (c.toNat : Int)) n < 256 ^ (m + l.length) := by
  induction l with
  | nil => intro n m h0 h1; exact ⟨h0, h1⟩
  | cons c l ih =>
    intro n m h0 h1
    have hc := c.toNat_lt
    have := ih (n * 256 + (c.toNat : Int)) (m + 1) (by omega) (by rw [Int.pow_succ]; omega)
    rw [List.length_cons, show m + (l.length + 1) = m + 1 + l.length from by omega]
    exact this
theorem num_bounds (l : List UInt8) : 0 ≤ num l ∧ num l < 256 ^ l.length := by
  have := num_from l 0 0 (by omega) (by decide)
  simpa [num] using this

/-- a sum folded to 16 bits: 0 of 0, else 1 .. 65535 -/
def fold16 (n : Int) : Int := if n = 0 then 0 else (n - 1) % 65535 + 1
theorem fold16_bd (n : Int) : 0 ≤ fold16 n ∧ fold16 n ≤ 65535 := by unfold fold16; split <;> omega
theorem fold16_small {n : Int} (h : 0 ≤ n) (h1 : n ≤ 65535) : fold16 n = n := by unfold fold16; split <;> omega
theorem fold16_step {n : Int} (h : 65535 < n) : fold16 (n / 65536 + n % 65536) = fold16 n := by unfold fold16; split <;> split <;> omega
theorem fold16_add {a b : Int} (ha : 0 ≤ a) (hb : 0 ≤ b) : fold16 (fold16 a + b) = fold16 (a + b) := by
  unfold fold16; split <;> split <;> split <;> omega
theorem fold16_zero {x : Int} (h : 0 ≤ x) : fold16 (x + (65535 - fold16 x)) = 65535 := by
  unfold fold16; split <;> split <;> omega
theorem fold16_fix {x o c : Int} (ho : 0 ≤ o) (ho1 : o ≤ 65535) (hc : 0 ≤ c) (hc1 : c ≤ 65535) (hp : 0 < x - o + c) :
    fold16 (fold16 x + (65535 - o) + c) = fold16 (x - o + c) := by
  unfold fold16; split <;> split <;> split <;> omega
theorem fold16_fix0 {x o c : Int} (ho : 0 ≤ o) (ho1 : o ≤ 65535) (hxo : o ≤ x) (hc : 0 ≤ c) (hp : x - o + c = 0) :
    fold16 (fold16 x + (65535 - o) + c) = 65535 := by
  unfold fold16; split <;> split <;> omega

/-- bytes added by two, the higher first -/
def psum : List UInt8 → Int
  | [] => 0
  | [a] => (a.toNat : Int) * 256
  | a :: b :: l => (a.toNat : Int) * 256 + (b.toNat : Int) + psum l
theorem psum_append : ∀ (l m : List UInt8), l.length % 2 = 0 → psum (l ++ m) = psum l + psum m
  | [], m, _ => by simp [psum]
  | [a], m, h => by simp at h
  | a :: b :: l, m, h => by
    have := psum_append l m (by simp at h; omega)
    simp only [List.cons_append, psum, this]; omega
theorem psum_nonneg : ∀ l : List UInt8, 0 ≤ psum l
  | [] => by simp [psum]
  | [a] => by simp only [psum]; omega
  | a :: b :: l => by have := psum_nonneg l; simp only [psum]; omega
theorem psum_le : ∀ l : List UInt8, psum l ≤ 65535 * l.length
  | [] => by simp [psum]
  | [a] => by have := a.toNat_lt; simp only [psum, List.length_cons, List.length_nil]; omega
  | a :: b :: l => by
    have := psum_le l; have := a.toNat_lt; have := b.toNat_lt
    simp only [psum, List.length_cons]; omega
theorem psum_snoc : ∀ (l : List UInt8) (c : UInt8), psum (l ++ [c]) = psum l + if l.length % 2 = 0 then (c.toNat : Int) * 256 else (c.toNat : Int)
  | [], c => by simp [psum]
  | [a], c => by simp [psum]
  | a :: b :: l, c => by
    have := psum_snoc l c
    have e : (a :: b :: l).length % 2 = l.length % 2 := by simp; omega
    rw [e]; simp only [List.cons_append, psum, this]; omega
theorem psum_zero : ∀ l : List UInt8, psum l = 0 → ∀ c ∈ l, c = 0
  | [], _ => by simp
  | [a], h => by
    simp only [psum] at h
    intro c hc; simp at hc; subst hc
    exact UInt8.toNat.inj (by simpa using (show c.toNat = 0 by omega))
  | a :: b :: l, h => by
    have hn := psum_nonneg l
    simp only [psum] at h
    intro c hc
    simp only [List.mem_cons] at hc
    rcases hc with rfl | rfl | hc
    · exact UInt8.toNat.inj (by simpa using (show c.toNat = 0 by omega))
    · exact UInt8.toNat.inj (by simpa using (show c.toNat = 0 by omega))
    · exact psum_zero l (by omega) c hc
theorem psum_be2 {n : Int} (h : 0 ≤ n) (h1 : n ≤ 65535) : psum (be 2 n) = n := by
  simp only [be, List.nil_append, List.cons_append, psum]
  have e1 : (UInt8.ofNat (n / 256 % 256).toNat).toNat = (n / 256 % 256).toNat := by simp [UInt8.toNat_ofNat']; omega
  have e2 : (UInt8.ofNat (n % 256).toNat).toNat = (n % 256).toNat := by simp [UInt8.toNat_ofNat']; omega
  rw [e1, e2]; omega
/-- the internet's sum of bytes -/
def sumOf (l : List UInt8) : Int := 65535 - fold16 (psum l)
theorem sumOf_bd (l : List UInt8) : 0 ≤ sumOf l ∧ sumOf l ≤ 65535 := by have := fold16_bd (psum l); unfold sumOf; omega
theorem sum_zero (l : List UInt8) (h : l.length % 2 = 0) : sumOf (l ++ be 2 (sumOf l)) = 0 := by
  have hb := sumOf_bd l
  have e : sumOf (l ++ be 2 (sumOf l)) = 65535 - fold16 (psum l + sumOf l) := by
    show 65535 - fold16 (psum (l ++ be 2 (sumOf l))) = _
    rw [psum_append _ _ h, psum_be2 hb.1 hb.2]
  rw [e]
  have := fold16_zero (psum_nonneg l)
  unfold sumOf; omega
theorem sum_order (a b : List UInt8) (ha : a.length % 2 = 0) (hb : b.length % 2 = 0) : sumOf (b ++ a) = sumOf (a ++ b) := by
  unfold sumOf; rw [psum_append _ _ ha, psum_append _ _ hb, Int.add_comm]
theorem sum_nought (l : List UInt8) (h : l.length % 2 = 1) : sumOf (l ++ [0]) = sumOf l := by
  unfold sumOf; rw [psum_snoc]; simp [h]
theorem sum_parts (a b : List UInt8) (ha : a.length % 2 = 0) : sumOf (be 2 (65535 - sumOf a) ++ b) = sumOf (a ++ b) := by
  have hb := sumOf_bd a
  unfold sumOf
  rw [psum_append _ _ ha, psum_append _ _ (by simp [be_length]), psum_be2 (by have := fold16_bd (psum a); omega) (by have := fold16_bd (psum a); omega)]
  have e : 65535 - (65535 - fold16 (psum a)) = fold16 (psum a) := by omega
  rw [e, fold16_add (psum_nonneg a) (psum_nonneg b)]
/-- a digit of sixteen -/
def hexd (n : Nat) : UInt8 := if n < 10 then UInt8.ofNat (48 + n) else UInt8.ofNat (87 + n)
/-- what a digit is, 0 if it is none -/
def unhexd (c : UInt8) : Nat := if 48 ≤ c.toNat ∧ c.toNat ≤ 57 then c.toNat - 48 else if 97 ≤ c.toNat ∧ c.toNat ≤ 102 then c.toNat - 87 else 0
def isHexd (c : UInt8) : Prop := 48 ≤ c.toNat ∧ c.toNat ≤ 57 ∨ 97 ≤ c.toNat ∧ c.toNat ≤ 102
def hexOf : List UInt8 → List UInt8
  | [] => []
  | c :: l => hexd (c.toNat / 16) :: hexd (c.toNat % 16) :: hexOf l
def unhex : List UInt8 → List UInt8
  | a :: b :: l => UInt8.ofNat (16 * unhexd a + unhexd b) :: unhex l
  | _ => []
theorem hexOf_length : ∀ l, (hexOf l).length = 2 * l.length
  | [] => rfl
  | c :: l => by simp only [hexOf, List.length_cons, hexOf_length l]; omega
theorem hexOf_append : ∀ l m, hexOf (l ++ m) = hexOf l ++ hexOf m
  | [], m => rfl
  | c :: l, m => by simp only [List.cons_append, hexOf, hexOf_append l m]
theorem unhex_append : ∀ l m, l.length % 2 = 0 → unhex (l ++ m) = unhex l ++ unhex m
  | [], m, _ => rfl
  | [a], m, h => by simp at h
  | a :: b :: l, m, h => by simp only [List.cons_append, unhex, unhex_append l m (by simp at h; omega)]
theorem unhex_length : ∀ l, (unhex l).length = l.length / 2
  | [] => rfl
  | [a] => by simp [unhex]
  | a :: b :: l => by simp only [unhex, List.length_cons, unhex_length l]; omega
theorem hexd_toNat {n : Nat} (h : n < 16) : (hexd n).toNat = if n < 10 then 48 + n else 87 + n := by
  unfold hexd; split <;> simp [UInt8.toNat_ofNat'] <;> omega
theorem hexd_is {n : Nat} (h : n < 16) : isHexd (hexd n) := by
  unfold isHexd; rw [hexd_toNat h]; split <;> omega
theorem unhexd_hexd {n : Nat} (h : n < 16) : unhexd (hexd n) = n := by
  unfold unhexd; rw [hexd_toNat h]; split <;> (repeat' split) <;> omega
theorem hexd_unhexd {c : UInt8} (h : isHexd c) : unhexd c < 16 ∧ hexd (unhexd c) = c := by
  have e : unhexd c < 16 := by unfold unhexd; have := c.toNat_lt; (repeat' split) <;> omega
  refine ⟨e, ?_⟩
  apply UInt8.toNat.inj
  rw [hexd_toNat e]
  unfold unhexd isHexd at *
  (repeat' split) <;> omega
theorem hexOf_is : ∀ l, ∀ c ∈ hexOf l, isHexd c
  | [] => by simp [hexOf]
  | c :: l => by
    have := c.toNat_lt
    intro d hd
    simp only [hexOf, List.mem_cons] at hd
    rcases hd with rfl | rfl | hd
    · exact hexd_is (by omega)
    · exact hexd_is (by omega)
    · exact hexOf_is l d hd
theorem unhex_hexOf : ∀ l, unhex (hexOf l) = l
  | [] => rfl
  | c :: l => by
    have := c.toNat_lt
    simp only [hexOf, unhex, unhex_hexOf l]
    rw [unhexd_hexd (by omega), unhexd_hexd (by omega)]
    congr 1
    apply UInt8.toNat.inj
    rw [show 16 * (c.toNat / 16) + c.toNat % 16 = c.toNat by omega]
    simp
theorem hexOf_unhex : ∀ l : List UInt8, l.length % 2 = 0 → (∀ c ∈ l, isHexd c) → hexOf (unhex l) = l
  | [], _, _ => rfl
  | [a], h, _ => by simp at h
  | a :: b :: l, h, hd => by
    have ha := hexd_unhexd (hd a (by simp))
    have hb := hexd_unhexd (hd b (by simp))
    have e : (UInt8.ofNat (16 * unhexd a + unhexd b)).toNat = 16 * unhexd a + unhexd b := by simp [UInt8.toNat_ofNat']; omega
    simp only [unhex, hexOf, e, hexOf_unhex l (by simp at h; omega) (fun c hc => hd c (by simp [hc]))]
    rw [show (16 * unhexd a + unhexd b) / 16 = unhexd a by omega, show (16 * unhexd a + unhexd b) % 16 = unhexd b by omega, ha.2, hb.2]

theorem be_num_of (m : Nat) : ∀ l : List UInt8, l.length = m → be m (num l) = l := by
  induction m with
  | zero => intro l hl; simp [be, List.eq_nil_of_length_eq_zero hl]
  | succ m ih =>
    intro l hl
    rcases List.eq_nil_or_concat l with rfl | ⟨L, c, rfl⟩
    · simp at hl
    · have hc := c.toNat_lt
      simp only [List.concat_eq_append] at hl ⊢
      have hL : L.length = m := by simp at hl; omega
      have e1 : (num L * 256 + (c.toNat : Int)) / 256 = num L := by omega
      have e2 : (num L * 256 + (c.toNat : Int)) % 256 = (c.toNat : Int) := by omega
      rw [num_snoc, be, e1, e2, ih L hL]
      simp
theorem be_num (l : List UInt8) : be l.length (num l) = l := be_num_of _ l rfl
end Go.Proofs.YteflhnmoceppgaaDoor
