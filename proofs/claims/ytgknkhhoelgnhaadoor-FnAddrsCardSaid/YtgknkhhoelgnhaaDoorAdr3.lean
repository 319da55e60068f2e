/-
  Addresses read from texts, by plain mathematics.
-/
import Derived.Test.YtgknkhhoelgnhaaDoorAdr2
import Derived.Lib.ParseIntBTie
import Derived.Lib.Split
import Derived.Lib.IndexBytes
import Derived.Lib.IndexLaws
namespace Go.Proofs.YtgknkhhoelgnhaaDoor
open Go.RowKit Go.PlainAid
/-- a number in decimal, as the program reads it -/
def rdD (p : List UInt8) : Option Int :=
  match Lib.parseIntB 64 p with
  | .ok v => if (Lib.trimPrefix p [45]).length ≤ 16 ∧ Lib.itoa v = p then some v else none
  | _ => none
theorem rdD_some {p : List UInt8} {v : Int} (h : rdD p = some v) : Lib.itoa v = p := by
  unfold rdD at h
  split at h
  · split at h
    · rename_i hc
      cases h; exact hc.2
    · cases h
  · cases h
theorem rdD_byte : ∀ r : Fin 256, rdD (Lib.decDigits r.val) = some (r.val : Int) := by decide +kernel
theorem dec_byte : ∀ r : Fin 256, (Lib.decDigits r.val).all (fun c => decide (48 ≤ c.toNat ∧ c.toNat ≤ 57)) = true ∧ (Lib.decDigits r.val).length ≤ 3 ∧ 1 ≤ (Lib.decDigits r.val).length := by decide +kernel
theorem dec_nodot {m : Nat} (h : m < 256) : ∀ c ∈ Lib.decDigits m, c ≠ 46 := by
  intro c hc e
  have := List.all_eq_true.1 (dec_byte ⟨m, h⟩).1 c hc
  subst e
  simp at this
/-- parts of an address -/
def rdPs (acc : Int) : List (List UInt8) → Option Int
  | [] => some acc
  | p :: r => match rdD p with
    | some v => if 0 ≤ v ∧ v ≤ 255 then rdPs (acc * 256 + v) r else none
    | none => none
def splitD (l : List UInt8) : List (List UInt8) := Lib.splitK [46] 0 (min 5 (l.length + 1) - 1) l
/-- an address, as the program reads it -/
def adRd (l : List UInt8) : Option Int := if (splitD l).length = 4 then rdPs 0 (splitD l) else none
theorem index_app (A R : List UInt8) (h : ∀ c ∈ A, c ≠ 46) : Lib.indexByte (A ++ 46 :: R) 46 = (A.length : Int) := by
  induction A with
  | nil => simp [Lib.indexByte]
  | cons a A ih =>
    have ha : a ≠ 46 := h a (by simp)
    have := ih (fun c hc => h c (by simp [hc]))
    simp only [List.cons_append, Lib.indexByte]
    rw [this]
    have e1 : (a == 46) = false := by simpa using ha
    rw [e1]
    have e2 : ((A.length : Int) == -1) = false := by first | (simp; done) | (simp; omega)
    rw [e2]
    simp
theorem index_non (A : List UInt8) (h : ∀ c ∈ A, c ≠ 46) : Lib.indexByte A 46 = -1 := by
  induction A with
  | nil => rfl
  | cons a A ih =>
    have ha : a ≠ 46 := h a (by simp)
    have := ih (fun c hc => h c (by simp [hc]))
    simp only [Lib.indexByte]
    rw [this]
    have e1 : (a == 46) = false := by simpa using ha
    rw [e1]; rfl
theorem splitK_hit (A R : List UInt8) (k : Nat) (h : ∀ c ∈ A, c ≠ 46) : Lib.splitK [46] 0 (k + 1) (A ++ 46 :: R) = A :: Lib.splitK [46] 0 k R := by
  have e := index_app A R h
  have e2 : Lib.index (A ++ 46 :: R) [46] = (A.length : Int) := by rw [Lib.index_one, e]
  have e3 : ((A.length : Int) == -1) = false := by first | (simp; done) | (simp; omega)
  rw [Lib.splitK, e2, e3]
  simp
theorem splitK_non (A : List UInt8) (k : Nat) (h : ∀ c ∈ A, c ≠ 46) : Lib.splitK [46] 0 k A = [A] := by
  cases k with
  | zero => rfl
  | succ k => rw [Lib.splitK, Lib.index_one, index_non A h]; rfl
def joinD : List (List UInt8) → List UInt8
  | [] => []
  | [a] => a
  | a :: b :: r => a ++ 46 :: joinD (b :: r)
theorem splitK_some (k : Nat) (l : List UInt8) : ∃ a r, Lib.splitK [46] 0 k l = a :: r := by
  cases k with
  | zero => exact ⟨l, [], rfl⟩
  | succ k => rw [Lib.splitK]; split <;> exact ⟨_, _, rfl⟩
theorem joinD_split (k : Nat) : ∀ l : List UInt8, joinD (Lib.splitK [46] 0 k l) = l := by
  induction k with
  | zero => intro l; rfl
  | succ k ih =>
    intro l
    rw [Lib.splitK]
    split
    · rfl
    · rename_i hn
      have hne : Lib.indexByte l 46 ≠ -1 := by rw [Lib.index_one] at hn; simpa using hn
      have hge := Lib.indexByte_ge l 46
      obtain ⟨i, hi⟩ := Int.eq_ofNat_of_zero_le (show 0 ≤ Lib.indexByte l 46 by omega)
      obtain ⟨hc, _⟩ := Lib.indexByte_some hi
      obtain ⟨hlt, he⟩ := List.getElem?_eq_some_iff.1 hc
      rw [Lib.index_one, hi]
      have h0 := ih (l.drop (((i : Int)).toNat + ([46] : List UInt8).length))
      obtain ⟨a, r, har⟩ := splitK_some k (l.drop (((i : Int)).toNat + ([46] : List UInt8).length))
      rw [har] at h0 ⊢
      show l.take (((i : Int)).toNat + 0) ++ 46 :: joinD (a :: r) = l
      rw [h0]
      simp only [Int.toNat_natCast, Nat.add_zero, List.length_singleton]
      have := List.take_append_drop i l
      rw [List.drop_eq_getElem_cons hlt, he] at this
      exact this
theorem ad_num {a b c d : Nat} (_ha : a < 256) (hb : b < 256) (hc : c < 256) (hd : d < 256) :
    adT (((a * 256 + b) * 256 + c) * 256 + d) = Lib.decDigits a ++ 46 :: (Lib.decDigits b ++ 46 :: (Lib.decDigits c ++ 46 :: Lib.decDigits d)) := by
  unfold adT
  rw [show (((a * 256 + b) * 256 + c) * 256 + d) / 16777216 = a by omega, show (((a * 256 + b) * 256 + c) * 256 + d) / 65536 % 256 = b by omega, show (((a * 256 + b) * 256 + c) * 256 + d) / 256 % 256 = c by omega, show (((a * 256 + b) * 256 + c) * 256 + d) % 256 = d by omega]
  simp
theorem rdPs_step {acc N : Int} {p : List UInt8} {r : List (List UInt8)} (h : rdPs acc (p :: r) = some N) : ∃ v : Nat, v < 256 ∧ p = Lib.decDigits v ∧ rdPs (acc * 256 + v) r = some N := by
  unfold rdPs at h
  split at h
  · rename_i v hv
    split at h
    · rename_i hb
      have := rdD_some hv
      obtain ⟨u, rfl⟩ := Int.eq_ofNat_of_zero_le hb.1
      rw [Lib.itoa_nonneg] at this
      exact ⟨u, by omega, this.symm, h⟩
    · cases h
  · cases h
/-- what is read is an address's text -/
theorem adRd_some {l : List UInt8} {N : Int} (h : adRd l = some N) : ∃ n : Nat, N = (n : Int) ∧ n < 4294967296 ∧ l = adT n := by
  unfold adRd at h
  split at h
  · rename_i hl
    have hj := joinD_split (min 5 (l.length + 1) - 1) l
    unfold splitD at h hl
    generalize Lib.splitK [46] 0 (min 5 (l.length + 1) - 1) l = ps at *
    match ps, hl with
    | [p0, p1, p2, p3], _ =>
      obtain ⟨a, ha, e0, h1⟩ := rdPs_step h
      obtain ⟨b, hb, e1, h2⟩ := rdPs_step h1
      obtain ⟨c, hc, e2, h3⟩ := rdPs_step h2
      obtain ⟨d, hd, e3, h4⟩ := rdPs_step h3
      subst e0; subst e1; subst e2; subst e3
      refine ⟨((a * 256 + b) * 256 + c) * 256 + d, ?_, by omega, ?_⟩
      · have : some ((((0 * 256 + (a : Int)) * 256 + b) * 256 + c) * 256 + d) = some N := h4
        cases this; omega
      · rw [ad_num ha hb hc hd, ← hj]; rfl
  · cases h
theorem ad_len {n : Nat} (h : n < 4294967296) : 7 ≤ (adT n).length ∧ (adT n).length ≤ 15 := by
  have l0 := (dec_byte ⟨n / 16777216, by omega⟩).2
  have l1 := (dec_byte ⟨n / 65536 % 256, Nat.mod_lt _ (by decide)⟩).2
  have l2 := (dec_byte ⟨n / 256 % 256, Nat.mod_lt _ (by decide)⟩).2
  have l3 := (dec_byte ⟨n % 256, Nat.mod_lt _ (by decide)⟩).2
  unfold adT
  simp only [List.length_append, List.length_singleton]
  simp only at l0 l1 l2 l3
  omega
theorem rdPs_ok {acc : Int} {v : Nat} {r : List (List UInt8)} (h : v < 256) : rdPs acc (Lib.decDigits v :: r) = rdPs (acc * 256 + v) r := by
  have e : rdD (Lib.decDigits v) = some (v : Int) := rdD_byte ⟨v, h⟩
  rw [rdPs, e]
  simp only
  rw [if_pos (by omega)]
theorem ad_parts {n : Nat} (h : n < 4294967296) : ∃ a b c d : Nat, a < 256 ∧ b < 256 ∧ c < 256 ∧ d < 256 ∧ n = ((a * 256 + b) * 256 + c) * 256 + d ∧ adT n = Lib.decDigits a ++ 46 :: (Lib.decDigits b ++ 46 :: (Lib.decDigits c ++ 46 :: Lib.decDigits d)) := by
  refine ⟨n / 16777216, n / 65536 % 256, n / 256 % 256, n % 256, by omega, Nat.mod_lt _ (by decide), Nat.mod_lt _ (by decide), Nat.mod_lt _ (by decide), by omega, ?_⟩
  unfold adT; simp
/-- an address's text is read so -/
theorem adRd_adT {n : Nat} (h : n < 4294967296) : adRd (adT n) = some (n : Int) := by
  obtain ⟨a, b, c, d, ha, hb, hc, hd, hn, he⟩ := ad_parts h
  have hl := ad_len h
  have hs : splitD (adT n) = [Lib.decDigits a, Lib.decDigits b, Lib.decDigits c, Lib.decDigits d] := by
    unfold splitD
    rw [show min 5 ((adT n).length + 1) - 1 = 3 + 1 by omega, he, splitK_hit _ _ _ (dec_nodot ha), splitK_hit _ _ _ (dec_nodot hb), splitK_hit _ _ _ (dec_nodot hc), splitK_non _ _ (dec_nodot hd)]
  unfold adRd
  rw [hs, if_pos (show ([Lib.decDigits a, Lib.decDigits b, Lib.decDigits c, Lib.decDigits d] : List (List UInt8)).length = 4 from rfl), rdPs_ok ha, rdPs_ok hb, rdPs_ok hc, rdPs_ok hd, hn, rdPs]
  exact congrArg some (by omega)
/-- what is told of an address's text -/
def adR (l : List UInt8) : Int := (adRd l).getD 0
def adB (l : List UInt8) : Bool := (adRd l).isSome
theorem ad_yes {l : List UInt8} {n : Nat} (h : n < 4294967296) (he : adT n = l) : adR l = (n : Int) ∧ adB l = true := by
  subst he
  unfold adR adB; rw [adRd_adT h]; exact ⟨rfl, rfl⟩
theorem ad_no {l : List UInt8} (h : ∀ n : Nat, n < 4294967296 → adT n ≠ l) : adR l = 0 ∧ adB l = false := by
  unfold adR adB
  cases e : adRd l with
  | none => exact ⟨rfl, rfl⟩
  | some N =>
    obtain ⟨n, _, h1, h2⟩ := adRd_some e
    exact absurd h2.symm (h n h1)
end Go.Proofs.YtgknkhhoelgnhaaDoor
