/-
  A Geneve comes back from its bytes; what is read, written again, is the same: plain facts.
-/
import Derived.Test.YtnheppkjeoiipaaGnv7
namespace Go.Proofs.Ytnheppkjeoiipaa
open Go.RowKit Go.PlainAid
theorem numG_mid {A R : List UInt8} {n : Int} {k : Nat} (p : Int) (hp : p = (A.length : Int)) (hk : 1 ≤ k) (hk2 : k ≤ 7) (h0 : 0 ≤ n) (h1 : n < 256 ^ k) (L : List UInt8) (hL : L = A ++ (be k n ++ R)) : numAt (str L) p (k : Int) = n := by
  subst hL hp
  rw [(okN_true (s := str (A ++ (be k n ++ R))) (at_ := A.length) (k := (k : Int)) ⟨by omega, by omega, by omega, by rw [str_size]; simp only [List.length_append, be_length]; omega⟩).2, bl_str]
  simp only [Int.toNat_natCast]
  rw [List.drop_append_of_le_length (Nat.le_refl _), List.drop_length, List.nil_append, List.take_append_of_le_length (by rw [be_length]; exact Nat.le_refl _), List.take_of_length_le (by rw [be_length]; exact Nat.le_refl _)]
  exact num_be k n h0 h1
theorem numG1 (A R : List UInt8) {n : Int} (p : Int) (hp : p = (A.length : Int)) (h0 : 0 ≤ n) (h1 : n ≤ 255) (L : List UInt8) (hL : L = A ++ (be 1 n ++ R)) : numAt (str L) p 1 = n := numG_mid (k := 1) p hp (by decide) (by decide) h0 (by simp only [Int.reducePow]; omega) L hL
theorem numG2 (A R : List UInt8) {n : Int} (p : Int) (hp : p = (A.length : Int)) (h0 : 0 ≤ n) (h1 : n ≤ 65535) (L : List UInt8) (hL : L = A ++ (be 2 n ++ R)) : numAt (str L) p 2 = n := numG_mid (k := 2) p hp (by decide) (by decide) h0 (by simp only [Int.reducePow]; omega) L hL
theorem numG3 (A R : List UInt8) {n : Int} (p : Int) (hp : p = (A.length : Int)) (h0 : 0 ≤ n) (h1 : n ≤ 16777215) (L : List UInt8) (hL : L = A ++ (be 3 n ++ R)) : numAt (str L) p 3 = n := numG_mid (k := 3) p hp (by decide) (by decide) h0 (by simp only [Int.reducePow]; omega) L hL
theorem extG (A B R : List UInt8) (x y : Nat) (hx : x = A.length) (hy : y = x + B.length) (L : List UInt8) (hL : L = A ++ (B ++ R)) : (str L).extract x y = str B := by
  subst hL hy hx
  rw [str_extract, List.drop_append_of_le_length (Nat.le_refl _), List.drop_length, List.nil_append, Nat.add_sub_cancel_left, List.take_append_of_le_length (Nat.le_refl _), List.take_of_length_le (Nat.le_refl _)]
theorem opSum_mod : ∀ l : List OpV, opsOk l = true → opSum l % 4 = 0 := by
  intro l
  induction l with
  | nil => intro _; rfl
  | cons a l ih =>
    intro h
    unfold opsOk at h
    rw [List.all_cons, Bool.and_eq_true] at h
    have h1 := ih h.2
    have h2 := (opOk_facts h.1).d4
    have eS : opSum (a :: l) = (4 + a.data.size) + opSum l := rfl
    rw [eS]; omega
/-- an option at its place -/
theorem opG_at {a : OpV} (h : opOk a = true) (A R : List UInt8) (L : List UInt8) (hL : L = A ++ (opText a ++ R)) : opN (str L) A.length = a.data.size ∧ opGet (str L) A.length = a := by
  have hb := opOk_facts h
  have hn : opN (str L) A.length = a.data.size := by
    unfold opN
    rw [numG1 (A ++ be 2 a.cls ++ be 1 a.typ) (bl a.data ++ R) ((A.length : Int) + 3) (by simp [be_length] <;> omega) (n := (a.data.size : Int) / 4) (by omega) (by have := hb.d1; omega) L (by rw [hL]; unfold opText; simp only [List.append_assoc])]
    have := hb.d4
    omega
  refine ⟨hn, ?_⟩
  unfold opGet
  rw [hn, numG2 A (be 1 a.typ ++ be 1 ((a.data.size : Int) / 4) ++ bl a.data ++ R) (A.length : Int) rfl hb.c0 hb.c1 L (by rw [hL]; unfold opText; simp only [List.append_assoc]),
    numG1 (A ++ be 2 a.cls) (be 1 ((a.data.size : Int) / 4) ++ bl a.data ++ R) ((A.length : Int) + 2) (by simp [be_length]) hb.t0 hb.t1 L (by rw [hL]; unfold opText; simp only [List.append_assoc]),
    extG (A ++ be 2 a.cls ++ be 1 a.typ ++ be 1 ((a.data.size : Int) / 4)) (bl a.data) R (A.length + 4) (A.length + 4 + a.data.size) (by simp [be_length]) (by rw [bl_length]) L (by rw [hL]; unfold opText; simp only [List.append_assoc]), str_bl]
theorem gL_text : ∀ (l : List OpV) (A R : List UInt8) (E : Nat) (L : List UInt8), opsOk l = true → L = A ++ (opsText l ++ R) → E = A.length + opSum l → gL (str L) E A.length = (l, true) := by
  intro l
  induction l with
  | nil =>
    intro A R E L _ _ hE
    have e : E = A.length := hE
    subst e
    exact gL_done _ _
  | cons a l ih =>
    intro A R E L hok hL hE
    unfold opsOk at hok
    rw [List.all_cons, Bool.and_eq_true] at hok
    have eT : opsText (a :: l) = opText a ++ opsText l := rfl
    have eS : opSum (a :: l) = (4 + a.data.size) + opSum l := rfl
    rw [eT, List.append_assoc] at hL
    rw [eS] at hE
    obtain ⟨hn, hg⟩ := opG_at hok.1 A (opsText l ++ R) L hL
    have hs : stepOk (str L) E A.length = true := by
      unfold stepOk; rw [hn]; exact decide_eq_true (by omega)
    have hx : A.length + 4 + a.data.size = (A ++ opText a).length := by rw [List.length_append, opText_len]; omega
    rw [gL_step hs, hn, hg, hx, ih (A ++ opText a) R E L hok.2 (by rw [hL, List.append_assoc]) (by rw [← hx]; omega)]
/-- what is written reads back -/
theorem gv_back {net : Int} {l : List OpV} {data : ByteArray} (h : (netB net && opsB l && carB data) = true) :
    rgC (str (gvText net l data)) = (if opsUn l then 3 else 0) ∧ rgN (str (gvText net l data)) = net ∧ rgR (str (gvText net l data)) = l ∧ rgT (str (gvText net l data)) = data ∧ ¬ str (gvText net l data) = ⟨#[]⟩ := by
  have eT : gvText net l data = gvH net l ++ opsText l ++ bl data := by unfold gvText; rw [h]; rfl
  rw [Bool.and_eq_true, Bool.and_eq_true] at h
  obtain ⟨⟨hn, hl⟩, hc⟩ := h
  unfold opsB at hl
  rw [Bool.and_eq_true, decide_eq_true_eq] at hl
  unfold netB inB at hn
  simp at hn
  have h4 : opSum l % 4 = 0 := opSum_mod l hl.1
  have hgl := gvH_len net l
  have q0 : numAt (str (gvText net l data)) 0 1 = (opSum l : Int) / 4 := numG1 [] (be 1 (gvFl l) ++ be 2 25944 ++ be 3 net ++ be 1 0 ++ opsText l ++ bl data) 0 rfl (by omega) (by omega) _ (by rw [eT]; unfold gvH; simp only [List.append_assoc, List.nil_append])
  have q4 : numAt (str (gvText net l data)) 4 3 = net := numG3 (be 1 ((opSum l : Int) / 4) ++ be 1 (gvFl l) ++ be 2 25944) (be 1 0 ++ opsText l ++ bl data) 4 (by simp [be_length]) (by omega) (by omega) _ (by rw [eT]; unfold gvH; simp only [List.append_assoc])
  have hE : rgE (str (gvText net l data)) = 8 + opSum l := by unfold rgE; rw [q0]; omega
  have hO : rgO (str (gvText net l data)) = l := by
    unfold rgO
    rw [hE, ← hgl, gL_text l (gvH net l) (bl data) _ _ hl.1 (by rw [eT, List.append_assoc]) (by rw [hgl])]
  have hD : rgD (str (gvText net l data)) = data := by
    unfold rgD
    rw [hE, extG (gvH net l ++ opsText l) (bl data) [] _ _ (by rw [List.length_append, hgl, opsText_len]) (by rw [str_size, eT, List.length_append, List.length_append, hgl, opsText_len]) _ (by rw [eT, List.append_nil]), str_bl]
  have hsz : (str (gvText net l data)).size = 8 + opSum l + data.size := by rw [str_size, eT, List.length_append, List.length_append, hgl, opsText_len, bl_length]
  have hC : rgC (str (gvText net l data)) = (if opsUn l then 3 else 0) := by
    unfold rgC
    rw [if_pos (by rw [hE, hsz]; omega)]
    unfold rgF
    rw [q4, hO, hD, if_pos rfl]
  have hk : (if opsUn l then (3 : Int) else 0) = 0 ∨ (if opsUn l then (3 : Int) else 0) = 3 := by cases opsUn l <;> simp
  obtain ⟨r1, r2, r3, r4⟩ := rg_yes hC hk
  refine ⟨hC, by rw [r1, q4], by rw [r2, hO], by rw [r3, hD], fun hh => ?_⟩
  have := congrArg ByteArray.size hh
  rw [hsz] at this
  have e0 : ByteArray.size ⟨#[]⟩ = 0 := rfl
  rw [e0] at this
  omega
/-- what is read as right, written again, is the same -/
theorem gv_again {s : ByteArray} (h : rgC s = 0 ∨ rgC s = 3) : str (gvText (rgN s) (rgR s) (rgT s)) = s := by
  obtain ⟨k, hk, hk2⟩ : ∃ k, rgC s = k ∧ (k = 0 ∨ k = 3) := ⟨_, rfl, h⟩
  obtain ⟨r1, r2, r3, r4⟩ := rg_yes hk hk2
  rw [r1, r2, r3]
  unfold rgC at hk
  split at hk
  · unfold rgF at hk
    split at hk
    · assumption
    · omega
  · omega
end Go.Proofs.Ytnheppkjeoiipaa
