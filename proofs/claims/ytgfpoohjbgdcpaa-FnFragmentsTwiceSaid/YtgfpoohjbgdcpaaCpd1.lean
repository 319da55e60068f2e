/-
  What is copied of options, copied again, is the same: plainly.
-/
import Derived.Test.YtgfpoohjbgdcpaaCop3
namespace Go.Proofs.Ytgfpoohjbgdcpaa
open Go.RowKit Go.PlainAid
/-- an option that is copied: its first byte, how long it is -/
def Good (o : List UInt8) : Prop := ∃ a b r, o = a :: b :: r ∧ 128 ≤ a.toNat ∧ b.toNat = o.length
theorem bt_str (l : List UInt8) (k : Nat) (h : k < l.length) : bt (str l) k = ((l[k]'h).toNat : Int) := bt_eq (str l) k h
theorem Good.len {o : List UInt8} (h : Good o) : 2 ≤ o.length := by
  obtain ⟨a, b, r, rfl, _, _⟩ := h; simp
theorem bt_head1 (u : ByteArray) (n : Nat) (h0 : 1 < n) (h : n ≤ u.size) : bt (u.extract 0 n) 1 = bt u 1 := by
  unfold bt
  have hs : (u.extract 0 n).size = n := by simp; omega
  rw [dif_pos (by omega), dif_pos (by omega)]
  congr 2
  simp [ByteArray.getElem_eq_getElem_data, ByteArray.data_extract]
theorem cpText_ok {t : ByteArray} (h : cpOk t = true) : cpText t = str (pad4 (cpBytes (oSeq t))) := by unfold cpText; rw [h]; rfl
theorem ext_len (t : ByteArray) (n : Nat) (h : n ≤ t.size) : (bl (t.extract 0 n)).length = n := by rw [bl_length]; simp; omega
/-- what is whole and not a 1 -/
theorem oW_two {t : ByteArray} (hw : oW t = true) (h1 : 128 ≤ bt t 0) : 2 ≤ oN t ∧ oN t ≤ t.size ∧ (oN t : Int) = bt t 1 := by
  unfold oW at hw
  simp only [Bool.or_eq_true, Bool.and_eq_true, decide_eq_true_iff] at hw
  have h2 : ¬ bt t 0 = 1 := by omega
  rcases hw with h | ⟨⟨h3, h4⟩, h5⟩
  · exact absurd h h2
  · have e : oN t = (bt t 1).toNat := by unfold oN; rw [if_neg h2, if_neg (by omega)]
    rw [e]
    generalize bt t 1 = b at *
    omega
theorem good_mk {o : List UInt8} {n : Nat} (hn : 2 ≤ n) (hl : o.length = n) (h0 : 128 ≤ bt (str o) 0) (h1 : bt (str o) 1 = (n : Int)) : Good o := by
  match o, hl with
  | [], hl => simp at hl; omega
  | [_], hl => simp at hl; omega
  | a :: b :: r, hl =>
    rw [bt_str _ 0 (by simp)] at h0
    rw [bt_str _ 1 (by simp)] at h1
    simp only [List.getElem_cons_zero, List.getElem_cons_succ] at h0 h1
    exact ⟨a, b, r, rfl, by omega, by rw [hl]; omega⟩
theorem good_of : ∀ f t x, x ∈ oSeqF f t → x.2 = true → 128 ≤ bt x.1 0 → Good (bl x.1) := by
  intro f
  induction f with
  | zero => intro t x h; simp [oSeqF] at h
  | succ f ih =>
    intro t x h hx hb
    unfold oSeqF at h
    by_cases h0 : t.size = 0 ∨ bt t 0 = 0
    · rw [if_pos h0] at h; simp at h
    · rw [if_neg h0] at h
      cases hw : oW t
      · rw [hw] at h; simp at h; rw [h] at hx; simp at hx
      · rw [hw] at h
        have hi := oN_in (by omega) hw
        simp only [if_true, List.mem_cons] at h
        rcases h with rfl | h
        · have e0 : bt (t.extract 0 (oN t)) 0 = bt t 0 := bt_head t _ (Nat.lt_of_lt_of_le Nat.zero_lt_one hi.1) hi.2
          have hb2 : 128 ≤ bt t 0 := by rw [← e0]; exact hb
          obtain ⟨n1, n2, n3⟩ := oW_two hw hb2
          have e1 : bt (t.extract 0 (oN t)) 1 = bt t 1 := bt_head1 t _ n1 n2
          exact good_mk n1 (ext_len t _ n2) (by rw [str_bl]; exact hb) (by rw [str_bl, e1, n3])
        · exact ih _ _ h hx hb
theorem oSeq_good : ∀ (os : List (List UInt8)) (k : Nat), (∀ o ∈ os, Good o) → oSeq (str (os.flatten ++ List.replicate k 0)) = os.map fun o => (str o, true) := by
  intro os
  induction os with
  | nil =>
    intro k _
    refine oSeq_end ?_
    cases k with
    | zero => left; rfl
    | succ k => right; rw [bt_str _ 0 (by simp)]; rfl
  | cons o os ih =>
    intro k hg
    have hgo := hg o (by simp)
    have h2 := hgo.len
    obtain ⟨a, b, r, ho, ha, hb⟩ := hgo
    have ih2 := ih k (fun x hx => hg x (by simp [hx]))
    have eT : (o :: os).flatten ++ List.replicate k 0 = o ++ (os.flatten ++ List.replicate k 0) := by simp
    rw [eT]
    generalize os.flatten ++ List.replicate k 0 = R at *
    have hlen : (str (o ++ R)).size = o.length + R.length := by rw [str_size, List.length_append]
    have hb0 : bt (str (o ++ R)) 0 = (a.toNat : Int) := by rw [bt_str _ 0 (by simp; omega)]; simp [ho]
    have hb1 : bt (str (o ++ R)) 1 = (o.length : Int) := by
      refine (bt_str _ 1 (by simp; omega)).trans ?_
      have e : (o ++ R)[1]'(by simp; omega) = b := by simp [ho]
      rw [e, hb]
    have hW : oW (str (o ++ R)) = true := by
      unfold oW
      rw [hb0, hb1]
      simp only [Bool.or_eq_true, Bool.and_eq_true, decide_eq_true_iff]
      right; omega
    have hN : oN (str (o ++ R)) = o.length := by
      unfold oN
      rw [hb0, hb1, if_neg (by omega), if_neg (by omega)]; omega
    have x1 : (str (o ++ R)).extract 0 o.length = str o := by rw [str_extract]; simp
    have x2 : (str (o ++ R)).extract o.length (str (o ++ R)).size = str R := by rw [str_extract, hlen]; simp
    rw [oSeq_go (by omega) (by omega) hW, hN, x1, x2, ih2]; rfl
/-- the options that are copied -/
def copd (t : ByteArray) : List (List UInt8) := ((oSeq t).filter fun x => decide (128 ≤ bt x.1 0)).map fun x => bl x.1
theorem copd_flat (ys : List (ByteArray × Bool)) : cpBytes ys = ((ys.filter fun x => decide (128 ≤ bt x.1 0)).map fun x => bl x.1).flatten := by
  induction ys with
  | nil => rfl
  | cons y ys ih =>
    have e : cpBytes (y :: ys) = cpSel y ++ cpBytes ys := rfl
    rw [e, ih]
    unfold cpSel
    by_cases h : 128 ≤ bt y.1 0
    · rw [if_pos h, List.filter_cons_of_pos (by simp [h])]; simp
    · rw [if_neg h, List.filter_cons_of_neg (by simp [h])]; simp
theorem good_first {o : List UInt8} (h : Good o) : 128 ≤ bt (str o) 0 := by
  obtain ⟨a, b, r, rfl, ha, _⟩ := h
  rw [bt_str _ 0 (by simp)]; simp; omega
theorem cpBytes_good (os : List (List UInt8)) (h : ∀ o ∈ os, Good o) : cpBytes (os.map fun o => (str o, true)) = os.flatten := by
  induction os with
  | nil => rfl
  | cons o os ih =>
    have e : cpBytes ((o :: os).map fun o => (str o, true)) = cpSel (str o, true) ++ cpBytes (os.map fun o => (str o, true)) := rfl
    rw [e, ih fun x hx => h x (by simp [hx])]
    unfold cpSel
    rw [if_pos (good_first (h o (by simp)))]
    simp [bl_str]
theorem copied_again {t : ByteArray} (h : cpOk t = true) : cpOk (cpText t) = true ∧ cpText (cpText t) = cpText t ∧ (cpText t).size % 4 = 0 ∧ (cpText t).size ≤ t.size + 3 ∧ (cpText t = ⟨#[]⟩ ∨ 0 < (cpText t).size ∧ 128 ≤ bt (cpText t) 0) := by
  have hT : cpText t = str (pad4 (cpBytes (oSeq t))) := by unfold cpText; rw [h]; rfl
  unfold cpOk at h
  simp only [Bool.and_eq_true, decide_eq_true_iff] at h
  obtain ⟨h40, hw⟩ := h
  have hG : ∀ o ∈ copd t, Good o := by
    intro o ho
    unfold copd at ho
    simp only [List.mem_map, List.mem_filter, decide_eq_true_iff] at ho
    obtain ⟨x, ⟨hx, hb⟩, rfl⟩ := ho
    unfold cpWhole at hw
    rw [List.all_eq_true] at hw
    exact good_of _ _ x hx (hw x hx) hb
  have hF : cpBytes (oSeq t) = (copd t).flatten := copd_flat _
  have hlen := cpBytes_len t _ (List.prefix_refl (oSeq t))
  have hS : oSeq (cpText t) = (copd t).map fun o => (str o, true) := by
    rw [hT, hF]; unfold pad4; exact oSeq_good _ _ hG
  have hC : cpBytes (oSeq (cpText t)) = cpBytes (oSeq t) := by rw [hS, cpBytes_good _ hG, hF]
  have hsz : (cpText t).size = (cpBytes (oSeq t)).length + (4 - (cpBytes (oSeq t)).length % 4) % 4 := by
    rw [hT, str_size]; unfold pad4; rw [List.length_append, List.length_replicate]
  have hO : cpOk (cpText t) = true := by
    unfold cpOk
    simp only [Bool.and_eq_true, decide_eq_true_iff]
    refine ⟨by omega, ?_⟩
    rw [hS]; unfold cpWhole; simp
  have hTT : cpText (cpText t) = cpText t := by
    rw [cpText_ok hO, hC, ← hT]
  refine ⟨hO, hTT, by omega, by omega, ?_⟩
  cases hc : copd t with
  | nil =>
    left
    rw [hT, hF, hc]; rfl
  | cons o os =>
    right
    have hgo := hG o (by rw [hc]; simp)
    have h2 := hgo.len
    have hfl : cpBytes (oSeq t) = o ++ os.flatten := by rw [hF, hc]; rfl
    have hl : 2 ≤ (cpBytes (oSeq t)).length := by rw [hfl, List.length_append]; omega
    refine ⟨by omega, ?_⟩
    obtain ⟨a, b, r, ho, ha, _⟩ := hgo
    rw [hT, hfl, bt_str _ 0 (by unfold pad4; simp; omega)]
    simp only [pad4, ho]
    simp; omega
end Go.Proofs.Ytgfpoohjbgdcpaa
