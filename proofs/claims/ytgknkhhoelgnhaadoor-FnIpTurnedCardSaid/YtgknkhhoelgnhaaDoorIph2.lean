/-
  Datagrams by plain mathematics: a byte changed; a byte more or less.
-/
import Derived.Test.YtgknkhhoelgnhaaDoorIph1
namespace Go.Proofs.YtgknkhhoelgnhaaDoor
open Go.RowKit Go.PlainAid
theorem psum_setI : ∀ (l : List UInt8) (i : Nat) (c : UInt8) (h : i < l.length), psum (l.set i c) = psum l + ((c.toNat : Int) - (l[i].toNat : Int)) * (if i % 2 = 0 then 256 else 1)
  | [], i, c, h => by simp at h
  | [x], i, c, h => by
    have : i = 0 := by simp at h; omega
    subst this
    simp [psum]; omega
  | x :: y :: l, 0, c, h => by simp [psum]; omega
  | x :: y :: l, 1, c, h => by simp [psum]; omega
  | x :: y :: l, i + 2, c, h => by
    have h' : i < l.length := by simp at h; omega
    have := psum_setI l i c h'
    simp only [List.set_cons_succ, psum, List.getElem_cons_succ, this]
    have e : (i + 2) % 2 = i % 2 := by omega
    rw [e]; omega
/-- with a byte changed of all that is ahead of its Data, but the first one, there is none -/
theorem ipT_turned (p : IpV) (h : IpFacts p) (x : Int) (hx : 0 ≤ x ∧ x ≤ 65535) (hz : sumOf (ipHead p x) = 0) (i : Nat) (h1 : 1 ≤ i) (hi : i < 20 + p.opts.size) (c : UInt8) (hc : (ipT p x)[i]? ≠ some c) :
    ipCode (str ((ipT p x).set i c)) ≠ 0 := by
  intro h0
  have hlen := ipT_length p x
  have hi' : i < (ipT p x).length := by omega
  obtain ⟨hh, hv, hb⟩ := ipT_back p h x hx
  obtain ⟨hm, _, _⟩ := ipCode_ok h0
  obtain ⟨h20, hb0, hb1, hh', hl, hz'⟩ := mh_all hm
  have e0 : bt (str ((ipT p x).set i c)) 0 = bt (str (ipT p x)) 0 := by
    rw [bt_eq _ 0 (by rw [bl_str, List.length_set]; omega), bt_eq _ 0 (by rw [bl_str]; omega)]
    have : ((ipT p x).set i c)[0]'(by rw [List.length_set]; omega) = (ipT p x)[0]'(by omega) := List.getElem_set_ne (by omega) _
    exact congrArg (fun z : UInt8 => (z.toNat : Int)) this
  have eh : hdr (str ((ipT p x).set i c)) = 20 + p.opts.size := by unfold hdr at hh ⊢; rw [e0]; exact hh
  have et : bl ((str ((ipT p x).set i c)).extract 0 (hdr (str ((ipT p x).set i c)))) = (ipHead p x).set i c := by
    rw [eh, str_extract, bl_str, List.drop_zero, Nat.sub_zero]
    unfold ipT
    rw [List.set_append_left _ _ (by rw [ipHead_length]; omega)]
    exact List.take_left' (by rw [List.length_set, ipHead_length])
  rw [et] at hz'
  have hiH : i < (ipHead p x).length := by rw [ipHead_length]; omega
  have ei : (ipHead p x)[i]'hiH ≠ c := by
    intro e
    apply hc
    unfold ipT
    rw [List.getElem?_append_left hiH, List.getElem?_eq_getElem hiH, e]
  have hp := psum_setI (ipHead p x) i c hiH
  have n1 := psum_nonneg (ipHead p x)
  have n2 := psum_nonneg ((ipHead p x).set i c)
  have hd : ((ipHead p x)[i]'hiH).toNat ≠ c.toNat := fun e => ei (UInt8.toNat.inj e)
  have l1 := ((ipHead p x)[i]'hiH).toNat_lt
  have l2 := c.toNat_lt
  have z1 : 65535 - fold16 (psum (ipHead p x)) = 0 := hz
  have z2 : 65535 - fold16 (psum ((ipHead p x).set i c)) = 0 := hz'
  generalize psum (ipHead p x) = P1 at *
  generalize psum ((ipHead p x).set i c) = P2 at *
  generalize ((ipHead p x)[i]'hiH).toNat = C1 at *
  generalize c.toNat = C2 at *
  clear hz hz' hc ei et eh e0 hh hv hb hm h0 hl h20 hb0 hb1 hh'
  unfold fold16 at z1 z2
  by_cases hpar : i % 2 = 0
  · rw [if_pos hpar] at hp
    split at z1 <;> split at z2 <;> omega
  · rw [if_neg hpar] at hp
    split at z1 <;> split at z2 <;> omega
theorem bt_app (L R : List UInt8) (k : Nat) (h : k < L.length) : bt (str (L ++ R)) k = bt (str L) k := by
  rw [bt_eq _ k (by rw [bl_str, List.length_append]; omega), bt_eq _ k (by rw [bl_str]; exact h)]
  have : (L ++ R)[k]'(by rw [List.length_append]; omega) = L[k] := List.getElem_append_left h
  exact congrArg (fun z : UInt8 => (z.toNat : Int)) this
theorem fld_app (L R : List UInt8) (a k : Nat) (h : a + k ≤ L.length) : fld (str (L ++ R)) a k = fld (str L) a k := by
  unfold fld
  rw [bl_str, bl_str, Int.toNat_natCast, Int.toNat_natCast, List.drop_append_of_le_length (by omega), List.take_append_of_le_length (by rw [List.length_drop]; omega)]
/-- with a byte more -/
theorem ipT_more (p : IpV) (h : IpFacts p) (x : Int) (hx : 0 ≤ x ∧ x ≤ 65535) (c : UInt8) : ipCode (str (ipT p x ++ [c])) = 3 := by
  have hT := ipT_fields p h x hx []
  rw [List.append_nil] at hT
  obtain ⟨f0, _, f2, _⟩ := hT
  have hlen := ipT_length p x
  have hs : (str (ipT p x ++ [c])).size = 20 + p.opts.size + p.data.size + 1 := by rw [str_size, List.length_append, hlen]; rfl
  have ho := h.opts
  have b0 : bt (str (ipT p x ++ [c])) 0 = 64 + (20 + (p.opts.size : Int)) / 4 := by
    rw [bt_app _ _ 0 (by omega)]
    exact (fld_one (str (ipT p x)) 0 (by rw [str_size]; omega)).symm.trans f0
  have b2 : fld (str (ipT p x ++ [c])) 2 2 = 20 + (p.opts.size : Int) + (p.data.size : Int) := (fld_app (ipT p x) [c] 2 2 (by omega)).trans f2
  unfold ipCode
  rw [b0, b2, hs, if_neg (by omega), if_neg (by omega), if_pos (.inr (by omega))]
/-- with the last byte lost -/
theorem ipT_less (p : IpV) (h : IpFacts p) (x : Int) (hx : 0 ≤ x ∧ x ≤ 65535) : ipCode (str ((ipT p x).take ((ipT p x).length - 1))) = if p.opts.size + p.data.size = 0 then 1 else 3 := by
  have hT := ipT_fields p h x hx []
  rw [List.append_nil] at hT
  obtain ⟨f0, _, f2, _⟩ := hT
  have hlen := ipT_length p x
  have hs : (str ((ipT p x).take ((ipT p x).length - 1))).size = 20 + p.opts.size + p.data.size - 1 := by rw [str_size, List.length_take, hlen]; omega
  have hsp : (ipT p x).take ((ipT p x).length - 1) ++ (ipT p x).drop ((ipT p x).length - 1) = ipT p x := List.take_append_drop _ _
  generalize (ipT p x).drop ((ipT p x).length - 1) = R at hsp
  generalize (ipT p x).take ((ipT p x).length - 1) = L at *
  by_cases hz : p.opts.size + p.data.size = 0
  · rw [if_pos hz]
    unfold ipCode
    rw [if_pos (by omega)]
  · rw [if_neg hz]
    have hL : L.length = 20 + p.opts.size + p.data.size - 1 := by rw [← str_size]; exact hs
    have ho := h.opts
    have b0 : bt (str L) 0 = 64 + (20 + (p.opts.size : Int)) / 4 := by
      rw [← bt_app L R 0 (by omega), hsp]
      exact (fld_one (str (ipT p x)) 0 (by rw [str_size]; omega)).symm.trans f0
    have b2 : fld (str L) 2 2 = 20 + (p.opts.size : Int) + (p.data.size : Int) := by
      have := fld_app L R 2 2 (by omega)
      rw [hsp] at this
      exact this.symm.trans f2
    unfold ipCode
    rw [b0, b2, hs, if_neg (by omega), if_neg (by omega), if_pos (.inr (by omega))]
end Go.Proofs.YtgknkhhoelgnhaaDoor
