/-
  Plain mathematics of what ports send: it comes back from its bytes; with addresses exchanged; with a byte changed.
-/
import Derived.Test.YtjdellkdnempkaaUdps3
namespace Go.Proofs.Ytjdellkdnempkaa
open Go.RowKit Go.PlainAid

theorem udpOk_facts {a b : Int} {u : UdpV} (h : udpOk a b u = true) : (0 ≤ u.from_ ∧ u.from_ ≤ 65535) ∧ (0 ≤ u.to_ ∧ u.to_ ≤ 65535) ∧ u.data.size ≤ 65507 ∧ (0 ≤ a ∧ a ≤ 4294967295) ∧ (0 ≤ b ∧ b ≤ 4294967295) := by
  simp only [udpOk, udpB, addrB, inB, Bool.and_eq_true, decide_eq_true_eq] at h
  exact ⟨h.1.1.1.1, h.1.1.1.2, h.1.1.2, h.1.2, h.2⟩
theorem udpBytes_length (a b : Int) (u : UdpV) : (udpBytes a b u).length = 8 + u.data.size := by
  simp only [udpBytes, List.length_append, be_length, bl_length]
theorem udpSum_zero (a b : Int) (u : UdpV) : (udpSum a b u != 0) = u.sum := by
  unfold udpSum
  cases u.sum
  · simp
  · have := no0_bd (sumOf_bd (udpAhead a b u ++ bl u.data))
    simp only [if_true, bne_iff_ne, ne_eq]
    unfold udpSumOf; omega
theorem take_drop_mid (a b c : List UInt8) : (List.drop a.length (a ++ b ++ c)).take b.length = b := by
  rw [List.append_assoc, List.drop_left, List.take_left]
theorem fld_mid {a c : List UInt8} {n : Int} {k : Nat} (x : Int) (hx : x = (a.length : Int)) (h0 : 0 ≤ n) (h1 : n < 256 ^ k) : fld (str (a ++ be k n ++ c)) x (k : Int) = n := by
  subst hx
  unfold fld
  rw [bl_str, Int.toNat_natCast, Int.toNat_natCast]
  have := take_drop_mid a (be k n) c
  rw [be_length] at this
  rw [this, num_be k n h0 h1]
/-- what is sent comes back -/
theorem rd_udpBytes {a b a' b' : Int} {u : UdpV} (h : udpOk a b u = true) : rdUdp (str (udpBytes a' b' u)) = u := by
  obtain ⟨⟨f0, f1⟩, ⟨t0, t1⟩, hd, _, _⟩ := udpOk_facts h
  have hs := udpSum_bd a' b' u
  have e0 : fld (str (udpBytes a' b' u)) 0 2 = u.from_ := by
    have := fld_mid (a := []) (c := be 2 u.to_ ++ (be 2 (8 + (u.data.size : Int)) ++ (be 2 (udpSum a' b' u) ++ bl u.data))) (n := u.from_) (k := 2) 0 rfl f0 (by omega)
    simpa [udpBytes] using this
  have e2 : fld (str (udpBytes a' b' u)) 2 2 = u.to_ := by
    have := fld_mid (a := be 2 u.from_) (c := be 2 (8 + (u.data.size : Int)) ++ (be 2 (udpSum a' b' u) ++ bl u.data)) (n := u.to_) (k := 2) 2 (by rw [be_length]; rfl) t0 (by omega)
    simpa [udpBytes] using this
  have e6 : fld (str (udpBytes a' b' u)) 6 2 = udpSum a' b' u := by
    have := fld_mid (a := be 2 u.from_ ++ be 2 u.to_ ++ be 2 (8 + (u.data.size : Int))) (c := bl u.data) (n := udpSum a' b' u) (k := 2) 6 (by simp only [List.length_append, be_length]; rfl) hs.1 (by omega)
    simpa [udpBytes] using this
  have e8 : (str (udpBytes a' b' u)).extract 8 (str (udpBytes a' b' u)).size = u.data := by
    rw [str_extract, str_size, udpBytes_length]
    have e : List.drop 8 (udpBytes a' b' u) = bl u.data := by
      unfold udpBytes
      rw [List.drop_append_of_le_length (by simp only [List.length_append, be_length]; omega)]
      rw [List.drop_of_length_le (by simp only [List.length_append, be_length]; omega)]
      rfl
    rw [e, List.take_of_length_le (by rw [bl_length]; omega), str_bl]
  obtain ⟨fr, to, sn, data⟩ := u
  unfold rdUdp
  rw [e0, e2, e6, e8, udpSum_zero]
theorem ok_udpBytes {a b : Int} {u : UdpV} (h : udpOk a b u = true) : okUdp a b (str (udpBytes a b u)) = true := by
  unfold okUdp
  rw [rd_udpBytes h]
  unfold udpText
  rw [if_pos h, str_size, udpBytes_length]
  simp
/-- unlike sums -/
theorem no0_inj {x y : Int} (hx : 0 < x) (hy : 0 < y) (h : no0 (65535 - fold16 x) = no0 (65535 - fold16 y)) : (x - y) % 65535 = 0 := by
  have ex : fold16 x = (x - 1) % 65535 + 1 := by unfold fold16; rw [if_neg (by omega)]
  have ey : fold16 y = (y - 1) % 65535 + 1 := by unfold fold16; rw [if_neg (by omega)]
  rw [ex, ey] at h
  unfold no0 at h
  split at h <;> split at h <;> omega
/-- all bytes over which the sum goes, added by two -/
def udpAll (a b : Int) (u : UdpV) : Int := psum (udpAhead a b u ++ bl u.data)
theorem udpAll_eq (a b : Int) (u : UdpV) : udpAll a b u = psum (be 4 a) + psum (be 4 b) + 17 + psum (be 2 (8 + (u.data.size : Int))) + psum (be 2 u.from_ ++ be 2 u.to_) + psum (be 2 (8 + (u.data.size : Int))) + psum (bl u.data) := by
  unfold udpAll udpAhead
  rw [psum_append _ _ (by simp only [List.length_append, be_length]), psum_append _ _ (by simp only [List.length_append, be_length]), psum_append _ _ (by simp only [List.length_append, be_length]), psum_append _ _ (by simp only [List.length_append, be_length]), psum_append _ _ (by simp only [List.length_append, be_length]), psum_append _ _ (by rw [be_length])]
  rw [psum_be2 (n := 17) (by decide) (by decide)]
theorem udpAhead_swap (a b : Int) (u : UdpV) : udpSumOf b a u = udpSumOf a b u := by
  show 65535 - fold16 (udpAll b a u) = 65535 - fold16 (udpAll a b u)
  rw [udpAll_eq, udpAll_eq, Int.add_comm (psum (be 4 b))]
theorem udpSum_swap (a b : Int) (u : UdpV) : udpSum b a u = udpSum a b u := by unfold udpSum; rw [udpAhead_swap]
theorem udpOk_swap (a b : Int) (u : UdpV) : udpOk b a u = udpOk a b u := by unfold udpOk; cases udpB u <;> cases addrB a <;> cases addrB b <;> rfl
theorem udpBytes_swap (a b : Int) (u : UdpV) : udpBytes b a u = udpBytes a b u := by unfold udpBytes; rw [udpSum_swap]
theorem ok_swap {a b : Int} {u : UdpV} (h : udpOk a b u = true) : okUdp b a (str (udpBytes a b u)) = true := by
  rw [← udpBytes_swap a b u]; exact ok_udpBytes (by rw [udpOk_swap]; exact h)
theorem udpAll_pos (a b : Int) (u : UdpV) : 0 < udpAll a b u := by
  rw [udpAll_eq]
  have := psum_nonneg (be 4 a); have := psum_nonneg (be 4 b); have := psum_nonneg (be 2 (8 + (u.data.size : Int))); have := psum_nonneg (be 2 u.from_ ++ be 2 u.to_); have := psum_nonneg (bl u.data)
  omega
theorem udpSum_same {a b a' b' : Int} {u v : UdpV} (hu : u.sum = true) (hv : v.sum = true) (h : udpSum a b u = udpSum a' b' v) : (udpAll a b u - udpAll a' b' v) % 65535 = 0 := by
  unfold udpSum at h
  rw [hu, hv, if_pos rfl, if_pos rfl] at h
  exact no0_inj (udpAll_pos a b u) (udpAll_pos a' b' v) h
theorem psum_be4 {n : Int} (h0 : 0 ≤ n) (h1 : n ≤ 4294967295) : psum (be 4 n) = n / 65536 + n % 65536 := by
  simp only [be, List.nil_append, List.cons_append, psum]
  have e1 : ∀ x : Int, (UInt8.ofNat (x % 256).toNat).toNat = (x % 256).toNat := fun x => by simp [UInt8.toNat_ofNat']; omega
  rw [e1, e1, e1, e1]; omega
/-- with another address, near the first one, and a sum, they are not read; without one they are -/
theorem ok_other {a b o : Int} {u : UdpV} (h : udpOk a b u = true) (ho : 0 ≤ o ∧ o ≤ 4294967295) (hn : o ≠ a) (hq : o / 256 = a / 256) : okUdp o b (str (udpBytes a b u)) = !u.sum := by
  obtain ⟨hf, ht, hd, ha, hb⟩ := udpOk_facts h
  have ho' : udpOk o b u = true := by
    simp only [udpOk, udpB, addrB, inB, Bool.and_eq_true, decide_eq_true_eq]
    exact ⟨⟨⟨⟨hf, ht⟩, hd⟩, ho⟩, hb⟩
  unfold okUdp
  rw [rd_udpBytes h]
  unfold udpText
  rw [if_pos ho', str_size, udpBytes_length, decide_eq_true (p := 8 ≤ 8 + u.data.size) (by omega), Bool.true_and]
  cases hs : u.sum
  · have e : udpBytes o b u = udpBytes a b u := by simp only [udpBytes, udpSum, hs, Bool.false_eq_true, if_false]
    rw [e]; simp
  · rw [Bool.not_true, decide_eq_false_iff_not]
    intro e
    have e2 : udpBytes o b u = udpBytes a b u := by have := congrArg bl e; simpa [bl_str] using this
    have e3 : udpSum o b u = udpSum a b u := by
      have h6 := congrArg (fun l => fld (str l) 6 2) e2
      have q : ∀ x, fld (str (udpBytes x b u)) 6 2 = udpSum x b u := fun x => by
        have hs := udpSum_bd x b u
        have := fld_mid (a := be 2 u.from_ ++ be 2 u.to_ ++ be 2 (8 + (u.data.size : Int))) (c := bl u.data) (n := udpSum x b u) (k := 2) 6 (by simp only [List.length_append, be_length]; rfl) hs.1 (by omega)
        simpa [udpBytes] using this
      simp only [q] at h6
      exact h6
    have := udpSum_same hs hs e3
    rw [udpAll_eq, udpAll_eq, psum_be4 ho.1 ho.2, psum_be4 ha.1 ha.2] at this
    omega
theorem psum_set : ∀ (l : List UInt8) (i : Nat) (c : UInt8) (h : i < l.length), psum (l.set i c) = psum l + ((c.toNat : Int) - (l[i].toNat : Int)) * (if i % 2 = 0 then 256 else 1)
  | [], i, c, h => by simp at h
  | [x], i, c, h => by
    have : i = 0 := by simp at h; omega
    subst this
    simp [psum]; omega
  | x :: y :: l, 0, c, h => by simp [psum]; omega
  | x :: y :: l, 1, c, h => by simp [psum]; omega
  | x :: y :: l, i + 2, c, h => by
    have h' : i < l.length := by simp at h; omega
    have := psum_set l i c h'
    simp only [List.set_cons_succ, psum, List.getElem_cons_succ, this]
    have e : (i + 2) % 2 = i % 2 := by omega
    rw [e]; omega
/-- with a sum, and a byte changed that is not of the sum, they are not read -/
theorem ok_turned {a b : Int} {u : UdpV} (_h : udpOk a b u = true) (hu : u.sum = true) (i : Nat) (hi : i < (udpBytes a b u).length) (h6 : i ≠ 6) (h7 : i ≠ 7) (c : UInt8) (hc : c ≠ (udpBytes a b u)[i]) :
    okUdp a b (str ((udpBytes a b u).set i c)) = false := by
  cases hk : okUdp a b (str ((udpBytes a b u).set i c))
  · rfl
  · exfalso
    have hsz : (str ((udpBytes a b u).set i c)).size = 8 + u.data.size := by rw [str_size, List.length_set, udpBytes_length]
    unfold okUdp at hk
    rw [Bool.and_eq_true, decide_eq_true_eq, decide_eq_true_eq] at hk
    obtain ⟨_, hk⟩ := hk
    generalize hv : rdUdp (str ((udpBytes a b u).set i c)) = v at hk
    have hvs : v.data.size = u.data.size := by
      rw [← hv]
      show ((str ((udpBytes a b u).set i c)).extract 8 (str ((udpBytes a b u).set i c)).size).size = _
      rw [ByteArray.size_extract, hsz]; omega
    have hk2 : udpText a b v = (udpBytes a b u).set i c := by have := congrArg bl hk; simpa [bl_str] using this
    have hok : udpOk a b v = true := by
      cases e : udpOk a b v
      · unfold udpText at hk2
        rw [e] at hk2
        have := congrArg List.length hk2
        simp [udpBytes_length] at this
        omega
      · rfl
    have hk3 : udpBytes a b v = (udpBytes a b u).set i c := by unfold udpText at hk2; rwa [if_pos hok] at hk2
    have hs6 : udpSum a b v = udpSum a b u := by
      have q : ∀ x : UdpV, be 2 (udpSum a b x) = ((udpBytes a b x).drop 6).take 2 := fun x => by
        unfold udpBytes
        have := take_drop_mid (be 2 x.from_ ++ be 2 x.to_ ++ be 2 (8 + (x.data.size : Int))) (be 2 (udpSum a b x)) (bl x.data)
        simp only [List.length_append, be_length] at this
        exact this.symm
      have e : be 2 (udpSum a b v) = be 2 (udpSum a b u) := by
        rw [q, q, hk3]
        apply List.ext_getElem?
        intro k
        rw [List.getElem?_take, List.getElem?_take, List.getElem?_drop, List.getElem?_drop, List.getElem?_set]
        by_cases hk4 : k < 2
        · rw [if_pos hk4, if_pos hk4, if_neg (show ¬ i = 6 + k by omega)]
        · rw [if_neg hk4, if_neg hk4]
      have hb1 := udpSum_bd a b v
      have hb2 := udpSum_bd a b u
      rw [← num_be 2 _ hb1.1 (by omega), ← num_be 2 _ hb2.1 (by omega), e]
    have hvsum : v.sum = true := by rw [← udpSum_zero a b v, hs6, udpSum_zero, hu]
    have hd := udpSum_same hvsum hu hs6
    have hp : ∀ x : UdpV, psum (udpBytes a b x) = psum (be 2 x.from_ ++ be 2 x.to_) + psum (be 2 (8 + (x.data.size : Int))) + psum (be 2 (udpSum a b x)) + psum (bl x.data) := fun x => by
      unfold udpBytes
      rw [psum_append _ _ (by simp only [List.length_append, be_length]), psum_append _ _ (by simp only [List.length_append, be_length]), psum_append _ _ (by simp only [List.length_append, be_length])]
    have h1 := hp v
    have h2 := hp u
    rw [hk3, psum_set _ _ _ hi, hvs, hs6] at h1
    rw [udpAll_eq, udpAll_eq, hvs] at hd
    have hcn : (c.toNat : Int) ≠ ((udpBytes a b u)[i].toNat : Int) := fun e => hc (UInt8.toNat.inj (by omega))
    have c1 := c.toNat_lt
    have c2 := (udpBytes a b u)[i].toNat_lt
    generalize (udpBytes a b u)[i].toNat = d at *
    split at h1 <;> omega
end Go.Proofs.Ytjdellkdnempkaa
