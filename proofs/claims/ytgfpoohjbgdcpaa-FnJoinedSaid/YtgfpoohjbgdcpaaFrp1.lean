/-
  What the pieces of a datagram are, plainly: right ones, none longer than asked, as long as may be, one behind the other, and together the datagram.
-/
import Derived.Test.YtgfpoohjbgdcpaaFrg5
import Derived.Test.YtgfpoohjbgdcpaaTls4
import Derived.Test.YtgfpoohjbgdcpaaJnd1
namespace Go.Proofs.Ytgfpoohjbgdcpaa
open Go.RowKit Go.PlainAid
theorem iqA_zero (h : IpV) (t : List IpV) : iqA (h :: t) 0 = h := rfl
theorem iqA_succ (h : IpV) (t : List IpV) (i : Nat) : iqA (h :: t) (i + 1) = iqA t i := rfl
/-- what the pieces L of q are -/
structure FrAll (mtu : Int) (q : IpV) (L : List IpV) : Prop where
  pos : 0 < L.length
  each : ∀ i, i < L.length → IpFacts (iqA L i) ∧ frSize (iqA L i) ≤ mtu ∧ (iqA L i).src = q.src ∧ (iqA L i).dst = q.dst ∧ (iqA L i).pro = q.pro ∧ (iqA L i).id = q.id
  next : ∀ i, i + 1 < L.length → (iqA L i).mf = true ∧ 8 * (iqA L (i + 1)).off = 8 * (iqA L i).off + ((iqA L i).data.size : Int) ∧ mtu < 20 + ((iqA L i).opts.size : Int) + ((iqA L i).data.size : Int) + 8
  head : (iqA L 0).off = q.off ∧ (iqA L 0).opts = q.opts ∧ (iqA L 0).tos = q.tos ∧ (iqA L 0).df = q.df ∧ (iqA L 0).ttl = q.ttl
  last : (iqA L (L.length - 1)).mf = q.mf
  data : jnData L = bl q.data
  many : L.length * 8 ≤ q.data.size + 8
  tot : iqTot L ≤ q.data.size + 40 * L.length
  one : L.length = 1 ↔ frSize q ≤ mtu
theorem frHead_facts {mtu : Int} {q : IpV} (hm : 68 ≤ mtu) (hq : IpFacts q) (h : mtu < frSize q) : IpFacts (frHead mtu q) ∧ frSize (frHead mtu q) ≤ mtu ∧ mtu < 20 + ((frHead mtu q).opts.size : Int) + ((frHead mtu q).data.size : Int) + 8 ∧ (frHead mtu q).data.size = frRoom mtu q := by
  have hr := frRoom_in hm hq.opts.1 h
  have hs : (frHead mtu q).data.size = frRoom mtu q := by
    show (q.data.extract 0 (frRoom mtu q)).size = _
    rw [ByteArray.size_extract]; omega
  have hz : (frHead mtu q).opts.size = q.opts.size := rfl
  refine ⟨⟨hq.tos, hq.id, hq.ttl, hq.pro, hq.src, hq.dst, hq.opts, hq.off, ?_, ?_, fun _ => ?_⟩, ?_, ?_, hs⟩
  · rw [hs, hz]; have := hq.len; omega
  · rw [hs]; have := hq.last; show 8 * q.off + _ ≤ _; omega
  · rw [hs]; exact hr.2.2.1
  · unfold frSize; rw [hs, hz]; omega
  · rw [hs, hz]; omega
theorem frMove_facts {c : ByteArray} {mtu : Int} {q : IpV} (hm : 68 ≤ mtu) (hq : IpFacts q) (h : mtu < frSize q) (hc : c.size ≤ q.opts.size) (hc4 : c.size % 4 = 0) : IpFacts (frMove c mtu q) := by
  have hr := frRoom_in hm hq.opts.1 h
  have hs := frMove_size (c := c) (mtu := mtu) (p := q)
  have ho : (frMove c mtu q).off = q.off + (frRoom mtu q : Int) / 8 := rfl
  have hz : (frMove c mtu q).opts.size = c.size := rfl
  have hl := hq.last
  have ho0 := hq.off
  refine ⟨hq.tos, hq.id, hq.ttl, hq.pro, hq.src, hq.dst, ?_, ?_, ?_, ?_, fun hmf => ?_⟩
  · rw [hz]; have := hq.opts; omega
  · rw [ho]; omega
  · rw [hs, hz]; have := hq.len; omega
  · rw [hs, ho]; omega
  · rw [hs]; have := hq.mul hmf; omega
theorem frAll_one {mtu : Int} {q : IpV} (hq : IpFacts q) (h : frSize q ≤ mtu) : FrAll mtu q [q] where
  pos := by simp
  each := fun i hi => by
    have : i = 0 := by simpa using hi
    subst this
    exact ⟨hq, h, rfl, rfl, rfl, rfl⟩
  next := fun i hi => by simp at hi
  head := ⟨rfl, rfl, rfl, rfl, rfl⟩
  last := rfl
  data := by simp [jnData]
  many := by simp
  tot := by
    have : iqTot [q] = iqSz q := by simp [iqTot, totV]
    rw [this]; unfold iqSz; have := hq.opts; simp; omega
  one := by simp [h]
theorem frAll_cons {c : ByteArray} {mtu : Int} {q : IpV} {L : List IpV} (hm : 68 ≤ mtu) (hq : IpFacts q) (h : mtu < frSize q) (hL : FrAll mtu (frMove c mtu q) L) : FrAll mtu q (frHead mtu q :: L) := by
  obtain ⟨hf, hz, hw, hs⟩ := frHead_facts hm hq h
  have hr := frRoom_in hm hq.opts.1 h
  have hms := frMove_size (c := c) (mtu := mtu) (p := q)
  have hpos := hL.pos
  refine ⟨by simp, ?_, ?_, ⟨rfl, rfl, rfl, rfl, rfl⟩, ?_, ?_, ?_, ?_, ?_⟩
  · intro i hi
    cases i with
    | zero => exact ⟨hf, hz, rfl, rfl, rfl, rfl⟩
    | succ i => rw [iqA_succ]; exact hL.each i (by simpa using hi)
  · intro i hi
    cases i with
    | zero =>
      rw [iqA_zero, iqA_succ, hL.head.1]
      refine ⟨rfl, ?_, hw⟩
      rw [hs]
      show 8 * (q.off + (frRoom mtu q : Int) / 8) = 8 * q.off + _
      omega
    | succ i => rw [iqA_succ, iqA_succ]; exact hL.next i (by simpa using hi)
  · have e : (frHead mtu q :: L).length - 1 = (L.length - 1) + 1 := by simp; omega
    rw [e, iqA_succ, hL.last]; rfl
  · have : jnData (frHead mtu q :: L) = bl (frHead mtu q).data ++ jnData L := by simp [jnData]
    rw [this, hL.data]
    show bl (q.data.extract 0 (frRoom mtu q)) ++ bl (q.data.extract (frRoom mtu q) q.data.size) = _
    rw [bl_extractF, bl_extractF, List.drop_zero, Nat.sub_zero]
    conv => rhs; rw [← List.take_append_drop (frRoom mtu q) (bl q.data)]
    rw [List.take_of_length_le (l := (bl q.data).drop (frRoom mtu q)) (by rw [List.length_drop, bl_length]; omega)]
  · have := hL.many; rw [hms] at this; simp only [List.length_cons]; omega
  · have e : iqTot (frHead mtu q :: L) = iqSz (frHead mtu q) + iqTot L := by simp [iqTot, totV]
    have h1 : iqSz (frHead mtu q) = q.opts.size + frRoom mtu q := by show q.opts.size + (frHead mtu q).data.size = _; rw [hs]
    have h2 := hL.tot
    rw [hms] at h2
    have h3 := hq.opts
    rw [e, h1]; simp only [List.length_cons]; omega
  · constructor
    · intro e; simp at e; rw [e] at hpos; simp at hpos
    · intro e; omega
theorem frSeqF_all {c : ByteArray} {mtu : Int} (hm : 68 ≤ mtu) (hc4 : c.size % 4 = 0) : ∀ f q, q.data.size ≤ f → IpFacts q → c.size ≤ q.opts.size → FrAll mtu q (frSeqF c mtu f q) := by
  intro f
  induction f with
  | zero =>
    intro q hf hq hc
    have : frSize q ≤ mtu := by unfold frSize; have := hq.opts; omega
    exact frAll_one hq this
  | succ f ih =>
    intro q hf hq hc
    unfold frSeqF
    by_cases h : frSize q ≤ mtu
    · rw [if_pos h]; exact frAll_one hq h
    · rw [if_neg h]
      have hr := frRoom_in hm hq.opts.1 (show mtu < frSize q by omega)
      have hms := frMove_size (c := c) (mtu := mtu) (p := q)
      exact frAll_cons hm hq (by omega) (ih _ (by omega) (frMove_facts hm hq (by omega) hc hc4) (Nat.le_refl _))
theorem cpText_more {t : ByteArray} (h4 : t.size % 4 = 0) : (cpText t).size ≤ t.size ∧ (cpText t).size % 4 = 0 := by
  unfold cpText
  split
  · rw [str_size]
    have := cpBytes_len t _ (List.prefix_refl (oSeq t))
    unfold pad4
    rw [List.length_append, List.length_replicate]
    omega
  · exact ⟨Nat.zero_le _, rfl⟩
theorem frL_all {p : IpV} {mtu : Int} (h : frC p mtu = 0) : FrAll mtu p (frL p mtu) ∧ IpFacts p ∧ 68 ≤ mtu ∧ mtu ≤ 65535 := by
  have hk : frOk p mtu = true := by
    cases hk : frOk p mtu
    · unfold frC at h; rw [hk] at h; simp at h
    · rfl
  unfold frOk at hk
  rw [Bool.and_eq_true] at hk
  have hq := (ipOk_iff p).1 hk.1
  have hm : 68 ≤ mtu ∧ mtu ≤ 65535 := by have := hk.2; unfold inB at this; simp at this; exact this
  obtain ⟨h1, h2⟩ := cpText_more hq.opts.2
  refine ⟨?_, hq, hm⟩
  unfold frL
  rw [if_pos h]
  exact frSeqF_all hm.1 h2 _ p (Nat.le_refl _) hq h1
theorem FrAll.tiles {mtu : Int} {q : IpV} {L : List IpV} (h : FrAll mtu q L) : tlOk L = true := by
  rw [tlOk_yes]
  · simpa using h.pos
  · intro i hi
    have h1 := h.each i hi
    have h0 := h.each 0 h.pos
    refine tlOne_iff.2 ⟨(ipOk_iff _).2 h1.1, sameFl_iff.2 ⟨h1.2.2.1.trans h0.2.2.1.symm, h1.2.2.2.1.trans h0.2.2.2.1.symm, h1.2.2.2.2.1.trans h0.2.2.2.2.1.symm, h1.2.2.2.2.2.trans h0.2.2.2.2.2.symm⟩, ?_⟩
    cases i with
    | zero => exact .inl rfl
    | succ i =>
      have := h.next i hi
      exact .inr (nextB_iff.2 ⟨this.1, this.2.1⟩)
theorem FrAll.joined {mtu : Int} {q : IpV} {L : List IpV} (h : FrAll mtu q L) (hq : IpFacts q) : jnOk L = true ∧ jnV L = q := by
  have h0 := h.each 0 h.pos
  have e : jnW L = q := by
    unfold jnW
    rw [h.head.1, h.head.2.1, h.head.2.2.1, h.head.2.2.2.1, h.head.2.2.2.2, h.last, h.data, h0.2.2.1, h0.2.2.2.1, h0.2.2.2.2.1, h0.2.2.2.2.2, str_bl]
  have ok : jnOk L = true := by unfold jnOk; rw [h.tiles, e, (ipOk_iff q).2 hq]; rfl
  exact ⟨ok, by unfold jnV; rw [ok]; exact e⟩
theorem ipText_size {p : IpV} (h : IpFacts p) : ((ipText p).length : Int) = frSize p := by
  unfold ipText
  rw [if_pos ((ipOk_iff p).2 h)]
  unfold ipBytes
  rw [List.length_append, ipHead_length, bl_length]; unfold frSize; omega
end Go.Proofs.Ytgfpoohjbgdcpaa
