/-
  Pieces of pieces, plainly.
-/
import Derived.Test.YtgfpoohjbgdcpaaFrp1
import Derived.Test.YtgfpoohjbgdcpaaCpd1
namespace Go.Proofs.Ytgfpoohjbgdcpaa
open Go.RowKit Go.PlainAid
theorem frSeqF_fin {c : ByteArray} {mtu : Int} (hm : 68 ≤ mtu) (hc4 : c.size % 4 = 0) : ∀ f q, q.data.size ≤ f → IpFacts q → c.size ≤ q.opts.size →
    ipEnd (iqA (frSeqF c mtu f q) ((frSeqF c mtu f q).length - 1)) = ipEnd q ∧ ∀ i, i < (frSeqF c mtu f q).length → (iqA (frSeqF c mtu f q) i).df = q.df ∧ ((iqA (frSeqF c mtu f q) i).opts = q.opts ∨ (iqA (frSeqF c mtu f q) i).opts = c) := by
  intro f
  induction f with
  | zero =>
    intro q hf hq hc
    refine ⟨rfl, fun i hi => ?_⟩
    have : i = 0 := by simpa [frSeqF] using hi
    subst this
    exact ⟨rfl, .inl rfl⟩
  | succ f ih =>
    intro q hf hq hc
    unfold frSeqF
    by_cases h : frSize q ≤ mtu
    · rw [if_pos h]
      refine ⟨rfl, fun i hi => ?_⟩
      have : i = 0 := by simpa using hi
      subst this
      exact ⟨rfl, .inl rfl⟩
    · rw [if_neg h]
      have hr := frRoom_in hm hq.opts.1 (show mtu < frSize q by omega)
      have hms := frMove_size (c := c) (mtu := mtu) (p := q)
      obtain ⟨h1, h2⟩ := ih (frMove c mtu q) (by omega) (frMove_facts hm hq (by omega) hc hc4) (Nat.le_refl _)
      have hpos := (frSeqF_all hm hc4 f (frMove c mtu q) (by omega) (frMove_facts hm hq (by omega) hc hc4) (Nat.le_refl _)).pos
      generalize frSeqF c mtu f (frMove c mtu q) = L at *
      constructor
      · have e : (frHead mtu q :: L).length - 1 = (L.length - 1) + 1 := by simp; omega
        rw [e, iqA_succ, h1]
        unfold ipEnd
        rw [hms]
        show 8 * (q.off + (frRoom mtu q : Int) / 8) + _ = _
        omega
      · intro i hi
        cases i with
        | zero => exact ⟨rfl, .inl rfl⟩
        | succ i =>
          rw [iqA_succ]
          have := h2 i (by simpa using hi)
          exact ⟨this.1, .inr (by rcases this.2 with e | e; exact e; exact e)⟩
/-- what pieces L of q are, whatever they were cut to -/
structure FrT (q : IpV) (L : List IpV) : Prop where
  pos : 0 < L.length
  each : ∀ i, i < L.length → IpFacts (iqA L i) ∧ (iqA L i).src = q.src ∧ (iqA L i).dst = q.dst ∧ (iqA L i).pro = q.pro ∧ (iqA L i).id = q.id
  next : ∀ i, i + 1 < L.length → (iqA L i).mf = true ∧ 8 * (iqA L (i + 1)).off = ipEnd (iqA L i)
  head : (iqA L 0).off = q.off ∧ (iqA L 0).opts = q.opts ∧ (iqA L 0).tos = q.tos ∧ (iqA L 0).df = q.df ∧ (iqA L 0).ttl = q.ttl
  last : (iqA L (L.length - 1)).mf = q.mf
  fin : ipEnd (iqA L (L.length - 1)) = ipEnd q
  data : jnData L = bl q.data
theorem FrAll.t {mtu : Int} {q : IpV} {L : List IpV} (h : FrAll mtu q L) (hf : ipEnd (iqA L (L.length - 1)) = ipEnd q) : FrT q L :=
  ⟨h.pos, fun i hi => ⟨(h.each i hi).1, (h.each i hi).2.2⟩, fun i hi => ⟨(h.next i hi).1, (h.next i hi).2.1⟩, h.head, h.last, hf, h.data⟩
theorem FrT.tiles {q : IpV} {L : List IpV} (h : FrT q L) : tlOk L = true := by
  rw [tlOk_yes]
  · simpa using h.pos
  · intro i hi
    have h1 := h.each i hi
    have h0 := h.each 0 h.pos
    refine tlOne_iff.2 ⟨(ipOk_iff _).2 h1.1, sameFl_iff.2 ⟨h1.2.1.trans h0.2.1.symm, h1.2.2.1.trans h0.2.2.1.symm, h1.2.2.2.1.trans h0.2.2.2.1.symm, h1.2.2.2.2.trans h0.2.2.2.2.symm⟩, ?_⟩
    cases i with
    | zero => exact .inl rfl
    | succ i =>
      have := h.next i hi
      exact .inr (nextB_iff.2 ⟨this.1, this.2⟩)
theorem FrT.joined {q : IpV} {L : List IpV} (h : FrT q L) (hq : IpFacts q) : jnOk L = true ∧ jnV L = q := by
  have h0 := h.each 0 h.pos
  have e : jnW L = q := by
    unfold jnW
    rw [h.head.1, h.head.2.1, h.head.2.2.1, h.head.2.2.2.1, h.head.2.2.2.2, h.last, h.data, h0.2.1, h0.2.2.1, h0.2.2.2.1, h0.2.2.2.2, str_bl]
  have ok : jnOk L = true := by unfold jnOk; rw [h.tiles, e, (ipOk_iff q).2 hq]; rfl
  exact ⟨ok, by unfold jnV; rw [ok]; exact e⟩
theorem iqA_left {a b : List IpV} {i : Nat} (h : i < a.length) : iqA (a ++ b) i = iqA a i := by
  simp [iqA, List.getD, List.getElem?_append_left h]
theorem iqA_right {a b : List IpV} {i : Nat} (h : a.length ≤ i) : iqA (a ++ b) i = iqA b (i - a.length) := by
  simp [iqA, List.getD, List.getElem?_append_right h]
theorem frT_app {q h q' : IpV} {a b : List IpV} (ha : FrT h a) (hb : FrT q' b) (hmf : h.mf = true) (hoff : 8 * q'.off = ipEnd h)
    (e1 : h.off = q.off ∧ h.opts = q.opts ∧ h.tos = q.tos ∧ h.df = q.df ∧ h.ttl = q.ttl ∧ h.src = q.src ∧ h.dst = q.dst ∧ h.pro = q.pro ∧ h.id = q.id)
    (e2 : q'.src = q.src ∧ q'.dst = q.dst ∧ q'.pro = q.pro ∧ q'.id = q.id ∧ q'.mf = q.mf) (hd : bl h.data ++ bl q'.data = bl q.data) (hf : ipEnd q' = ipEnd q) : FrT q (a ++ b) := by
  have pa := ha.pos
  have pb := hb.pos
  have hl : (a ++ b).length = a.length + b.length := List.length_append
  have hlast : iqA (a ++ b) ((a ++ b).length - 1) = iqA b (b.length - 1) := by
    rw [iqA_right (by omega)]; congr 1; omega
  refine ⟨by omega, ?_, ?_, ?_, by rw [hlast, hb.last, e2.2.2.2.2], by rw [hlast, hb.fin, hf], ?_⟩
  · intro i hi
    by_cases hia : i < a.length
    · rw [iqA_left hia]
      obtain ⟨h1, h2, h3, h4, h5⟩ := ha.each i hia
      exact ⟨h1, by rw [h2, e1.2.2.2.2.2.1], by rw [h3, e1.2.2.2.2.2.2.1], by rw [h4, e1.2.2.2.2.2.2.2.1], by rw [h5, e1.2.2.2.2.2.2.2.2]⟩
    · rw [iqA_right (by omega)]
      obtain ⟨h1, h2, h3, h4, h5⟩ := hb.each (i - a.length) (by omega)
      exact ⟨h1, by rw [h2, e2.1], by rw [h3, e2.2.1], by rw [h4, e2.2.2.1], by rw [h5, e2.2.2.2.1]⟩
  · intro i hi
    by_cases h1 : i + 1 < a.length
    · rw [iqA_left h1, iqA_left (by omega)]; exact ha.next i h1
    · by_cases h2 : i + 1 = a.length
      · have e : i = a.length - 1 := by omega
        rw [iqA_left (by omega), iqA_right (by omega), h2, Nat.sub_self, e, ha.last, ha.fin, hb.head.1]
        exact ⟨hmf, hoff⟩
      · rw [iqA_right (by omega), iqA_right (by omega)]
        have := hb.next (i - a.length) (by omega)
        rw [show i + 1 - a.length = i - a.length + 1 by omega]
        exact this
  · rw [iqA_left pa]
    obtain ⟨h1, h2, h3, h4, h5⟩ := ha.head
    exact ⟨by rw [h1, e1.1], by rw [h2, e1.2.1], by rw [h3, e1.2.2.1], by rw [h4, e1.2.2.2.1], by rw [h5, e1.2.2.2.2.1]⟩
  · have : jnData (a ++ b) = jnData a ++ jnData b := by simp [jnData]
    rw [this, ha.data, hb.data, hd]
theorem frT_flat (g : IpV → List IpV) : ∀ (L : List IpV) (q : IpV), FrT q L → (∀ i, i < L.length → FrT (iqA L i) (g (iqA L i))) → FrT q (L.flatMap g) := by
  intro L
  induction L with
  | nil => intro q h; exact absurd h.pos (by simp)
  | cons x t ih =>
    intro q h hg
    have hx := hg 0 (by simp)
    rw [iqA_zero] at hx
    have h0 := h.each 0 (by simp)
    rw [iqA_zero] at h0
    have hh := h.head
    rw [iqA_zero] at hh
    by_cases ht : t = []
    · subst ht
      have e : x = q := by
        have hl := h.last
        have hd := h.data
        rw [show ([x] : List IpV).length - 1 = 0 from rfl, iqA_zero] at hl
        have hd2 : bl x.data = bl q.data := by simpa [jnData] using hd
        obtain ⟨a1, a2, a3, a4, a5, a6, a7, a8, a9, a10, a11⟩ := x
        obtain ⟨b1, b2, b3, b4, b5, b6, b7, b8, b9, b10, b11⟩ := q
        simp only at h0 hh hl hd2 ⊢
        obtain ⟨-, rfl, rfl, rfl, rfl⟩ := h0
        obtain ⟨rfl, rfl, rfl, rfl, rfl⟩ := hh
        subst hl
        rw [bl_same hd2]
      subst e
      simpa using hx
    · have hpos : 0 < t.length := List.length_pos_iff.2 ht
      have hn := h.next 0 (by simp; omega)
      rw [iqA_zero, iqA_succ] at hn
      have hlen : (x :: t).length - 1 = (t.length - 1) + 1 := by simp; omega
      have hfin := h.fin
      have hlast := h.last
      rw [hlen, iqA_succ] at hfin hlast
      have hdat : bl x.data ++ jnData t = bl q.data := by have := h.data; simpa [jnData] using this
      have hq2 : FrT ⟨(iqA t 0).tos, q.id, (iqA t 0).df, q.mf, (iqA t 0).off, (iqA t 0).ttl, q.pro, q.src, q.dst, (iqA t 0).opts, str (jnData t)⟩ t := by
        refine ⟨hpos, fun i hi => ?_, fun i hi => ?_, ⟨rfl, rfl, rfl, rfl, rfl⟩, hlast, ?_, by rw [bl_str]⟩
        · have := h.each (i + 1) (by simpa using hi); rwa [iqA_succ] at this
        · have := h.next (i + 1) (by simpa using hi); rwa [iqA_succ, iqA_succ] at this
        · rw [hfin]
          have hs : (bl x.data).length + (jnData t).length = (bl q.data).length := by rw [← hdat, List.length_append]
          rw [bl_length, bl_length] at hs
          have hz : (str (jnData t)).size = (jnData t).length := str_size _
          have h2 := hn.2
          have h3 := hh.1
          have e1 : ipEnd x = 8 * x.off + (x.data.size : Int) := rfl
          have e2 : ipEnd q = 8 * q.off + (q.data.size : Int) := rfl
          rw [e2]
          show _ = 8 * (iqA t 0).off + ((str (jnData t)).size : Int)
          rw [e1] at h2
          omega
      have := ih _ hq2 (fun i hi => by have := hg (i + 1) (by simpa using hi); rwa [iqA_succ] at this)
      rw [List.flatMap_cons]
      refine frT_app hx this hn.1 hn.2 ⟨hh.1, hh.2.1, hh.2.2.1, hh.2.2.2.1, hh.2.2.2.2, h0.2.1, h0.2.2.1, h0.2.2.2.1, h0.2.2.2.2⟩ ⟨rfl, rfl, rfl, rfl, rfl⟩ (by show bl x.data ++ bl (str (jnData t)) = _; rw [bl_str]; exact hdat) ?_
      · have := hq2.fin
        rw [← this, hfin]
theorem flat_many (g : IpV → List IpV) : ∀ L : List IpV, (∀ x ∈ L, (g x).length * 8 ≤ x.data.size + 8 ∧ iqTot (g x) ≤ x.data.size + 40 * (g x).length) → (L.flatMap g).length * 8 ≤ (jnData L).length + 8 * L.length ∧ iqTot (L.flatMap g) ≤ (jnData L).length + 40 * (L.flatMap g).length := by
  intro L
  induction L with
  | nil => intro _; simp [iqTot, totV]
  | cons x t ih =>
    intro h
    obtain ⟨h1, h2⟩ := ih (fun y hy => h y (List.mem_cons_of_mem _ hy))
    obtain ⟨h3, h4⟩ := h x List.mem_cons_self
    have e1 : (jnData (x :: t)).length = x.data.size + (jnData t).length := by simp [jnData]
    have e2 : iqTot (g x ++ t.flatMap g) = iqTot (g x) + iqTot (t.flatMap g) := totV_app _ _ _
    rw [List.flatMap_cons, e1, e2, List.length_append, List.length_cons]
    omega
theorem iqA_mem {L : List IpV} {x : IpV} (h : x ∈ L) : ∃ i, i < L.length ∧ iqA L i = x := by
  obtain ⟨i, hi, e⟩ := List.getElem_of_mem h
  exact ⟨i, hi, by rw [iqA_eq L i hi, e]⟩
theorem frL_seq {q : IpV} {m : Int} (h : frC q m = 0) : frL q m = frSeqF (cpText q.opts) m q.data.size q := by unfold frL; rw [if_pos h]; rfl
/-- the pieces of pieces of p -/
def frTw (p : IpV) (mtu m2 : Int) : List IpV := (frL p mtu).flatMap fun x => frL x m2
theorem frTw_code {p : IpV} {mtu m2 : Int} (h : frC p mtu = 0) (hdf : p.df = false) (hok : cpOk p.opts = true) (hm2 : 68 ≤ m2) (hm3 : m2 ≤ 65535) (i : Nat) (hi : i < (frL p mtu).length) : frC (iqA (frL p mtu) i) m2 = 0 := by
  obtain ⟨hA, hq, hm0, hm1⟩ := frL_all h
  have hx := (hA.each i hi).1
  obtain ⟨c1, c2⟩ := cpText_more hq.opts.2
  have hd := (frSeqF_fin hm0 c2 p.data.size p (Nat.le_refl _) hq c1).2 i
  have eL := frL_seq h
  rw [← eL] at hd
  obtain ⟨hdi, hoi⟩ := hd hi
  have hk : frOk (iqA (frL p mtu) i) m2 = true := by
    unfold frOk; rw [(ipOk_iff _).2 hx]; unfold inB; simp; omega
  have hcp : cpOk (iqA (frL p mtu) i).opts = true := by
    rcases hoi with e | e
    · rw [e]; exact hok
    · rw [e]; exact (copied_again hok).1
  unfold frC
  rw [hk, hdi, hdf, hcp]
  simp
theorem frTw_all {p : IpV} {mtu m2 : Int} (h : frC p mtu = 0) (hdf : p.df = false) (hok : cpOk p.opts = true) (hm2 : 68 ≤ m2) (hm3 : m2 ≤ 65535) (hd : p.data.size ≤ 4000) :
    jnOk (frTw p mtu m2) = true ∧ jnV (frTw p mtu m2) = p ∧ tlOk (frTw p mtu m2) = true ∧ (frTw p mtu m2).length ≤ 1001 ∧ iqTot (frTw p mtu m2) ≤ 44040 := by
  obtain ⟨hA, hq, hm0, hm1⟩ := frL_all h
  obtain ⟨c1, c2⟩ := cpText_more hq.opts.2
  have eL := frL_seq h
  have hf := (frSeqF_fin hm0 c2 p.data.size p (Nat.le_refl _) hq c1).1
  rw [← eL] at hf
  have hT := hA.t hf
  have hg : ∀ i, i < (frL p mtu).length → FrT (iqA (frL p mtu) i) (frL (iqA (frL p mtu) i) m2) ∧ FrAll m2 (iqA (frL p mtu) i) (frL (iqA (frL p mtu) i) m2) := fun i hi => by
    have hc := frTw_code h hdf hok hm2 hm3 i hi
    obtain ⟨hB, hr, _, _⟩ := frL_all hc
    obtain ⟨d1, d2⟩ := cpText_more hr.opts.2
    have eM := frL_seq hc
    have hf2 := (frSeqF_fin hm2 d2 _ _ (Nat.le_refl _) hr d1).1
    rw [← eM] at hf2
    exact ⟨hB.t hf2, hB⟩
  have hW := frT_flat (fun x => frL x m2) (frL p mtu) p hT (fun i hi => (hg i hi).1)
  obtain ⟨j1, j2⟩ := hW.joined hq
  obtain ⟨m1, m2'⟩ := flat_many (fun x => frL x m2) (frL p mtu) (fun x hx => by
    obtain ⟨i, hi, rfl⟩ := iqA_mem hx
    exact ⟨(hg i hi).2.many, (hg i hi).2.tot⟩)
  have hdl : (jnData (frL p mtu)).length = p.data.size := by rw [hA.data, bl_length]
  have hmn := hA.many
  unfold frTw
  exact ⟨j1, j2, hW.tiles, by omega, by omega⟩
end Go.Proofs.Ytgfpoohjbgdcpaa
