/-
  The pieces of a datagram, plainly.
-/
import Derived.Test.YtgfpoohjbgdcpaaCop3
import Derived.Test.YtgfpoohjbgdcpaaTabIp
import Derived.Test.YtgfpoohjbgdcpaaRdr
namespace Go.Proofs.Ytgfpoohjbgdcpaa
open Go.RowKit Go.PlainAid
def frSize (p : IpV) : Int := 20 + (p.opts.size : Int) + (p.data.size : Int)
/-- how many bytes a piece ahead of others has -/
def frRoom (mtu : Int) (p : IpV) : Nat := ((mtu - (20 + (p.opts.size : Int))) / 8 * 8).toNat
def frHead (mtu : Int) (p : IpV) : IpV := ⟨p.tos, p.id, p.df, true, p.off, p.ttl, p.pro, p.src, p.dst, p.opts, p.data.extract 0 (frRoom mtu p)⟩
def frMove (c : ByteArray) (mtu : Int) (p : IpV) : IpV := ⟨p.tos, p.id, p.df, p.mf, p.off + (frRoom mtu p : Int) / 8, p.ttl, p.pro, p.src, p.dst, c, p.data.extract (frRoom mtu p) p.data.size⟩
def frSeqF (c : ByteArray) (mtu : Int) : Nat → IpV → List IpV
  | 0, p => [p]
  | f + 1, p => if frSize p ≤ mtu then [p] else frHead mtu p :: frSeqF c mtu f (frMove c mtu p)
def frSeq (c : ByteArray) (mtu : Int) (p : IpV) : List IpV := frSeqF c mtu p.data.size p
theorem frRoom_in {mtu : Int} {p : IpV} (hm : 68 ≤ mtu) (ho : p.opts.size ≤ 40) (h : mtu < frSize p) : 8 ≤ frRoom mtu p ∧ frRoom mtu p < p.data.size ∧ frRoom mtu p % 8 = 0 ∧ ((frRoom mtu p : Nat) : Int) = (mtu - (20 + (p.opts.size : Int))) / 8 * 8 := by
  unfold frSize at h; unfold frRoom; omega
theorem frMove_size {c : ByteArray} {mtu : Int} {p : IpV} : (frMove c mtu p).data.size = p.data.size - frRoom mtu p := by
  show (p.data.extract (frRoom mtu p) p.data.size).size = _
  rw [ByteArray.size_extract]; omega
theorem frSeqF_fuel (c : ByteArray) (mtu : Int) (hm : 68 ≤ mtu) (hc : c.size ≤ 40) : ∀ f f' p, p.opts.size ≤ 40 → p.data.size ≤ f → p.data.size ≤ f' → frSeqF c mtu f p = frSeqF c mtu f' p := by
  intro f
  induction f with
  | zero =>
    intro f' p ho h h'
    cases f' with
    | zero => rfl
    | succ f' =>
      have : frSize p ≤ mtu := by unfold frSize; omega
      simp [frSeqF, this]
  | succ f ih =>
    intro f' p ho h h'
    cases f' with
    | zero =>
      have : frSize p ≤ mtu := by unfold frSize; omega
      simp [frSeqF, this]
    | succ f' =>
      unfold frSeqF
      by_cases hz : frSize p ≤ mtu
      · rw [if_pos hz, if_pos hz]
      · rw [if_neg hz, if_neg hz]
        have hr := frRoom_in hm ho (by omega)
        have hs := frMove_size (c := c) (mtu := mtu) (p := p)
        rw [ih f' (frMove c mtu p) hc (by omega) (by omega)]
theorem frSeq_end {c : ByteArray} {mtu : Int} {p : IpV} (h : frSize p ≤ mtu) : frSeq c mtu p = [p] := by
  unfold frSeq
  cases p.data.size with
  | zero => rfl
  | succ f => simp [frSeqF, h]
theorem frSeq_go {c : ByteArray} {mtu : Int} {p : IpV} (hm : 68 ≤ mtu) (hc : c.size ≤ 40) (ho : p.opts.size ≤ 40) (h : mtu < frSize p) : frSeq c mtu p = frHead mtu p :: frSeq c mtu (frMove c mtu p) := by
  have hr := frRoom_in hm ho h
  have hs := frMove_size (c := c) (mtu := mtu) (p := p)
  unfold frSeq
  obtain ⟨f, hf⟩ : ∃ f, p.data.size = f + 1 := ⟨p.data.size - 1, by omega⟩
  conv => lhs; rw [hf]; unfold frSeqF
  rw [if_neg (by omega)]
  rw [frSeqF_fuel c mtu hm hc f (frMove c mtu p).data.size _ hc (by omega) (Nat.le_refl _)]
/-- what is left of p behind its first k bytes -/
def frAt (c : ByteArray) (p : IpV) (k : Nat) : IpV := ⟨p.tos, p.id, p.df, p.mf, p.off + (k : Int) / 8, p.ttl, p.pro, p.src, p.dst, if k = 0 then p.opts else c, p.data.extract k p.data.size⟩
theorem bl_extractF (s : ByteArray) (a b : Nat) : bl (s.extract a b) = ((bl s).drop a).take (b - a) := by
  have := str_extract (bl s) a b
  rw [str_bl] at this
  rw [this]
theorem bl_same {s t : ByteArray} (h : bl s = bl t) : s = t := ByteArray.ext (Array.toList_inj.1 h)
theorem extract_twice (s : ByteArray) (k n : Nat) (h : k + n ≤ s.size) : (s.extract k s.size).extract n (s.extract k s.size).size = s.extract (k + n) s.size := by
  refine bl_same ?_
  rw [bl_extractF, bl_extractF, bl_extractF, ByteArray.size_extract]
  rw [Nat.min_self, List.drop_take]
  simp only [List.drop_drop, List.take_take]
  congr 1
  omega
theorem frAt_zero (c : ByteArray) (p : IpV) : frAt c p 0 = p := by
  obtain ⟨tos, id, df, mf, off, ttl, pro, src, dst, opts, data⟩ := p
  simp [frAt]
theorem frAt_move (c : ByteArray) (mtu : Int) (p : IpV) (k : Nat) (h8 : k % 8 = 0) (hm : 68 ≤ mtu) (hc : c.size ≤ 40) (ho : p.opts.size ≤ 40) (hk : k ≤ p.data.size) (h : mtu < frSize (frAt c p k)) : frMove c mtu (frAt c p k) = frAt c p (k + frRoom mtu (frAt c p k)) := by
  have hoo : (frAt c p k).opts.size ≤ 40 := by show (if k = 0 then p.opts else c).size ≤ 40; split <;> omega
  have hr := frRoom_in hm hoo h
  have hs : (frAt c p k).data.size = p.data.size - k := by show (p.data.extract k p.data.size).size = _; rw [ByteArray.size_extract]; omega
  generalize hrr : frRoom mtu (frAt c p k) = r at *
  unfold frMove
  rw [hrr]
  show IpV.mk _ _ _ _ _ _ _ _ _ _ _ = IpV.mk _ _ _ _ _ _ _ _ _ _ _
  have e1 : (frAt c p k).off + (r : Int) / 8 = p.off + ((k + r : Nat) : Int) / 8 := by show p.off + (k : Int) / 8 + (r : Int) / 8 = _; omega
  have e2 : (frAt c p k).data.extract r (frAt c p k).data.size = p.data.extract (k + r) p.data.size := extract_twice p.data k r (by omega)
  rw [e1, e2, if_neg (by omega)]
  rfl
def frOk (p : IpV) (mtu : Int) : Bool := ipOk p && inB mtu 68 65535
/-- the answer: its pieces and its code -/
def frC (p : IpV) (mtu : Int) : Int := if frOk p mtu then (if frSize p ≤ mtu then 0 else if p.df then 2 else if cpOk p.opts then 0 else 3) else 1
def frL (p : IpV) (mtu : Int) : List IpV := if frC p mtu = 0 then frSeq (cpText p.opts) mtu p else []
end Go.Proofs.Ytgfpoohjbgdcpaa
