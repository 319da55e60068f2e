/-
  Contracts of the bytes of a datagram, of the program and of the model.
-/
import Derived.Test.YteflhnmoceppgaaDoorIps2
import Derived.Test.YteflhnmoceppgaaDoorWalks2
namespace Go.Proofs.YteflhnmoceppgaaDoor
open Go.RowKit Go.PlainAid
/-- block b holds these values -/
def Bx (W : World) (b : Nat) (vs : List Value) : Prop := b < W.heap.size ∧ ∀ i v, vs[i]? = some v → W.cell? ⟨b, i, none⟩ = some v
theorem Bx.below {W W' : World} {b : Nat} {vs : List Value} (h : Bx W b vs) (hb : Below W.heap.size W W') : Bx W' b vs :=
  ⟨Nat.lt_of_lt_of_le h.1 hb.size, fun i v hv => (hb.cell (p := ⟨b, i, none⟩) h.1).trans (h.2 i v hv)⟩
theorem Bx.new (W : World) (vs : Array Value) (t : TypeId) : Bx (W.alloc (.cells vs t)) W.heap.size vs.toList :=
  ⟨by simp, fun i v hv => by rw [World.cell?_alloc_mark]; simpa using hv⟩
theorem Bx.ofBW {W : World} {b : Nat} {vs : List Value} (h : Bx W b vs) (u : BW W) : Bx u.u b vs := h.below u.le

def ipFlags (p : IpV) : Int := p.off + (if p.df then 16384 else 0) + (if p.mf then 8192 else 0)
def ipA (p : IpV) : List UInt8 := be 1 (64 + (20 + (p.opts.size : Int)) / 4) ++ be 1 p.tos ++ be 2 (20 + (p.opts.size : Int) + (p.data.size : Int)) ++ be 2 p.id ++ be 2 (ipFlags p) ++ be 1 p.ttl ++ be 1 p.pro
def ipB (p : IpV) : List UInt8 := be 4 p.src ++ be 4 p.dst ++ bl p.opts
def ipHead (p : IpV) (sum : Int) : List UInt8 := ipA p ++ be 2 sum ++ ipB p
def ipBytes (p : IpV) : List UInt8 := ipHead p (sumOf (ipHead p 0)) ++ bl p.data
def ipText (p : IpV) : List UInt8 := if ipOk p then ipBytes p else []
theorem ipA_length (p : IpV) : (ipA p).length = 10 := by simp only [ipA, List.length_append, be_length]
theorem ipB_length (p : IpV) : (ipB p).length = 8 + p.opts.size := by simp only [ipB, List.length_append, be_length, bl_length]
theorem ipHead_length (p : IpV) (s : Int) : (ipHead p s).length = 20 + p.opts.size := by simp only [ipHead, List.length_append, be_length, ipA_length, ipB_length]; omega
structure IpFacts (p : IpV) : Prop where
  tos : 0 ≤ p.tos ∧ p.tos ≤ 255
  id : 0 ≤ p.id ∧ p.id ≤ 65535
  ttl : 0 ≤ p.ttl ∧ p.ttl ≤ 255
  pro : 0 ≤ p.pro ∧ p.pro ≤ 255
  src : 0 ≤ p.src ∧ p.src ≤ 4294967295
  dst : 0 ≤ p.dst ∧ p.dst ≤ 4294967295
  opts : p.opts.size ≤ 40 ∧ p.opts.size % 4 = 0
  off : 0 ≤ p.off ∧ p.off ≤ 8191
  len : 20 + p.opts.size + p.data.size ≤ 65535
  last : 8 * p.off + (p.data.size : Int) ≤ 65515
  mul : p.mf = true → p.data.size % 8 = 0
theorem ipOk_iff (p : IpV) : ipOk p = true ↔ IpFacts p := by
  constructor
  · intro h
    simp only [ipOk, byteB, inB, addrB, optsB, placeB, lenB, endB, mulB, Bool.and_eq_true, decide_eq_true_eq, Bool.or_eq_true, Bool.not_eq_true'] at h
    obtain ⟨⟨⟨⟨⟨⟨⟨h1, h2⟩, h3⟩, h4⟩, h5⟩, h6⟩, h7⟩, ⟨⟨h8, h9⟩, h10⟩, h11⟩ := h
    exact ⟨h1, h2, h3, h4, h5, h6, h7, h8, h9, h10, fun hm => by rcases h11 with h | h; (· rw [hm] at h; cases h); (· exact h)⟩
  · intro h
    simp only [ipOk, byteB, inB, addrB, optsB, placeB, lenB, endB, mulB, Bool.and_eq_true, decide_eq_true_eq, Bool.or_eq_true, Bool.not_eq_true']
    refine ⟨⟨⟨⟨⟨⟨⟨h.tos, h.id⟩, h.ttl⟩, h.pro⟩, h.src⟩, h.dst⟩, h.opts⟩, ⟨⟨h.off, h.len⟩, h.last⟩, ?_⟩
    cases e : p.mf
    · exact .inl rfl
    · exact .inr (h.mul e)
theorem str_app_bl (a : List UInt8) (s : ByteArray) : str a ++ s = str (a ++ bl s) := by rw [← str_app, str_bl]
theorem bits_or_nat (a b : Nat) (ha : a < 2 ^ 62) (hb : b < 2 ^ 62) : bits .or .i64 (a : Int) (b : Int) = ((a ||| b : Nat) : Int) := by
  simp only [bits, BitVec.ofInt_natCast, BitVec.toNat_or, BitVec.toNat_ofNat]
  have q1 : a % 2 ^ IntKind.bits .i64 = a := Nat.mod_eq_of_lt (Nat.lt_of_lt_of_le ha (by decide))
  have q2 : b % 2 ^ IntKind.bits .i64 = b := Nat.mod_eq_of_lt (Nat.lt_of_lt_of_le hb (by decide))
  rw [q1, q2]
  have := Nat.or_lt_two_pow ha hb
  exact wraps_i64 _ (by omega) (by omega)
theorem or_flags (a : Nat) (h : a ≤ 8191) : a ||| 16384 = a + 16384 ∧ a ||| 8192 = a + 8192 ∧ (a + 16384) ||| 8192 = a + 16384 + 8192 := by
  have e1 := Nat.two_pow_add_eq_or_of_lt (i := 14) (b := a) (by omega) 1
  have e2 := Nat.two_pow_add_eq_or_of_lt (i := 13) (b := a) (by omega) 1
  have e3 := Nat.two_pow_add_eq_or_of_lt (i := 13) (b := a) (by omega) 3
  have e4 : (16384 : Nat) ||| 8192 = 24576 := by decide
  simp only [Nat.reducePow, Nat.reduceMul] at e1 e2 e3
  refine ⟨by rw [Nat.or_comm, ← e1]; omega, by rw [Nat.or_comm, ← e2]; omega, ?_⟩
  have e5 : a + 16384 = 16384 ||| a := by rw [← e1]; omega
  rw [e5, Nat.or_assoc, Nat.or_comm a 8192, ← Nat.or_assoc, e4, ← e3, ← e1]; omega
theorem or_16384 {x : Int} (h₀ : 0 ≤ x) (h₁ : x ≤ 8191) : bits .or .i64 x 16384 = x + 16384 := by
  obtain ⟨a, rfl⟩ := Int.eq_ofNat_of_zero_le h₀
  have := bits_or_nat a 16384 (by omega) (by decide)
  rw [(or_flags a (by omega)).1] at this
  simpa using this
theorem or_8192 {x : Int} (h₀ : 0 ≤ x) (h₁ : x ≤ 8191) : bits .or .i64 x 8192 = x + 8192 := by
  obtain ⟨a, rfl⟩ := Int.eq_ofNat_of_zero_le h₀
  have := bits_or_nat a 8192 (by omega) (by decide)
  rw [(or_flags a (by omega)).2.1] at this
  simpa using this
theorem or_8192b {x : Int} (h₀ : 0 ≤ x) (h₁ : x ≤ 8191) : bits .or .i64 (x + 16384) 8192 = x + 16384 + 8192 := by
  obtain ⟨a, rfl⟩ := Int.eq_ofNat_of_zero_le h₀
  have := bits_or_nat (a + 16384) 8192 (by omega) (by decide)
  rw [(or_flags a (by omega)).2.2] at this
  simpa using this
theorem ipFlags_bd {p : IpV} (h : IpFacts p) : 0 ≤ ipFlags p ∧ ipFlags p ≤ 32767 := by
  have := h.off
  unfold ipFlags
  split <;> split <;> omega
end Go.Proofs.YteflhnmoceppgaaDoor
