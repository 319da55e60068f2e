/-
  Datagrams by plain mathematics: what is written comes back; a hop; a byte changed; a byte more or less.
-/
import Derived.Test.YtgknkhhoelgnhaaDoorIpRd8
namespace Go.Proofs.YtgknkhhoelgnhaaDoor
open Go.RowKit Go.PlainAid
/-- the bytes of a datagram with this sum -/
def ipT (p : IpV) (x : Int) : List UInt8 := ipHead p x ++ bl p.data
theorem ipT_length (p : IpV) (x : Int) : (ipT p x).length = 20 + p.opts.size + p.data.size := by
  rw [ipT, List.length_append, ipHead_length, bl_length]
theorem ipBytes_eq (p : IpV) : ipBytes p = ipT p (sumOf (ipHead p 0)) := rfl
theorem ipT_all (p : IpV) (x : Int) : ipT p x = be 1 (64 + (20 + (p.opts.size : Int)) / 4) ++ (be 1 p.tos ++ (be 2 (20 + (p.opts.size : Int) + (p.data.size : Int)) ++ (be 2 p.id ++ (be 2 (ipFlags p) ++ (be 1 p.ttl ++ (be 1 p.pro ++ (be 2 x ++ (be 4 p.src ++ (be 4 p.dst ++ (bl p.opts ++ bl p.data)))))))))) := by
  simp only [ipT, ipHead, ipA, ipB, List.append_assoc]
theorem fld_sk (j : Nat) (n : Int) (L : List UInt8) (x k : Int) (h : (j : Int) ≤ x) : fld (str (be j n ++ L)) x k = fld (str L) (x - j) k := by
  unfold fld
  rw [bl_str, bl_str]
  have e : x.toNat = (be j n).length + (x - j).toNat := by rw [be_length]; omega
  rw [e, ← List.drop_drop, List.drop_left]
theorem fld_be0 (j : Nat) (n : Int) (L : List UInt8) (h0 : 0 ≤ n) (h1 : n < 256 ^ j) : fld (str (be j n ++ L)) 0 (j : Int) = n := by
  unfold fld
  rw [bl_str, Int.toNat_natCast]
  have : (be j n ++ L).take j = be j n := List.take_left' (be_length j n)
  rw [show (0 : Int).toNat = 0 from rfl, List.drop_zero, this, num_be j n h0 h1]
theorem ipT_fields (p : IpV) (h : IpFacts p) (x : Int) (hx : 0 ≤ x ∧ x ≤ 65535) (R : List UInt8) :
    fld (str (ipT p x ++ R)) 0 1 = 64 + (20 + (p.opts.size : Int)) / 4 ∧ fld (str (ipT p x ++ R)) 1 1 = p.tos ∧ fld (str (ipT p x ++ R)) 2 2 = 20 + (p.opts.size : Int) + (p.data.size : Int) ∧ fld (str (ipT p x ++ R)) 4 2 = p.id ∧ fld (str (ipT p x ++ R)) 6 2 = ipFlags p ∧ fld (str (ipT p x ++ R)) 8 1 = p.ttl ∧ fld (str (ipT p x ++ R)) 9 1 = p.pro ∧ fld (str (ipT p x ++ R)) 10 2 = x ∧ fld (str (ipT p x ++ R)) 12 4 = p.src ∧ fld (str (ipT p x ++ R)) 16 4 = p.dst := by
  have hf := ipFlags_bd h
  obtain ⟨h1, h2, h3, h4, h5, h6, h7, h8, h9, h10, _⟩ := h
  rw [ipT_all]
  simp only [List.append_assoc]
  refine ⟨?_, ?_, ?_, ?_, ?_, ?_, ?_, ?_, ?_, ?_⟩
  · exact fld_be0 1 _ _ (by omega) (by omega)
  · rw [fld_sk 1 _ _ _ _ (by decide)]; exact fld_be0 1 _ _ (by omega) (by omega)
  · rw [fld_sk 1 _ _ _ _ (by decide), fld_sk 1 _ _ _ _ (by decide)]; exact fld_be0 2 _ _ (by omega) (by omega)
  · rw [fld_sk 1 _ _ _ _ (by decide), fld_sk 1 _ _ _ _ (by decide), fld_sk 2 _ _ _ _ (by decide)]; exact fld_be0 2 _ _ (by omega) (by omega)
  · rw [fld_sk 1 _ _ _ _ (by decide), fld_sk 1 _ _ _ _ (by decide), fld_sk 2 _ _ _ _ (by decide), fld_sk 2 _ _ _ _ (by decide)]; exact fld_be0 2 _ _ (by omega) (by omega)
  · rw [fld_sk 1 _ _ _ _ (by decide), fld_sk 1 _ _ _ _ (by decide), fld_sk 2 _ _ _ _ (by decide), fld_sk 2 _ _ _ _ (by decide), fld_sk 2 _ _ _ _ (by decide)]; exact fld_be0 1 _ _ (by omega) (by omega)
  · rw [fld_sk 1 _ _ _ _ (by decide), fld_sk 1 _ _ _ _ (by decide), fld_sk 2 _ _ _ _ (by decide), fld_sk 2 _ _ _ _ (by decide), fld_sk 2 _ _ _ _ (by decide), fld_sk 1 _ _ _ _ (by decide)]; exact fld_be0 1 _ _ (by omega) (by omega)
  · rw [fld_sk 1 _ _ _ _ (by decide), fld_sk 1 _ _ _ _ (by decide), fld_sk 2 _ _ _ _ (by decide), fld_sk 2 _ _ _ _ (by decide), fld_sk 2 _ _ _ _ (by decide), fld_sk 1 _ _ _ _ (by decide), fld_sk 1 _ _ _ _ (by decide)]; exact fld_be0 2 _ _ (by omega) (by omega)
  · rw [fld_sk 1 _ _ _ _ (by decide), fld_sk 1 _ _ _ _ (by decide), fld_sk 2 _ _ _ _ (by decide), fld_sk 2 _ _ _ _ (by decide), fld_sk 2 _ _ _ _ (by decide), fld_sk 1 _ _ _ _ (by decide), fld_sk 1 _ _ _ _ (by decide), fld_sk 2 _ _ _ _ (by decide)]; exact fld_be0 4 _ _ (by omega) (by omega)
  · rw [fld_sk 1 _ _ _ _ (by decide), fld_sk 1 _ _ _ _ (by decide), fld_sk 2 _ _ _ _ (by decide), fld_sk 2 _ _ _ _ (by decide), fld_sk 2 _ _ _ _ (by decide), fld_sk 1 _ _ _ _ (by decide), fld_sk 1 _ _ _ _ (by decide), fld_sk 2 _ _ _ _ (by decide), fld_sk 4 _ _ _ _ (by decide)]; exact fld_be0 4 _ _ (by omega) (by omega)
theorem flags_df (p : IpV) (h : 0 ≤ p.off ∧ p.off ≤ 8191) : decide (ipFlags p / 16384 % 2 = 1) = p.df ∧ decide (ipFlags p / 8192 % 2 = 1) = p.mf ∧ ipFlags p % 8192 = p.off := by
  unfold ipFlags
  cases p.df <;> cases p.mf <;> simp only [if_true, Bool.false_eq_true, if_false, decide_eq_true_eq, decide_eq_false_iff_not] <;> omega
theorem psum_head (p : IpV) (x : Int) (hx : 0 ≤ x ∧ x ≤ 65535) : psum (ipHead p x) = psum (ipA p) + x + psum (ipB p) := by
  unfold ipHead
  rw [psum_append _ _ (by rw [List.length_append, ipA_length, be_length]), psum_append _ _ (by rw [ipA_length]), psum_be2 hx.1 hx.2]
/-- what is written comes back -/
theorem ipT_back (p : IpV) (h : IpFacts p) (x : Int) (hx : 0 ≤ x ∧ x ≤ 65535) :
    hdr (str (ipT p x)) = 20 + p.opts.size ∧ ipV (str (ipT p x)) = p ∧ bl ((str (ipT p x)).extract 0 (hdr (str (ipT p x)))) = ipHead p x := by
  have hT := ipT_fields p h x hx []
  rw [List.append_nil] at hT
  obtain ⟨f0, f1, f2, f4, f6, f8, f9, f10, f12, f16⟩ := hT
  have hs : (str (ipT p x)).size = 20 + p.opts.size + p.data.size := by rw [str_size, ipT_length]
  have b0 : bt (str (ipT p x)) 0 = _ := (fld_one (str (ipT p x)) 0 (by omega)).symm.trans f0
  have b1 : bt (str (ipT p x)) 1 = _ := (fld_one (str (ipT p x)) 1 (by omega)).symm.trans f1
  have b8 : bt (str (ipT p x)) 8 = _ := (fld_one (str (ipT p x)) 8 (by omega)).symm.trans f8
  have b9 : bt (str (ipT p x)) 9 = _ := (fld_one (str (ipT p x)) 9 (by omega)).symm.trans f9
  have ho := h.opts
  have hh : hdr (str (ipT p x)) = 20 + p.opts.size := by unfold hdr; rw [b0]; omega
  obtain ⟨g1, g2, g3⟩ := flags_df p h.off
  have e1 : (str (ipT p x)).extract 20 (20 + p.opts.size) = p.opts := by
    rw [str_extract]
    have : (ipT p x).drop 20 = bl p.opts ++ bl p.data := by
      have e : ipT p x = (ipA p ++ be 2 x ++ (be 4 p.src ++ be 4 p.dst)) ++ (bl p.opts ++ bl p.data) := by simp only [ipT, ipHead, ipB, List.append_assoc]
      rw [e]
      exact List.drop_left' (by simp only [List.length_append, ipA_length, be_length])
    rw [this, show 20 + p.opts.size - 20 = (bl p.opts).length by rw [bl_length]; omega, List.take_left, str_bl]
  have e2 : (str (ipT p x)).extract (20 + p.opts.size) (str (ipT p x)).size = p.data := by
    rw [str_extract, hs]
    have : (ipT p x).drop (20 + p.opts.size) = bl p.data := List.drop_left' (ipHead_length p x)
    rw [this, List.take_of_length_le (by rw [bl_length]; omega), str_bl]
  refine ⟨hh, ?_, ?_⟩
  · unfold ipV
    rw [hh, e1, e2, b1, b8, b9, f4, f6, f12, f16, g1, g2, g3]
  · rw [hh, str_extract, bl_str, List.drop_zero]
    exact List.take_left' (by rw [ipHead_length]; omega)
theorem ipCode_ok {s : ByteArray} (h : ipCode s = 0) : mhCode s = 0 ∧ ipOk (ipV s) = true ∧ fld s 6 2 < 32768 := by
  have hm : mhCode s = 0 := by
    by_cases hm : mhCode s = 0
    · exact hm
    · have := (mh_code hm).1; omega
  obtain ⟨h20, hb0, hb1, hh, hl, hz⟩ := mh_all hm
  refine ⟨hm, ?_⟩
  unfold ipCode at h
  rw [if_neg (by omega), if_neg (by omega), if_neg (by omega), if_neg (by simpa using hz)] at h
  split at h
  · cases h
  · rename_i hn
    exact ⟨by cases e : ipOk (ipV s) <;> simp_all, by omega⟩
/-- what is written with a sum that fits is a datagram -/
theorem ipT_code (p : IpV) (h : IpFacts p) (x : Int) (hx : 0 ≤ x ∧ x ≤ 65535) (hz : sumOf (ipHead p x) = 0) : ipCode (str (ipT p x)) = 0 := by
  obtain ⟨hh, hv, hb⟩ := ipT_back p h x hx
  have hT := ipT_fields p h x hx []
  rw [List.append_nil] at hT
  obtain ⟨f0, f1, f2, f4, f6, f8, f9, f10, f12, f16⟩ := hT
  have hs : (str (ipT p x)).size = 20 + p.opts.size + p.data.size := by rw [str_size, ipT_length]
  have b0 : bt (str (ipT p x)) 0 = _ := (fld_one (str (ipT p x)) 0 (by omega)).symm.trans f0
  have ho := h.opts
  have hf := ipFlags_bd h
  unfold ipCode
  rw [hb, hz, hv, (ipOk_iff p).2 h, f6, f2, hh, hs, b0]
  rw [if_neg (by omega), if_neg (by omega), if_neg (by omega), if_neg (by simp), if_neg (by simp; omega)]
theorem sum_fits (p : IpV) : sumOf (ipHead p (sumOf (ipHead p 0))) = 0 := by
  have hb := sumOf_bd (ipHead p 0)
  have e := psum_head p _ hb
  have e0 := psum_head p 0 (by decide)
  have n1 := psum_nonneg (ipA p)
  have n2 := psum_nonneg (ipB p)
  show 65535 - fold16 (psum (ipHead p (sumOf (ipHead p 0)))) = 0
  rw [e]
  have : sumOf (ipHead p 0) = 65535 - fold16 (psum (ipHead p 0)) := rfl
  rw [this, e0]
  have := fold16_zero (x := psum (ipA p) + psum (ipB p)) (by omega)
  rw [show psum (ipA p) + 0 + psum (ipB p) = psum (ipA p) + psum (ipB p) by omega, show psum (ipA p) + (65535 - fold16 (psum (ipA p) + psum (ipB p))) + psum (ipB p) = psum (ipA p) + psum (ipB p) + (65535 - fold16 (psum (ipA p) + psum (ipB p))) by omega, this]
  omega
theorem ipBytes_code (p : IpV) (h : IpFacts p) : ipCode (str (ipBytes p)) = 0 ∧ readIp (str (ipBytes p)) = p := by
  have hb := sumOf_bd (ipHead p 0)
  have hc := ipT_code p h _ hb (sum_fits p)
  have hv := (ipT_back p h _ hb).2.1
  rw [← ipBytes_eq] at hc hv
  exact ⟨hc, by unfold readIp; rw [if_pos hc, hv]⟩
/-- what is read is written so -/
theorem read_ipT {s : ByteArray} (h : ipCode s = 0) : bl s = ipT (ipV s) (fld s 10 2) ∧ IpFacts (ipV s) ∧ sumOf (ipHead (ipV s) (fld s 10 2)) = 0 ∧ 20 ≤ s.size := by
  obtain ⟨hm, hk, hf⟩ := ipCode_ok h
  obtain ⟨h20, hb0, hb1, hh, hl, hz⟩ := mh_all hm
  have hA := ipA_read s hm hf
  have hB := ipB_read s hm
  have b10 : be 2 (fld s 10 2) = _ := be_fld s 10 2 (by omega)
  have e : bl s = ipT (ipV s) (fld s 10 2) := by
    unfold ipT ipHead
    rw [List.append_assoc, hB, hA, b10, List.append_assoc]
    have : (bl s).drop 12 = ((bl s).drop 10).drop 2 := by rw [List.drop_drop]
    rw [this, List.take_append_drop, List.take_append_drop]
  refine ⟨e, (ipOk_iff _).1 hk, ?_, h20⟩
  have hb := (ipT_back (ipV s) ((ipOk_iff _).1 hk) (fld s 10 2) (by have := fld_bd2 s 10; omega)).2.2
  rw [← e, str_bl] at hb
  rw [← hb]; exact hz
theorem psum_be11 {a b : Int} (ha : 0 ≤ a ∧ a ≤ 255) (hb : 0 ≤ b ∧ b ≤ 255) : psum (be 1 a ++ be 1 b) = a * 256 + b := by
  simp only [be, List.nil_append, List.cons_append, psum]
  have e1 : (UInt8.ofNat (a % 256).toNat).toNat = (a % 256).toNat := by simp [UInt8.toNat_ofNat']; omega
  have e2 : (UInt8.ofNat (b % 256).toNat).toNat = (b % 256).toNat := by simp [UInt8.toNat_ofNat']; omega
  rw [e1, e2]; omega
theorem be_11 {a b : Int} (_ha : 0 ≤ a ∧ a ≤ 255) (hb : 0 ≤ b ∧ b ≤ 255) : be 2 (a * 256 + b) = be 1 a ++ be 1 b := by
  simp only [be, List.nil_append, List.cons_append]
  rw [show (a * 256 + b) / 256 = a by omega, show (a * 256 + b) % 256 = b % 256 by omega]
theorem psum_ipA {p : IpV} (h : IpFacts p) : psum (ipA p) = (64 + (20 + (p.opts.size : Int)) / 4) * 256 + p.tos + (20 + (p.opts.size : Int) + (p.data.size : Int)) + p.id + ipFlags p + (p.ttl * 256 + p.pro) := by
  have hf := ipFlags_bd h
  obtain ⟨h1, h2, h3, h4, h5, h6, h7, h8, h9, h10, _⟩ := h
  have e : ipA p = be 1 (64 + (20 + (p.opts.size : Int)) / 4) ++ be 1 p.tos ++ (be 2 (20 + (p.opts.size : Int) + (p.data.size : Int)) ++ (be 2 p.id ++ (be 2 (ipFlags p) ++ (be 1 p.ttl ++ be 1 p.pro)))) := by simp only [ipA, List.append_assoc]
  rw [e, psum_append (be 1 (64 + (20 + (p.opts.size : Int)) / 4) ++ be 1 p.tos) _ (by simp only [List.length_append, be_length]), psum_append (be 2 (20 + (p.opts.size : Int) + (p.data.size : Int))) _ (by rw [be_length]), psum_append (be 2 p.id) _ (by rw [be_length]), psum_append (be 2 (ipFlags p)) _ (by rw [be_length]), psum_be11 (by omega) (by omega), psum_be11 (by omega) (by omega), psum_be2 (by omega) (by omega), psum_be2 (by omega) (by omega), psum_be2 (by omega) (by omega)]
  omega
def hopP (s : ByteArray) : IpV := { ipV s with ttl := bt s 8 - 1 }
def hopX (s : ByteArray) : Int := sumFix (fld s 10 2) (fld s 8 2) (fld s 8 2 - 256)
/-- a hop is a datagram with one of Ttl less -/
theorem hop_plain {s : ByteArray} (h : ipCode s = 0) (ht : 1 < bt s 8) :
    IpFacts (hopP s) ∧ hopT s = ipT (hopP s) (hopX s) ∧ (0 ≤ hopX s ∧ hopX s ≤ 65535) ∧ sumOf (ipHead (hopP s) (hopX s)) = 0 := by
  obtain ⟨hs, hF, hz, h20⟩ := read_ipT h
  obtain ⟨hm, _, hf⟩ := ipCode_ok h
  have hA := ipA_read s hm hf
  have hB := ipB_read s hm
  have hb10 := fld_bd2 s 10
  have hb8 := fld_bd2 s 8
  have f82 : fld s 8 2 = bt s 8 * 256 + bt s 9 := by
    have := num_take_succ s 8 1 (by omega)
    rw [show num (((bl s).drop 8).take 1) = bt s 8 from fld_one s 8 (by omega)] at this
    exact this
  have et : (ipV s).ttl = bt s 8 := rfl
  have ep : (ipV s).pro = bt s 9 := rfl
  have ht' := hF.ttl
  have hp' := hF.pro
  rw [et] at ht'
  rw [ep] at hp'
  have hx : 0 ≤ hopX s ∧ hopX s ≤ 65535 := sumFix_bd _ _ _ (by omega) (by omega) (by omega)
  have hF' : IpFacts (hopP s) := ⟨hF.tos, hF.id, by show 0 ≤ bt s 8 - 1 ∧ bt s 8 - 1 ≤ 255; omega, hF.pro, hF.src, hF.dst, hF.opts, hF.off, hF.len, hF.last, hF.mul⟩
  have eA : ipA (hopP s) = (bl s).take 8 ++ be 2 (fld s 8 2 - 256) := by
    have e8 : (ipA (ipV s)).take 8 = (bl s).take 8 := by rw [hA, List.take_take]; rfl
    have e : ∀ p : IpV, ipA p = (be 1 (64 + (20 + (p.opts.size : Int)) / 4) ++ be 1 p.tos ++ be 2 (20 + (p.opts.size : Int) + (p.data.size : Int)) ++ be 2 p.id ++ be 2 (ipFlags p)) ++ (be 1 p.ttl ++ be 1 p.pro) := fun p => by simp only [ipA, List.append_assoc]
    rw [e, List.take_left' (by simp only [List.length_append, be_length])] at e8
    rw [e, ← e8, f82, show bt s 8 * 256 + bt s 9 - 256 = (bt s 8 - 1) * 256 + bt s 9 by omega, be_11 (by omega) (by omega)]
    rfl
  have eT : hopT s = ipT (hopP s) (hopX s) := by
    unfold hopT ipT ipHead
    rw [eA, ← hB]
    simp only [List.append_assoc]
    rfl
  refine ⟨hF', eT, hx, ?_⟩
  have p0 := psum_head (ipV s) (fld s 10 2) (by omega)
  have p1 := psum_head (hopP s) (hopX s) hx
  have a0 := psum_ipA hF
  have a1 := psum_ipA hF'
  have n0 := psum_nonneg (ipB (ipV s))
  have eB : ipB (hopP s) = ipB (ipV s) := rfl
  have ef : ipFlags (hopP s) = ipFlags (ipV s) := rfl
  have eo : (hopP s).opts = (ipV s).opts := rfl
  have ed : (hopP s).data = (ipV s).data := rfl
  have e1 : (hopP s).tos = (ipV s).tos := rfl
  have e2 : (hopP s).id = (ipV s).id := rfl
  have e3 : (hopP s).pro = bt s 9 := rfl
  have e4 : (hopP s).ttl = bt s 8 - 1 := rfl
  rw [eB, a1, ef, eo, ed, e1, e2, e3, e4] at p1
  rw [a0, et, ep] at p0
  have g1 := hF.tos
  have g2 := hF.id
  have g3 := ipFlags_bd hF
  have hzz : fold16 (psum (ipHead (ipV s) (fld s 10 2))) = 65535 := by have : 65535 - fold16 (psum (ipHead (ipV s) (fld s 10 2))) = 0 := hz; omega
  show 65535 - fold16 (psum (ipHead (hopP s) (hopX s))) = 0
  have hX : hopX s = 65535 - fold16 (65535 - fld s 10 2 + (65535 - fld s 8 2) + (fld s 8 2 - 256)) := by
    unfold hopX
    exact sumFix_ok (inB_true (by omega) (by omega)) (inB_true (by omega) (by omega)) (inB_true (by omega) (by omega))
  rw [p0] at hzz
  rw [p1]
  rw [f82] at hX
  generalize (ipV s).opts.size = o at *
  generalize (ipV s).data.size = dd at *
  generalize hopX s = X at *
  generalize psum (ipB (ipV s)) = B at *
  generalize ipFlags (ipV s) = fl at *
  generalize (ipV s).tos = t1 at *
  generalize (ipV s).id = t2 at *
  generalize fld s 10 2 = S at *
  generalize bt s 8 = T at *
  generalize bt s 9 = Q at *
  clear p0 p1 a0 a1 eB ef eo ed e1 e2 e3 e4 eT eA hF' hF hA hB hs hz f82 et ep
  generalize hM : (64 + (20 + (o : Int)) / 4) * 256 + t1 + (20 + (o : Int) + (dd : Int)) + t2 + fl = M at *
  have hM0 : 256 ≤ M := by omega
  clear hM
  unfold fold16 at hX hzz ⊢
  split at hX <;> split at hzz <;> split <;> omega
theorem hop_read {s : ByteArray} (h : ipCode s = 0) (ht : 1 < bt s 8) : ipCode (str (hopT s)) = 0 ∧ readIp (str (hopT s)) = hopP s := by
  obtain ⟨hF, hT, hx, hz⟩ := hop_plain h ht
  have hc := ipT_code _ hF _ hx hz
  have hv := (ipT_back _ hF _ hx).2.1
  rw [← hT] at hc hv
  exact ⟨hc, by unfold readIp; rw [if_pos hc, hv]⟩
end Go.Proofs.YtgknkhhoelgnhaaDoor
