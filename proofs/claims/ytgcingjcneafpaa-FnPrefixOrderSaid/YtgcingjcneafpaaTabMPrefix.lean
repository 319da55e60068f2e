/-
  Rules by the first bits of an address: what may be, what stands ahead, what fits.
-/
import Derived.Laws.StructEq
import Derived.Laws.Tables
import Derived.Test.YtgcingjcneafpaaTabM0
import Derived.Test.YtgcingjcneafpaaIps1
import Derived.Test.YtgcingjcneafpaaTabPrefix
namespace Go.Proofs.Ytgcingjcneafpaa
open Go.RowKit Go.PlainAid
def fb (a b : Int) : Int := a / 2 ^ (32 - b).toNat
def top (a b : Int) : Int := a / 2 ^ (32 - b).toNat * 2 ^ (32 - b).toNat
def maskOf (b : Int) : Int := 4294967296 - 2 ^ (32 - b).toNat
def pfOk (a : PfV) : Bool := addrB a.addr && inB a.bits 0 32 && actB a.act && decide (top a.addr a.bits = a.addr)
def pfLt (a b : PfV) : Bool := decide (a.bits < b.bits ∨ a.bits = b.bits ∧ a.addr < b.addr)
def pfFit (a : PfV) (key : Int) : Bool := addrB key && decide (fb key a.bits = fb a.addr a.bits)
theorem pfOrd : Ord pfLt := by
  refine ⟨fun a => ?_, fun a b c => ?_, fun a b c => ?_⟩
  · simp [pfLt]
  · simp only [pfLt, decide_eq_true_iff]; omega
  · simp only [pfLt, decide_eq_true_iff]; omega
theorem pow_bd {b : Int} (h0 : 0 ≤ b) : (1 : Int) ≤ 2 ^ (32 - b).toNat ∧ (2 : Int) ^ (32 - b).toNat ≤ 4294967296 := by
  have e : (2 : Int) ^ (32 - b).toNat = ((2 ^ (32 - b).toNat : Nat) : Int) := by simp
  have h1 : 1 ≤ 2 ^ (32 - b).toNat := Nat.one_le_two_pow
  have h2 : 2 ^ (32 - b).toNat ≤ 2 ^ 32 := Nat.pow_le_pow_right (by decide) (by omega)
  rw [e]; omega
theorem fb_bd {a b : Int} (h0 : 0 ≤ b) (a0 : 0 ≤ a) : 0 ≤ fb a b ∧ fb a b ≤ a := by
  obtain ⟨p1, _⟩ := pow_bd h0
  unfold fb
  exact ⟨Int.ediv_nonneg a0 (by omega), Int.ediv_le_self _ a0⟩
theorem top_bd {a b : Int} (h0 : 0 ≤ b) (a0 : 0 ≤ a) : 0 ≤ top a b ∧ top a b ≤ a := by
  obtain ⟨p1, _⟩ := pow_bd h0
  unfold top
  exact ⟨Int.mul_nonneg (Int.ediv_nonneg a0 (by omega)) (by omega), Int.ediv_mul_le _ (by omega)⟩
theorem top_top {a b : Int} (h0 : 0 ≤ b) : top (top a b) b = top a b := by
  obtain ⟨p1, _⟩ := pow_bd h0
  unfold top
  rw [Int.mul_ediv_cancel _ (by omega)]
theorem fb_top {a b c : Int} (h0 : 0 ≤ b) (h : top c b = c) : (fb a b = fb c b) = (top a b = c) := by
  obtain ⟨p1, _⟩ := pow_bd h0
  unfold fb top at *
  rw [eq_iff_iff]
  constructor
  · intro e; rw [e]; exact h
  · intro e; rw [← e, Int.mul_ediv_cancel _ (by omega)]
theorem shl_bits (a b : Int) (h0 : 0 ≤ b) (a0 : 0 ≤ a) (a1 : a ≤ 4294967295) : wrap64 (fb a b * 2 ^ (32 - b).toNat) = top a b := by
  have e : fb a b * 2 ^ (32 - b).toNat = top a b := rfl
  rw [e]
  obtain ⟨t0, t1⟩ := top_bd (b := b) h0 a0
  unfold wrap64; omega
theorem nat_mask (x n : Nat) (hx : x < 2 ^ 32) (hn : n ≤ 32) : x &&& (2 ^ 32 - 2 ^ n) = x / 2 ^ n * 2 ^ n := by
  apply Nat.eq_of_testBit_eq
  intro i
  have hp : 2 ^ n - 1 < 2 ^ 32 := Nat.lt_of_lt_of_le (Nat.sub_lt (Nat.two_pow_pos n) (by decide)) (Nat.pow_le_pow_right (by decide) hn)
  have e : 2 ^ 32 - 2 ^ n = 2 ^ 32 - ((2 ^ n - 1) + 1) := by
    have := Nat.two_pow_pos n
    omega
  rw [e, Nat.testBit_and, Nat.testBit_two_pow_sub_succ hp, Nat.testBit_two_pow_sub_one, ← Nat.shiftRight_eq_div_pow, ← Nat.shiftLeft_eq, Nat.testBit_shiftLeft, Nat.testBit_shiftRight]
  by_cases hi : i < n
  · simp [hi, Nat.not_le.mpr hi]
  · by_cases h2 : i < 32
    · have : n + (i - n) = i := by omega
      simp [hi, h2, Nat.not_lt.mp hi, this]
    · have h3 : x.testBit i = false := Nat.testBit_lt_two_pow (Nat.lt_of_lt_of_le hx (Nat.pow_le_pow_right (by decide) (by omega)))
      have : n + (i - n) = i := by omega
      simp [h3, this]
theorem bits_and_nat (a b : Nat) (ha : a < 2 ^ 62) (hb : b < 2 ^ 62) : bits .and .i64 (a : Int) (b : Int) = ((a &&& b : Nat) : Int) := by
  simp only [bits, BitVec.ofInt_natCast, BitVec.toNat_and, BitVec.toNat_ofNat]
  have q1 : a % 2 ^ IntKind.bits .i64 = a := Nat.mod_eq_of_lt (Nat.lt_of_lt_of_le ha (by decide))
  have q2 : b % 2 ^ IntKind.bits .i64 = b := Nat.mod_eq_of_lt (Nat.lt_of_lt_of_le hb (by decide))
  rw [q1, q2]
  have : a &&& b ≤ a := Nat.and_le_left
  exact wraps_i64 _ (by omega) (by omega)
theorem and_mask (a b : Int) (a0 : 0 ≤ a) (a1 : a ≤ 4294967295) (h0 : 0 ≤ b) (_h1 : b ≤ 32) : bits .and .i64 a (maskOf b) = top a b := by
  obtain ⟨x, rfl⟩ := Int.eq_ofNat_of_zero_le a0
  have hn : (32 - b).toNat ≤ 32 := by omega
  unfold maskOf top
  generalize (32 - b).toNat = n at *
  have h1 : 2 ^ n ≤ 2 ^ 32 := Nat.pow_le_pow_right (by decide) hn
  have e : (4294967296 : Int) - 2 ^ n = ((2 ^ 32 - 2 ^ n : Nat) : Int) := by
    rw [Int.ofNat_sub h1]; simp
  have h2 : 2 ^ 32 - 2 ^ n < 2 ^ 62 := Nat.lt_of_le_of_lt (Nat.sub_le _ _) (by decide)
  rw [e, bits_and_nat x _ (by omega) h2, nat_mask x n (by omega) hn]
  simp
set_option maxRecDepth 100000 in
theorem i_areBits (n : Int) (w : World) : Calls Try.prog 62 #[.int .i64 n] w fun e w' => e = .returned (.bool (inB n 0 32)) ∧ w' = w := by
  go_enter Try.func62, Try.ntmps62
  by_cases h0 : 0 ≤ n
  · go_wp2
    go_ret
    exact ⟨ret_bool (by unfold inB; rw [Bool.eq_iff_iff]; simp; omega), rfl⟩
  · go_wp2
    go_ret
    exact ⟨ret_bool (by unfold inB; rw [Bool.eq_iff_iff]; simp; omega), rfl⟩
set_option maxRecDepth 100000 in
theorem i_firstBits (a b : Int) (w : World) (h0 : 0 ≤ b) (h1 : b ≤ 32) : Calls Try.prog 63 #[.int .i64 a, .int .i64 b] w fun e w' => e = .returned (.int .i64 (fb a b)) ∧ w' = w := by
  have hw := wraps_i64 (32 - b) (by omega) (by omega)
  have hs : (0 : Int) ≤ 32 - b := by omega
  go_enter Try.func63, Try.ntmps63
  go_wp2
  go_ret
  exact ⟨rfl, rfl⟩
set_option maxRecDepth 100000 in
theorem s_Mask (b : Int) (w : World) (h0 : 0 ≤ b) (h1 : b ≤ 32) : Calls Try.prog 47 #[.int .i64 b] w fun e w' => e = .returned (.int .i64 (maskOf b)) ∧ w' = w := by
  have hs : (0 : Int) ≤ 32 - b := by omega
  obtain ⟨p0, p1⟩ := pow_bd h0
  have hq : wrap64 (2 ^ (32 - b).toNat) = 2 ^ (32 - b).toNat := by unfold wrap64; omega
  have hr : wrap64 (4294967296 - 2 ^ (32 - b).toNat) = 4294967296 - 2 ^ (32 - b).toNat := by unfold wrap64; omega
  go_enter Try.func47, Try.ntmps47
  go_wp2
  go_ret
  exact ⟨rfl, rfl⟩
set_option maxRecDepth 100000 in
set_option maxHeartbeats 800000 in
theorem i_prefixOf (a b c : Int) (w : World) : Calls Try.prog 42 #[.int .i64 a, .int .i64 b, .int .i64 c] w fun e w' => e = .returned (.agg #[.int .i64 (if addrB a && inB b 0 32 then top a b else a), .int .i64 b, .int .i64 c]) ∧ Below w.heap.size w w' := by
  have CA : Hid (∀ u : World, Calls Try.prog 61 #[.int .i64 a] u fun e w' => e = .returned (.bool (addrB a)) ∧ w' = u) := fun u => i_isAddr a u
  have CB : Hid (∀ u : World, Calls Try.prog 62 #[.int .i64 b] u fun e w' => e = .returned (.bool (inB b 0 32)) ∧ w' = u) := fun u => i_areBits b u
  have hb0 : ∀ cs, Below w.heap.size w (w.alloc (.cells cs 70)) := fun cs => (Below.refl _ w).alloc (Nat.le_refl _) _
  cases ha : addrB a
  · rw [ha] at CA
    go_enter Try.func42, Try.ntmps42
    go_wp2_with (first | (go_at_call 61; refine (CA.out _).mono ?_; rintro e wz ⟨rfl, hz⟩; rw [hz]; clear hz wz))
    refine bodyPost_ret (v := .agg #[.int .i64 a, .int .i64 b, .int .i64 c]) ?_ rfl ⟨rfl, hb0 _⟩
    simp [results, Try.results42, go_sem]
  · rw [ha] at CA
    cases hb : inB b 0 32
    · rw [hb] at CB
      go_enter Try.func42, Try.ntmps42
      go_wp2_with (first | (go_at_call 61; refine (CA.out _).mono ?_; rintro e wz ⟨rfl, hz⟩; rw [hz]; clear hz wz) | (go_at_call 62; refine (CB.out _).mono ?_; rintro e wz ⟨rfl, hz⟩; rw [hz]; clear hz wz))
      refine bodyPost_ret (v := .agg #[.int .i64 a, .int .i64 b, .int .i64 c]) ?_ rfl ⟨rfl, hb0 _⟩
      simp [results, Try.results42, go_sem]
    · rw [hb] at CB
      obtain ⟨a0, a1⟩ := of_inB ha
      obtain ⟨b0, b1⟩ := of_inB hb
      have CF : Hid (∀ u : World, Calls Try.prog 63 #[.int .i64 a, .int .i64 b] u fun e w' => e = .returned (.int .i64 (fb a b)) ∧ w' = u) := fun u => i_firstBits a b u b0 b1
      have hs : (0 : Int) ≤ 32 - b := by omega
      have hw : wrap64 (fb a b * 2 ^ (32 - b).toNat) = top a b := shl_bits a b b0 a0 a1
      generalize fb a b = f at *
      generalize top a b = t at *
      clear ha hb a0 a1
      go_enter Try.func42, Try.ntmps42
      go_wp2_with (first | (go_at_call 61; refine (CA.out _).mono ?_; rintro e wz ⟨rfl, hz⟩; rw [hz]; clear hz wz) | (go_at_call 62; refine (CB.out _).mono ?_; rintro e wz ⟨rfl, hz⟩; rw [hz]; clear hz wz) | (go_at_call 63; refine (CF.out _).mono ?_; rintro e wz ⟨rfl, hz⟩; rw [hz]; clear hz wz))
      refine bodyPost_ret (v := .agg #[.int .i64 t, .int .i64 b, .int .i64 c]) ?_ rfl ⟨rfl, hb0 _⟩
      simp [results, Try.results42, go_sem]
theorem eqPrefix (a b c d e f : Int) (w : World) : (binOp .eql 70 (.agg #[.int .i64 a, .int .i64 b, .int .i64 c]) (.agg #[.int .i64 d, .int .i64 e, .int .i64 f])).run Try.prog w = .ok (.bool (a == d && b == e && c == f)) w := by
  have u3 := Try.underlying2
  have a3 := Try.isAgg2
  have z3 := Try.sizeOf2
  have hS : Try.prog.underlying 70 = some (.struct (Try.prog.fieldsOf 70)) := by kernel_rfl
  have hp : Try.prog.stoodInHeld 70 = false := by kernel_rfl
  rw [run_eql_struct w, show (10000 : Nat) = 9999 + 1 from rfl, run_equalIn_agg w 9999 70 _ _ hS hp]
  simp only [Program.fieldsOf, Try.underlying70]
  go_simp
  by_cases h1 : a = d <;> by_cases h2 : b = e <;> by_cases h3 : c = f <;> simp [h1, h2, h3]
set_option maxRecDepth 100000 in
set_option maxHeartbeats 1600000 in
theorem i_pfRight (a : PfV) (w : World) : Calls Try.prog 112 #[.agg (pfL a)] w fun e w' => e = .returned (.bool (pfOk a)) ∧ Below w.heap.size w w' := by
  have HK : Hid (pfOk a = (addrB a.addr && inB a.bits 0 32 && actB a.act && decide (top a.addr a.bits = a.addr))) := rfl
  obtain ⟨x, y, z⟩ := a
  simp only [pfL] at *
  have CA : Hid (∀ u : World, Calls Try.prog 61 #[.int .i64 x] u fun e w' => e = .returned (.bool (addrB x)) ∧ w' = u) := fun u => i_isAddr x u
  have CB : Hid (∀ u : World, Calls Try.prog 62 #[.int .i64 y] u fun e w' => e = .returned (.bool (inB y 0 32)) ∧ w' = u) := fun u => i_areBits y u
  have CC : Hid (∀ u : World, Calls Try.prog 114 #[.int .i64 z] u fun e w' => e = .returned (.bool (actB z)) ∧ w' = u) := fun u => i_isAct z u
  have CP : Hid (∀ u : World, Calls Try.prog 42 #[.int .i64 x, .int .i64 y, .int .i64 z] u fun e w' => e = .returned (.agg #[.int .i64 (if addrB x && inB y 0 32 then top x y else x), .int .i64 y, .int .i64 z]) ∧ Below u.heap.size u w') := fun u => i_prefixOf x y z u
  have hB := (Below.refl w.heap.size w).alloc (Nat.le_refl _) (.cells #[.int .i64 x, .int .i64 y, .int .i64 z] 70)
  generalize pfOk _ = t at *
  have b0 := fun u : BW (w.alloc (.cells #[.int .i64 x, .int .i64 y, .int .i64 z] 70)) => (u.le.cell (p := ⟨w.heap.size, 0, none⟩) (by simp)).trans (by simp : (w.alloc (.cells #[.int .i64 x, .int .i64 y, .int .i64 z] 70)).cell? ⟨w.heap.size, 0, none⟩ = some (.int .i64 x))
  have b1 := fun u : BW (w.alloc (.cells #[.int .i64 x, .int .i64 y, .int .i64 z] 70)) => (u.le.cell (p := ⟨w.heap.size, 1, none⟩) (by simp)).trans (by simp : (w.alloc (.cells #[.int .i64 x, .int .i64 y, .int .i64 z] 70)).cell? ⟨w.heap.size, 1, none⟩ = some (.int .i64 y))
  have b2 := fun u : BW (w.alloc (.cells #[.int .i64 x, .int .i64 y, .int .i64 z] 70)) => (u.le.cell (p := ⟨w.heap.size, 2, none⟩) (by simp)).trans (by simp : (w.alloc (.cells #[.int .i64 x, .int .i64 y, .int .i64 z] 70)).cell? ⟨w.heap.size, 2, none⟩ = some (.int .i64 z))
  have hne := BW.some (w.alloc (.cells #[.int .i64 x, .int .i64 y, .int .i64 z] 70))
  cases h0 : addrB x
  · rw [h0] at CA HK
    go_enter Try.func112, Try.ntmps112
    go_wp2_with fail
    refine wp_region_below (by kernel_rfl) (by kernel_rfl) ?_
    repeat (go_big_quiet_step (first | (go_at_call 61; exact Calls.into ((CA.out _).mono (fun _ _ h => ⟨h.1, h.2 ▸ Below.refl _ _⟩)))))
    refine wpQuiet_nil ?_
    intro _ hw'
    obtain ⟨u, hw''⟩ := hw'
    subst hw''
    go_wp2
    go_ret
    exact ⟨ret_bool (by rw [HK.out]; simp), hB.trans (u.le.mono hB.size)⟩
  · rw [h0] at CA HK
    cases h1 : inB y 0 32
    · rw [h1] at CB HK
      go_enter Try.func112, Try.ntmps112
      go_wp2_with fail
      refine wp_region_below (by kernel_rfl) (by kernel_rfl) ?_
      repeat (go_big_quiet_step (first | (go_at_call 61; exact Calls.into ((CA.out _).mono (fun _ _ h => ⟨h.1, h.2 ▸ Below.refl _ _⟩))) | (go_at_call 62; exact Calls.into ((CB.out _).mono (fun _ _ h => ⟨h.1, h.2 ▸ Below.refl _ _⟩)))))
      refine wpQuiet_nil ?_
      intro _ hw'
      obtain ⟨u, hw''⟩ := hw'
      subst hw''
      go_wp2
      go_ret
      exact ⟨ret_bool (by rw [HK.out]; simp), hB.trans (u.le.mono hB.size)⟩
    · rw [h1] at CB HK
      cases h2 : actB z
      · rw [h2] at CC HK
        go_enter Try.func112, Try.ntmps112
        go_wp2_with fail
        refine wp_region_below (by kernel_rfl) (by kernel_rfl) ?_
        repeat (go_big_quiet_step (first | (go_at_call 61; exact Calls.into ((CA.out _).mono (fun _ _ h => ⟨h.1, h.2 ▸ Below.refl _ _⟩))) | (go_at_call 62; exact Calls.into ((CB.out _).mono (fun _ _ h => ⟨h.1, h.2 ▸ Below.refl _ _⟩))) | (go_at_call 114; exact Calls.into ((CC.out _).mono (fun _ _ h => ⟨h.1, h.2 ▸ Below.refl _ _⟩)))))
        refine wpQuiet_nil ?_
        intro _ hw'
        obtain ⟨u, hw''⟩ := hw'
        subst hw''
        go_wp2
        go_ret
        exact ⟨ret_bool (by rw [HK.out]; simp), hB.trans (u.le.mono hB.size)⟩
      · rw [h2] at CC HK
        rw [h0, h1, Bool.and_true, if_pos rfl] at CP
        generalize top x y = tp at *
        have HE : ∀ u : World, (binOp .eql 70 (.agg #[.int .i64 tp, .int .i64 y, .int .i64 z]) (.agg #[.int .i64 x, .int .i64 y, .int .i64 z])).run Try.prog u = .ok (.bool (tp == x)) u := fun u => by rw [eqPrefix]; simp
        have HG : Try.prog.eqGuardType Try.prog.depth 70 = false := by kernel_rfl
        go_enter Try.func112, Try.ntmps112
        go_wp2_with fail
        refine wp_region_below (by kernel_rfl) (by kernel_rfl) ?_
        repeat (go_big_quiet_step (first | (go_at_call 61; exact Calls.into ((CA.out _).mono (fun _ _ h => ⟨h.1, h.2 ▸ Below.refl _ _⟩))) | (go_at_call 62; exact Calls.into ((CB.out _).mono (fun _ _ h => ⟨h.1, h.2 ▸ Below.refl _ _⟩))) | (go_at_call 114; exact Calls.into ((CC.out _).mono (fun _ _ h => ⟨h.1, h.2 ▸ Below.refl _ _⟩))) | (go_at_call 42; exact Calls.into (CP.out _))))
        refine wpQuiet_nil ?_
        intro _ hw'
        obtain ⟨u, hw''⟩ := hw'
        subst hw''
        go_wp2
        go_ret
        exact ⟨ret_bool (by rw [HK.out, Bool.eq_iff_iff]; simp), hB.trans (u.le.mono hB.size)⟩
set_option maxRecDepth 100000 in
set_option maxHeartbeats 1600000 in
theorem i_pfAhead (a b : PfV) (w : World) : Calls Try.prog 113 #[.agg (pfL a), .agg (pfL b)] w fun e w' => e = .returned (.bool (pfLt a b)) ∧ Below w.heap.size w w' := by
  obtain ⟨m0, p0, a0⟩ := a
  obtain ⟨m1, p1, a1⟩ := b
  simp only [pfL, pfLt] at *
  have h : p0 < p1 ∨ p1 < p0 ∨ p0 = p1 := by omega
  rcases h with h | h | rfl
  · have hn : (p0 != p1) = true := by simp; omega
    have hn2 : ¬ p0 = p1 := by omega
    have hn3 : (p0 == p1) = false := by simp; omega
    go_enter Try.func113, Try.ntmps113
    go_wp2
    go_ret
    exact ⟨ret_bool (by rw [Bool.eq_iff_iff]; first | (simp; done) | (simp; omega)), ((Below.refl _ w).alloc (Nat.le_refl _) _).alloc (by simp) _⟩
  · have hn : (p0 != p1) = true := by simp; omega
    have hn2 : ¬ p0 = p1 := by omega
    have hn3 : (p0 == p1) = false := by simp; omega
    go_enter Try.func113, Try.ntmps113
    go_wp2
    go_ret
    exact ⟨ret_bool (by rw [Bool.eq_iff_iff]; first | (simp; done) | (simp; omega)), ((Below.refl _ w).alloc (Nat.le_refl _) _).alloc (by simp) _⟩
  · go_enter Try.func113, Try.ntmps113
    go_wp2
    go_ret
    exact ⟨ret_bool (by rw [Bool.eq_iff_iff]; first | (simp; done) | (simp; omega)), ((Below.refl _ w).alloc (Nat.le_refl _) _).alloc (by simp) _⟩
set_option maxRecDepth 100000 in
set_option maxHeartbeats 1600000 in
theorem s_pfAhead (a b : PfV) (w : World) : Calls Try.prog 48 #[.agg (pfL a), .agg (pfL b)] w fun e w' => e = .returned (.bool (pfLt a b)) ∧ Below w.heap.size w w' := by
  obtain ⟨m0, p0, a0⟩ := a
  obtain ⟨m1, p1, a1⟩ := b
  simp only [pfL, pfLt] at *
  have h : p0 < p1 ∨ p1 < p0 ∨ p0 = p1 := by omega
  rcases h with h | h | rfl
  · have hn : (p0 != p1) = true := by simp; omega
    have hn2 : ¬ p0 = p1 := by omega
    have hn3 : (p0 == p1) = false := by simp; omega
    go_enter Try.func48, Try.ntmps48
    go_wp2
    go_ret
    exact ⟨ret_bool (by rw [Bool.eq_iff_iff]; first | (simp; done) | (simp; omega)), ((Below.refl _ w).alloc (Nat.le_refl _) _).alloc (by simp) _⟩
  · have hn : (p0 != p1) = true := by simp; omega
    have hn2 : ¬ p0 = p1 := by omega
    have hn3 : (p0 == p1) = false := by simp; omega
    go_enter Try.func48, Try.ntmps48
    go_wp2
    go_ret
    exact ⟨ret_bool (by rw [Bool.eq_iff_iff]; first | (simp; done) | (simp; omega)), ((Below.refl _ w).alloc (Nat.le_refl _) _).alloc (by simp) _⟩
  · go_enter Try.func48, Try.ntmps48
    go_wp2
    go_ret
    exact ⟨ret_bool (by rw [Bool.eq_iff_iff]; first | (simp; done) | (simp; omega)), ((Below.refl _ w).alloc (Nat.le_refl _) _).alloc (by simp) _⟩
set_option maxRecDepth 100000 in
set_option maxHeartbeats 1600000 in
theorem s_pfRight (a : PfV) (w : World) : Calls Try.prog 64 #[.agg (pfL a)] w fun e w' => e = .returned (.bool (pfOk a)) ∧ Below w.heap.size w w' := by
  have HK : Hid (pfOk a = (addrB a.addr && inB a.bits 0 32 && actB a.act && decide (top a.addr a.bits = a.addr))) := rfl
  obtain ⟨x, y, z⟩ := a
  simp only [pfL] at *
  have CA : Hid (∀ u : World, Calls Try.prog 45 #[.int .i64 x] u fun e w' => e = .returned (.bool (addrB x)) ∧ w' = u) := fun u => s_Addr x u
  have CB : Hid (∀ u : World, Calls Try.prog 44 #[.int .i64 y, .int .i64 0, .int .i64 32] u fun e w' => e = .returned (.bool (inB y 0 32)) ∧ w' = u) := fun u => s_In y 0 32 u
  have CC : Hid (∀ u : World, Calls Try.prog 46 #[.int .i64 z] u fun e w' => e = .returned (.bool (actB z)) ∧ w' = u) := fun u => s_Act z u
  have hB := (Below.refl w.heap.size w).alloc (Nat.le_refl _) (.cells #[.int .i64 x, .int .i64 y, .int .i64 z] 70)
  generalize pfOk _ = t at *
  have b0 := fun u : BW (w.alloc (.cells #[.int .i64 x, .int .i64 y, .int .i64 z] 70)) => (u.le.cell (p := ⟨w.heap.size, 0, none⟩) (by simp)).trans (by simp : (w.alloc (.cells #[.int .i64 x, .int .i64 y, .int .i64 z] 70)).cell? ⟨w.heap.size, 0, none⟩ = some (.int .i64 x))
  have b1 := fun u : BW (w.alloc (.cells #[.int .i64 x, .int .i64 y, .int .i64 z] 70)) => (u.le.cell (p := ⟨w.heap.size, 1, none⟩) (by simp)).trans (by simp : (w.alloc (.cells #[.int .i64 x, .int .i64 y, .int .i64 z] 70)).cell? ⟨w.heap.size, 1, none⟩ = some (.int .i64 y))
  have b2 := fun u : BW (w.alloc (.cells #[.int .i64 x, .int .i64 y, .int .i64 z] 70)) => (u.le.cell (p := ⟨w.heap.size, 2, none⟩) (by simp)).trans (by simp : (w.alloc (.cells #[.int .i64 x, .int .i64 y, .int .i64 z] 70)).cell? ⟨w.heap.size, 2, none⟩ = some (.int .i64 z))
  have hne := BW.some (w.alloc (.cells #[.int .i64 x, .int .i64 y, .int .i64 z] 70))
  cases h1 : inB y 0 32
  · rw [h1] at CB HK
    go_enter Try.func64, Try.ntmps64
    go_wp2_with fail
    refine wp_region_below (by kernel_rfl) (by kernel_rfl) ?_
    repeat (go_big_quiet_step (first | (go_at_call 44; exact Calls.into_same (CB.out _)) | (go_at_call 45; exact Calls.into_same (CA.out _)) | (go_at_call 47; exact Calls.into_same (CM.out _)) | (go_at_call 46; exact Calls.into_same (CC.out _))))
    refine wpQuiet_nil ?_
    intro _ hw'
    obtain ⟨u, hw''⟩ := hw'
    subst hw''
    go_wp2
    go_ret
    exact ⟨ret_bool (by rw [HK.out]; simp), hB.trans (u.le.mono hB.size)⟩
  · rw [h1] at CB HK
    cases h0 : addrB x
    · rw [h0] at CA HK
      go_enter Try.func64, Try.ntmps64
      go_wp2_with fail
      refine wp_region_below (by kernel_rfl) (by kernel_rfl) ?_
      repeat (go_big_quiet_step (first | (go_at_call 44; exact Calls.into_same (CB.out _)) | (go_at_call 45; exact Calls.into_same (CA.out _)) | (go_at_call 47; exact Calls.into_same (CM.out _)) | (go_at_call 46; exact Calls.into_same (CC.out _))))
      refine wpQuiet_nil ?_
      intro _ hw'
      obtain ⟨u, hw''⟩ := hw'
      subst hw''
      go_wp2
      go_ret
      exact ⟨ret_bool (by rw [HK.out]; simp), hB.trans (u.le.mono hB.size)⟩
    · rw [h0] at CA HK
      obtain ⟨y0, y1⟩ := of_inB h1
      obtain ⟨x0, x1⟩ := of_inB h0
      have CM : Hid (∀ u : World, Calls Try.prog 47 #[.int .i64 y] u fun e w' => e = .returned (.int .i64 (maskOf y)) ∧ w' = u) := fun u => s_Mask y u y0 y1
      have hm := and_mask x y x0 x1 y0 y1
      clear h0 h1 x0 x1 y0 y1
      generalize maskOf y = mk at *
      by_cases h2 : top x y = x
      · have h2a : bits .and .i64 x mk = x := hm.trans h2
        have h2b : (bits .and .i64 x mk == x) = true := by simp [h2a]
        clear hm
        cases h3 : actB z
        · rw [h3] at CC HK
          go_enter Try.func64, Try.ntmps64
          go_wp2_with fail
          refine wp_region_below (by kernel_rfl) (by kernel_rfl) ?_
          repeat (go_big_quiet_step (first | (go_at_call 44; exact Calls.into_same (CB.out _)) | (go_at_call 45; exact Calls.into_same (CA.out _)) | (go_at_call 47; exact Calls.into_same (CM.out _)) | (go_at_call 46; exact Calls.into_same (CC.out _))))
          refine wpQuiet_nil ?_
          intro _ hw'
          obtain ⟨u, hw''⟩ := hw'
          subst hw''
          go_wp2
          go_ret
          exact ⟨ret_bool (by rw [HK.out]; simp), hB.trans (u.le.mono hB.size)⟩
        · rw [h3] at CC HK
          go_enter Try.func64, Try.ntmps64
          go_wp2_with fail
          refine wp_region_below (by kernel_rfl) (by kernel_rfl) ?_
          repeat (go_big_quiet_step (first | (go_at_call 44; exact Calls.into_same (CB.out _)) | (go_at_call 45; exact Calls.into_same (CA.out _)) | (go_at_call 47; exact Calls.into_same (CM.out _)) | (go_at_call 46; exact Calls.into_same (CC.out _))))
          refine wpQuiet_nil ?_
          intro _ hw'
          obtain ⟨u, hw''⟩ := hw'
          subst hw''
          go_wp2
          go_ret
          exact ⟨ret_bool (by rw [HK.out]; simp [h2]), hB.trans (u.le.mono hB.size)⟩
      · have h2a : ¬ bits .and .i64 x mk = x := fun e => h2 (hm.symm.trans e)
        have h2b : (bits .and .i64 x mk == x) = false := by simpa using h2a
        clear hm
        go_enter Try.func64, Try.ntmps64
        go_wp2_with fail
        refine wp_region_below (by kernel_rfl) (by kernel_rfl) ?_
        repeat (go_big_quiet_step (first | (go_at_call 44; exact Calls.into_same (CB.out _)) | (go_at_call 45; exact Calls.into_same (CA.out _)) | (go_at_call 47; exact Calls.into_same (CM.out _)) | (go_at_call 46; exact Calls.into_same (CC.out _))))
        refine wpQuiet_nil ?_
        intro _ hw'
        obtain ⟨u, hw''⟩ := hw'
        subst hw''
        go_wp2
        go_ret
        exact ⟨ret_bool (by rw [HK.out]; simp [h2]), hB.trans (u.le.mono hB.size)⟩
end Go.Proofs.Ytgcingjcneafpaa
