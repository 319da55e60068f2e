/-
  A CRC-32: the program and the model.
-/
import Derived.Test.YteflhnmoceppgaaDoorCrc1
import Derived.Lib.LaidTab
namespace Go.Proofs.YteflhnmoceppgaaDoor
open Go.RowKit Go.PlainAid
theorem bits_xor_u32 (a b : Nat) (ha : a < 4294967296) (hb : b < 4294967296) : bits .xor .u32 (a : Int) (b : Int) = ((a ^^^ b : Nat) : Int) := by
  simp only [bits, BitVec.ofInt_natCast, BitVec.toNat_xor, BitVec.toNat_ofNat]
  have q1 : a % 2 ^ IntKind.bits .u32 = a := Nat.mod_eq_of_lt ha
  have q2 : b % 2 ^ IntKind.bits .u32 = b := Nat.mod_eq_of_lt hb
  rw [q1, q2]
  have := xor_lt32 ha hb
  rw [IntKind.wrap_u32]; omega
theorem bits_and_u32 (a : Nat) (ha : a < 4294967296) : bits .and .u32 (a : Int) 15 = ((a % 16 : Nat) : Int) := by
  have c : (15 : Int) = ((15 : Nat) : Int) := rfl
  rw [c]
  simp only [bits, BitVec.ofInt_natCast, BitVec.toNat_and, BitVec.toNat_ofNat]
  have q1 : a % 2 ^ IntKind.bits .u32 = a := Nat.mod_eq_of_lt ha
  have q2 : 15 % 2 ^ IntKind.bits .u32 = 15 := by decide
  rw [q1, q2, show (15 : Nat) = 2 ^ 4 - 1 from rfl, Nat.and_two_pow_sub_one_eq_mod]
  rw [IntKind.wrap_u32]; omega
/-- the table lies there -/
def CrcTab (w : World) : Prop := ∀ i, i < 16 → w.cell? ⟨0, i, none⟩ = some (.int .u32 (crcT.getD i 0 : Nat))
theorem CrcTab.below {w w' : World} (h : CrcTab w) (hb : Below w.heap.size w w') : CrcTab w' := fun i hi => (hb.cell (p := ⟨0, i, none⟩) (lt_of_cell (h i hi))).trans (h i hi)
theorem not_u32 {c : Nat} (h : c < 4294967296) : bits .xor .u32 IntKind.u32.max (c : Int) = ((4294967295 - c : Nat) : Int) := by
  have e : (4294967295 : Nat) ^^^ c = 4294967295 - c := by
    have h2 : 4294967295 - c = 2 ^ 32 - (c + 1) := by omega
    rw [h2]
    apply Nat.eq_of_testBit_eq
    intro i
    have h3 : (4294967295 : Nat) = 2 ^ 32 - 1 := by decide
    rw [h3, Nat.testBit_two_pow_sub_succ (by exact h), Nat.testBit_xor, Nat.testBit_two_pow_sub_one]
    by_cases hi : i < 32
    · simp [hi]
    · have : c.testBit i = false := Nat.testBit_lt_two_pow (Nat.lt_of_lt_of_le h (Nat.pow_le_pow_right (n := 2) (i := 32) (by decide) (by omega)))
      simp [hi, this]
  have := bits_xor_u32 4294967295 c (by decide) h
  rw [e] at this
  exact this
theorem nib_step (D : Nat) (h : D < 4294967296) : ∃ r t E : Nat, r < 16 ∧ bits .and .u32 (D : Int) 15 = (r : Int) ∧ t = crcT.getD r 0 ∧ bits .xor .u32 ((D : Int) / 16) (t : Int) = (E : Int) ∧ bitN 4 D = E ∧ E < 4294967296 := by
  have ht := crcT_lt (D % 16)
  refine ⟨D % 16, crcT.getD (D % 16) 0, (D / 16) ^^^ crcT.getD (D % 16) 0, Nat.mod_lt _ (by decide), bits_and_u32 D h, rfl, ?_, ?_, xor_lt32 (by omega) ht⟩
  · rw [show (D : Int) / 16 = ((D / 16 : Nat) : Int) by omega]; exact bits_xor_u32 _ _ (by omega) ht
  · rw [nib_ok, Nat.shiftRight_eq_div_pow]
def intC : Value → Int
  | .int _ n => n
  | _ => 0
set_option maxRecDepth 100000 in
set_option maxHeartbeats 3200000 in
theorem i_crcOf (s : ByteArray) (w : World) (hs : s.size ≤ 1099511627776) (hT : CrcTab w) :
    Calls Tryd.prog 23 #[.string s] w fun e w' => e = .returned (.int .u32 (crcOf (bl s) : Nat)) ∧ w' = w := by
  go_enter Tryd.func23, Tryd.ntmps23
  go_wp2
  go_loopw [3, 7] (fun c i wr => ∃ j : Nat, j ≤ s.size ∧ c = .int .u32 (crcGo 4294967295 ((bl s).take j) : Nat) ∧ i = .int .i64 (j : Int) ∧ wr = w) (fun _ i _ => ((s.size : Int) - intC i).toNat)
  case atStart => exact ⟨0, by omega, rfl, rfl, rfl⟩
  case round =>
    obtain ⟨j, hj, rfl, rfl, rfl⟩ := hrel
    have hlt := crcGo_lt ((bl s).take j) (c := 4294967295) (by decide)
    by_cases hjs : j < s.size
    · have hb := (s[j]'hjs).toNat_lt
      have hnext := take_crc s j hjs
      rw [byte_two] at hnext
      generalize crcGo 4294967295 ((bl s).take j) = c at *
      obtain ⟨B, hB⟩ : ∃ B, B = (s[j]'hjs).toNat := ⟨_, rfl⟩
      rw [← hB] at hb hnext
      have hji : (j : Int) < (s.size : Int) := by omega
      have hBi : (((s[j]'hjs).toNat : Nat) : Int) = (B : Int) := by rw [hB]
      obtain ⟨D, hD⟩ : ∃ D, D = c ^^^ B := ⟨_, rfl⟩
      have hDl : D < 4294967296 := hD ▸ xor_lt32 hlt (by omega)
      have x0 : bits .xor .u32 (c : Int) (B : Int) = (D : Int) := by rw [hD]; exact bits_xor_u32 _ _ hlt (by omega)
      rw [← hD] at hnext
      obtain ⟨r, t, E, hr, a0, ht, x1, hE, hEl⟩ := nib_step D hDl
      obtain ⟨r2, t2, E2, hr2, a2, ht2, x2, hE2, hEl2⟩ := nib_step E hEl
      rw [hE, hE2] at hnext
      have k1 := hT r hr
      have k2 := hT r2 hr2
      rw [← ht] at k1
      rw [← ht2] at k2
      have hri : (r : Int) < 16 := by omega
      have hri2 : (r2 : Int) < 16 := by omega
      clear ht ht2 hE hE2 hD hT hB
      go_wp2
      go_roundw
      case rel => exact ⟨j + 1, by omega, by rw [hnext], by go_num, by first | rfl | trivial⟩
      case measure => simp [intC]; omega
    · have e : (bl s).take j = bl s := List.take_of_length_le (by rw [bl_length]; omega)
      have hji : ¬ (j : Int) < (s.size : Int) := by omega
      rw [e] at hlt ⊢
      clear e
      have hcr : crcOf (bl s) = 4294967295 - crcGo 4294967295 (bl s) := rfl
      have hx := not_u32 (c := crcGo 4294967295 (bl s)) hlt
      rw [← hcr] at hx
      clear hcr
      obtain ⟨cr, hcr0⟩ : ∃ cr, Hid (cr = crcOf (bl s)) := ⟨_, rfl⟩
      rw [← hcr0.out] at hx
      generalize crcGo 4294967295 (bl s) = c at *
      have hsg : IntKind.u32.signed = false := rfl
      go_wp2
      go_ret
      exact ⟨by rw [← hcr0.out]; rfl, rfl⟩
theorem wpList_textC {w : World} {ops : Array Oper} {rest : List Oper} {o : Oper} {a : Act} {Q : Exit → Act → World → Prop} (hgd : o.guard = none) (x : Operand)
    (ho : o.op = .convert 22 9 x) (g n cap : Nat) (l : List UInt8) (hn : n = l.length) (hs : a.eval x = .slice (some ⟨g, 0, none⟩) n cap) (hc : ∀ j c, l[j]? = some c → w.cell? ⟨g, j, none⟩ = some (.int .u8 (c.toNat : Int)))
    (h : wpList Tryd.prog ops Q rest (a.put o.dst (.string (str l))) w) : wpList Tryd.prog ops Q (o :: rest) a w := by
  subst hn
  refine wpList_plain hgd fun K hK' => ?_
  unfold Oper.wp execOp
  have e : ∀ j, (⟨g, 0, none⟩ : Addr).add j = ⟨g, j, none⟩ := fun j => by unfold Addr.add; split <;> simp_all
  have hr := run_convert_bytes_back (P := Tryd.prog) w 22 9 5 ⟨g, 0, none⟩ cap l Tryd.underlying22 Tryd.underlying5 Tryd.underlying9 (fun j hj => by rw [e]; exact hc j _ (List.getElem?_eq_getElem hj))
  simp [ho, hs, hr, Result.andThen]
  exact hK' _ _ h
/-- four bytes, the lowest first -/
def le4 (c : Nat) : List UInt8 := [UInt8.ofNat (c % 256), UInt8.ofNat (c / 256 % 256), UInt8.ofNat (c / 65536 % 256), UInt8.ofNat (c / 16777216 % 256)]
theorem ofNat_mod (n : Nat) : (UInt8.ofNat (n % 256)).toNat = n % 256 := by simp [UInt8.toNat_ofNat']
theorem four_cells (w : World) (l : List UInt8) (hl : l.length = 4) (x0 x1 x2 x3 : Int) (T : TypeId) (h0 : x0 = ((l[0]'(by omega)).toNat : Int)) (h1 : x1 = ((l[1]'(by omega)).toNat : Int)) (h2 : x2 = ((l[2]'(by omega)).toNat : Int)) (h3 : x3 = ((l[3]'(by omega)).toNat : Int)) :
    ∀ j c, l[j]? = some c → (w.alloc (.cells #[.int .u8 x0, .int .u8 x1, .int .u8 x2, .int .u8 x3] T)).cell? ⟨w.heap.size, j, none⟩ = some (.int .u8 (c.toNat : Int)) := by
  intro j c hj
  obtain ⟨hlt, he⟩ := List.getElem?_eq_some_iff.1 hj
  subst h0; subst h1; subst h2; subst h3
  have hj4 : j = 0 ∨ j = 1 ∨ j = 2 ∨ j = 3 := by omega
  rw [World.cell?_alloc_mark]
  rcases hj4 with rfl | rfl | rfl | rfl <;> simp [← he]
set_option maxRecDepth 100000 in
theorem i_lowestFirst (c : Nat) (w : World) (hc : c < 4294967296) :
    Calls Tryd.prog 22 #[.int .u32 (c : Int)] w fun e w' => e = .returned (.string (str (le4 c))) ∧ Below w.heap.size w w' := by
  have HF : Hid (∀ j c', (le4 c)[j]? = some c' → (w.alloc (.cells #[.int .u8 ((c : Int) % 256), .int .u8 ((c : Int) / 256 % 256), .int .u8 ((c : Int) / 65536 % 256), .int .u8 ((c : Int) / 16777216)] 5)).cell? ⟨w.heap.size, j, none⟩ = some (.int .u8 (c'.toNat : Int))) :=
    four_cells w (le4 c) rfl _ _ _ _ _ (by show _ = ((UInt8.ofNat (c % 256)).toNat : Int); rw [ofNat_mod]; omega) (by show _ = ((UInt8.ofNat (c / 256 % 256)).toNat : Int); rw [ofNat_mod]; omega) (by show _ = ((UInt8.ofNat (c / 65536 % 256)).toNat : Int); rw [ofNat_mod]; omega) (by show _ = ((UInt8.ofNat (c / 16777216 % 256)).toNat : Int); rw [ofNat_mod]; omega)
  have hb := (Below.refl w.heap.size w).alloc (Nat.le_refl _) (.cells #[.int .u8 ((c : Int) % 256), .int .u8 ((c : Int) / 256 % 256), .int .u8 ((c : Int) / 65536 % 256), .int .u8 ((c : Int) / 16777216)] 5)
  go_enter Tryd.func22, Tryd.ntmps22
  go_wp2_with (refine wpList_textC rfl _ rfl w.heap.size 4 4 (le4 c) rfl rfl (by exact HF.out) ?_)
  go_ret
  exact ⟨rfl, hb⟩
theorem bit_step (k D : Nat) : bitN (k + 1) D = bitF (bitN k D) := by rw [bitN_add k 1]; rfl
theorem bitF_odd {c : Nat} (h : c < 4294967296) (ho : c % 2 = 1) : bits .xor .u32 ((c : Int) / 2) 3988292384 = ((bitF c : Nat) : Int) := by
  have e : bitF c = (c / 2) ^^^ 3988292384 := by unfold bitF; rw [if_pos ho, Nat.shiftRight_eq_div_pow]
  rw [e, show (c : Int) / 2 = ((c / 2 : Nat) : Int) by omega]
  exact bits_xor_u32 _ 3988292384 (by omega) (by decide)
theorem bitF_even {c : Nat} (ho : c % 2 = 0) : (c : Int) / 2 = ((bitF c : Nat) : Int) := by
  have e : bitF c = c / 2 := by unfold bitF; rw [if_neg (by omega), Nat.shiftRight_eq_div_pow]
  rw [e]; omega
set_option maxRecDepth 100000 in
set_option maxHeartbeats 6400000 in
theorem s_l12Sum (s : ByteArray) (w : World) (hs : s.size ≤ 1099511627776) :
    Calls Tryd.prog 20 #[.string s] w fun e w' => e = .returned (.string (str (le4 (crcOf (bl s))))) ∧ Below w.heap.size w w' := by
  go_enter Tryd.func20, Tryd.ntmps20
  go_wp2
  go_loopw [3, 4] (fun c i wr => ∃ j : Nat, j ≤ s.size ∧ c = .int .u32 (crcGo 4294967295 ((bl s).take j) : Nat) ∧ i = .int .i64 (j : Int) ∧ wr = w) (fun _ i _ => ((s.size : Int) - intC i).toNat)
  case atStart => exact ⟨0, by omega, rfl, rfl, rfl⟩
  case round =>
    obtain ⟨j, hj, rfl, rfl, rfl⟩ := hrel
    have hlt := crcGo_lt ((bl s).take j) (c := 4294967295) (by decide)
    by_cases hjs : j < s.size
    · have hb := (s[j]'hjs).toNat_lt
      have hnext := take_crc s j hjs
      generalize crcGo 4294967295 ((bl s).take j) = c at *
      obtain ⟨B, hB⟩ : ∃ B, B = (s[j]'hjs).toNat := ⟨_, rfl⟩
      rw [← hB] at hb hnext
      have hji : (j : Int) < (s.size : Int) := by omega
      have hBi : (((s[j]'hjs).toNat : Nat) : Int) = (B : Int) := by rw [hB]
      obtain ⟨D, hD⟩ : ∃ D, D = c ^^^ B := ⟨_, rfl⟩
      have hDl : D < 4294967296 := hD ▸ xor_lt32 hlt (by omega)
      have x0 : bits .xor .u32 (c : Int) (B : Int) = (D : Int) := by rw [hD]; exact bits_xor_u32 _ _ hlt (by omega)
      rw [← hD] at hnext
      clear hD hB
      have HN : Hid (crcGo 4294967295 ((bl s).take (j + 1)) = bitN 8 D) := hnext
      clear hnext
      go_wp2
      go_loopw [3, 5] (fun c k wq => ∃ q : Nat, q ≤ 8 ∧ c = .int .u32 (bitN q D : Nat) ∧ k = .int .i64 (q : Int) ∧ wq = wr) (fun _ k _ => ((8 : Int) - intC k).toNat)
      case atStart => exact ⟨0, by omega, rfl, rfl, by first | rfl | trivial⟩
      case round =>
        obtain ⟨q, hq, rfl, rfl, rfl⟩ := hrel
        have hql := bitN_lt q hDl
        have hst := bit_step q D
        by_cases hq8 : q < 8
        · obtain ⟨z, hz⟩ : ∃ z, Hid (z = bitN (q + 1) D) := ⟨_, rfl⟩
          rw [← hz.out] at hst
          generalize bitN q D = x at *
          have hqi : (q : Int) < 8 := by omega
          by_cases ho : x % 2 = 1
          · have y := bitF_odd hql ho
            rw [← hst] at y
            have hoi : (x : Int) % 2 = 1 := by omega
            clear hst ho
            go_wp2
            go_roundw
            case rel => exact ⟨q + 1, by omega, by rw [hz.out], by go_num, by first | rfl | trivial⟩
            case measure => simp [intC]; omega
          · have y := bitF_even (c := x) (by omega)
            rw [← hst] at y
            have hoi : (x : Int) % 2 = 0 := by omega
            clear hst ho
            go_wp2
            go_roundw
            case rel => exact ⟨q + 1, by omega, by rw [hz.out], by go_num, by first | rfl | trivial⟩
            case measure => simp [intC]; omega
        · have e : q = 8 := by omega
          subst e
          have HN2 := HN.out
          have HN3 : Hid (crcGo 4294967295 ((bl s).take (j + 1)) = bitN 8 D) := HN2
          clear hst hq8 hq HN HN2
          generalize bitN 8 D = z at *
          go_wp2
          go_roundw
          case rel => exact ⟨j + 1, by omega, by rw [HN3.out], by go_num, by first | rfl | trivial⟩
          case measure => simp [intC]; omega
    · have e : (bl s).take j = bl s := List.take_of_length_le (by rw [bl_length]; omega)
      have hji : ¬ (j : Int) < (s.size : Int) := by omega
      rw [e] at hlt ⊢
      clear e
      have hcr : crcOf (bl s) = 4294967295 - crcGo 4294967295 (bl s) := rfl
      have hx := not_u32 (c := crcGo 4294967295 (bl s)) hlt
      rw [← hcr] at hx
      have hcl := crcOf_lt (bl s)
      clear hcr
      obtain ⟨cr, hcr0⟩ : ∃ cr, Hid (cr = crcOf (bl s)) := ⟨_, rfl⟩
      rw [← hcr0.out] at hx hcl
      generalize crcGo 4294967295 (bl s) = c at *
      have hsg : IntKind.u32.signed = false := rfl
      have HF : Hid (∀ j c', (le4 cr)[j]? = some c' → (wr.alloc (.cells #[.int .u8 ((cr : Int) % 256), .int .u8 ((cr : Int) / 256 % 256), .int .u8 ((cr : Int) / 65536 % 256), .int .u8 ((cr : Int) / 16777216)] 5)).cell? ⟨wr.heap.size, j, none⟩ = some (.int .u8 (c'.toNat : Int))) :=
        four_cells wr (le4 cr) rfl _ _ _ _ _ (by show _ = ((UInt8.ofNat (cr % 256)).toNat : Int); rw [ofNat_mod]; omega) (by show _ = ((UInt8.ofNat (cr / 256 % 256)).toNat : Int); rw [ofNat_mod]; omega) (by show _ = ((UInt8.ofNat (cr / 65536 % 256)).toNat : Int); rw [ofNat_mod]; omega) (by show _ = ((UInt8.ofNat (cr / 16777216 % 256)).toNat : Int); rw [ofNat_mod]; omega)
      have hb := (Below.refl wr.heap.size wr).alloc (Nat.le_refl _) (.cells #[.int .u8 ((cr : Int) % 256), .int .u8 ((cr : Int) / 256 % 256), .int .u8 ((cr : Int) / 65536 % 256), .int .u8 ((cr : Int) / 16777216)] 5)
      go_wp2_with (refine wpList_textC rfl _ rfl wr.heap.size 4 4 (le4 cr) rfl rfl (by exact HF.out) ?_)
      go_ret
      exact ⟨by rw [← hcr0.out]; rfl, hb⟩
end Go.Proofs.YteflhnmoceppgaaDoor
