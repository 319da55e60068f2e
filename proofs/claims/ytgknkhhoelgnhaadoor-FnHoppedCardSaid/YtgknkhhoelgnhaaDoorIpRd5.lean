/-
  The model's reader of datagrams, where the head is right.
-/
import Derived.Test.YtgknkhhoelgnhaaDoorIpRd4
namespace Go.Proofs.YtgknkhhoelgnhaaDoor
open Go.RowKit Go.PlainAid
theorem Bx.othR {W : World} {b : Nat} {vs : List Value} (h : Bx W b vs) {c j : Nat} (hc : c ≠ b) (u : Value) : Bx (W.setCell ⟨c, j, none⟩ u) b vs :=
  ⟨by simpa using h.1, fun i v hi => (World.cell?_setCell_other _ _ _ _ (fun k => hc (congrArg Addr.block k))).trans (h.2 i v hi)⟩
theorem and_one {x : Int} (h0 : 0 ≤ x) (h1 : x < 65536) : (bits .and .i64 x 1 == 1) = decide (x % 2 = 1) := by
  obtain ⟨n, rfl⟩ := Int.eq_ofNat_of_zero_le h0
  rw [show (1 : Int) = ((1 : Nat) : Int) from rfl, bits_and_natR n 1 (by omega) (by decide), Nat.and_one_is_mod]
  rw [Bool.eq_iff_iff]
  simp
/-- the cells that are read first -/
def spR (s : ByteArray) : Array Value := #[.int .i64 (bt s 1), .int .i64 (fld s 4 2), .bool (bits .and .i64 (fld s 6 2 / 16384) 1 == 1), .bool (bits .and .i64 (fld s 6 2 / 8192) 1 == 1), .int .i64 (anD s 8191), .int .i64 (bt s 8), .int .i64 (bt s 9), .int .i64 0, .int .i64 0, .string ⟨#[]⟩, .string ⟨#[]⟩]
/-- all eleven -/
def spQ (s : ByteArray) : Array Value := #[.int .i64 (bt s 1), .int .i64 (fld s 4 2), .bool (bits .and .i64 (fld s 6 2 / 16384) 1 == 1), .bool (bits .and .i64 (fld s 6 2 / 8192) 1 == 1), .int .i64 (anD s 8191), .int .i64 (bt s 8), .int .i64 (bt s 9), .int .i64 (fld s 12 4), .int .i64 (fld s 16 4), .string (s.extract 20 (hdr s)), .string (s.extract (hdr s) s.size)]
theorem spQ_eq (s : ByteArray) : spQ s = ipL (ipV s) := by
  have h := fld_bd2 s 6
  have b1 := and_one (x := fld s 6 2 / 16384) (by omega) (by omega)
  have b2 := and_one (x := fld s 6 2 / 8192) (by omega) (by omega)
  unfold spQ ipL ipV
  simp only
  rw [b1, b2, anD_low s]
/-- what each operation leaves -/
def spF (s : ByteArray) (B : Nat) : Nat → Value → World → Prop
  | 0, x, _ => x = .string s
  | 1, x, _ => x = .int .u8 (bt s 1)
  | 2, x, _ => x = .int .i64 (bt s 1)
  | 3, x, _ => x = .string s
  | 4, x, _ => x = .int .i64 (fld s 4 2)
  | 5, x, _ => x = .int .i64 (fld s 6 2)
  | 6, x, _ => x = .int .i64 (fld s 6 2 / 16384)
  | 7, x, _ => x = .int .i64 (bits .and .i64 (fld s 6 2 / 16384) 1)
  | 8, x, _ => x = .bool (bits .and .i64 (fld s 6 2 / 16384) 1 == 1)
  | 9, x, _ => x = .int .i64 (fld s 6 2)
  | 10, x, _ => x = .int .i64 (fld s 6 2 / 8192)
  | 11, x, _ => x = .int .i64 (bits .and .i64 (fld s 6 2 / 8192) 1)
  | 12, x, _ => x = .bool (bits .and .i64 (fld s 6 2 / 8192) 1 == 1)
  | 13, x, _ => x = .int .i64 (fld s 6 2)
  | 14, x, _ => x = .int .i64 (anD s 8191)
  | 15, x, _ => x = .string s
  | 16, x, _ => x = .int .u8 (bt s 8)
  | 17, x, _ => x = .int .i64 (bt s 8)
  | 18, x, _ => x = .string s
  | 19, x, _ => x = .int .u8 (bt s 9)
  | 20, x, _ => x = .int .i64 (bt s 9)
  | 21, x, _ => x = .agg (spR s)
  | 22, x, w => ∃ g, x = .pointer (some ⟨g, 0, none⟩) ∧ B ≤ g ∧ Bx w g ipZ ∧ Fx w g
  | _ + 23, _, _ => True
theorem spF_same {s : ByteArray} {B : Nat} {w w' : World} (hb : Below w.heap.size w w') : ∀ (i : Nat) (x : Value), spF s B i x w → spF s B i x w'
  | 0, _, h => h
  | 1, _, h => h
  | 2, _, h => h
  | 3, _, h => h
  | 4, _, h => h
  | 5, _, h => h
  | 6, _, h => h
  | 7, _, h => h
  | 8, _, h => h
  | 9, _, h => h
  | 10, _, h => h
  | 11, _, h => h
  | 12, _, h => h
  | 13, _, h => h
  | 14, _, h => h
  | 15, _, h => h
  | 16, _, h => h
  | 17, _, h => h
  | 18, _, h => h
  | 19, _, h => h
  | 20, _, h => h
  | 21, _, h => h
  | 22, _, ⟨g, e, hg, h1, h2⟩ => ⟨g, e, hg, h1.below hb, h2.belowR hb⟩
  | _ + 23, _, _ => trivial

set_option maxRecDepth 100000 in
set_option maxHeartbeats 3200000 in
theorem s_ReadIp_late (s : ByteArray) (w : World) (hs : s.size ≤ 1099511627776) (h0 : mhCode s = 0) :
    Calls Tryd.prog 23 #[.string s] w fun e w' => e = .returned (.tuple #[.agg (ipL (readIp s)), .int .i64 (ipCode s)]) ∧ Below w.heap.size w w' := by
  have hb0 : Below w.heap.size w (w.alloc (.cells #[.int .i64 0, .int .i64 0, .bool false, .bool false, .int .i64 0, .int .i64 0, .int .i64 0, .int .i64 0, .int .i64 0, .string ⟨#[]⟩, .string ⟨#[]⟩] 32)) := (Below.refl _ w).alloc (Nat.le_refl _) _
  have hR0 := Bx.new w #[.int .i64 0, .int .i64 0, .bool false, .bool false, .int .i64 0, .int .i64 0, .int .i64 0, .int .i64 0, .int .i64 0, .string ⟨#[]⟩, .string ⟨#[]⟩] 32
  have hF0 := Fx.new w #[.int .i64 0, .int .i64 0, .bool false, .bool false, .int .i64 0, .int .i64 0, .int .i64 0, .int .i64 0, .int .i64 0, .string ⟨#[]⟩, .string ⟨#[]⟩] 32
  have h20 : 20 ≤ s.size := by
    by_cases h : s.size < 20
    · unfold mhCode at h0; rw [if_pos h] at h0; cases h0
    · omega
  have E0 : ((s[0]'(by omega)).toNat : Int) = bt s 0 := by rw [bt_eq s 0 (by rw [bl_length]; omega)]; rfl
  have E1 : ((s[1]'(by omega)).toNat : Int) = bt s 1 := by rw [bt_eq s 1 (by rw [bl_length]; omega)]; rfl
  have E8 : ((s[8]'(by omega)).toNat : Int) = bt s 8 := by rw [bt_eq s 8 (by rw [bl_length]; omega)]; rfl
  have E9 : ((s[9]'(by omega)).toNat : Int) = bt s 9 := by rw [bt_eq s 9 (by rw [bl_length]; omega)]; rfl
  have hbb : ∀ k, k < s.size → 0 ≤ bt s k ∧ bt s k ≤ 255 := fun k h => by rw [bt_eq s k (by rw [bl_length]; omega)]; have := ((bl s)[k]'(by rw [bl_length]; omega)).toNat_lt; omega
  obtain ⟨hhd, hh2⟩ := mh_ok h0
  have hall : ¬ (bt s 0 < 69 ∨ 79 < bt s 0) ∧ ¬ (s.size < hdr s ∨ fld s 2 2 ≠ s.size) ∧ sumOf (bl (s.extract 0 (hdr s))) = 0 := by
    have h := h0
    unfold mhCode at h
    rw [if_neg (by omega)] at h
    split at h
    · cases h
    · rename_i k1
      split at h
      · cases h
      · rename_i k2
        split at h
        · cases h
        · rename_i k3; exact ⟨k1, k2, by simpa using k3⟩
  obtain ⟨k1, k2, k3⟩ := hall
  have q20 : ¬ (s.size : Int) < 20 := by omega
  have hin : inB (bt s 0) 69 79 = true := inB_true (by omega) (by omega)
  have hh : ((hdr s : Nat) : Int) = 4 * (bt s 0 - 64) := by unfold hdr; omega
  have hhn : (4 * (bt s 0 - 64)).toNat = hdr s := rfl
  have hL1' : ¬ (s.size : Int) < 4 * (bt s 0 - 64) := by omega
  have hL1d : decide ((s.size : Int) < 4 * (bt s 0 - 64)) = false := by simp; omega
  have hL2 : ((s.size : Int) != fld s 2 2) = false := by simp; omega
  have hS' : (sumOf (bl (s.extract 0 (hdr s))) != 0) = false := by simp [k3]
  have CA : Hid (∀ (x k : Int) (u : World), 0 ≤ x → 1 ≤ k → k ≤ 7 → x + k ≤ s.size → Calls Tryd.prog 44 #[.string s, .int .i64 x, .int .i64 k] u fun e w' => e = .returned (.int .i64 (fld s x k)) ∧ w' = u) := fun x k u h0 h1 h2 h3 => s_Fld s x k u hs h0 h1 h2 h3
  have CS : Hid (∀ u : World, Calls Tryd.prog 56 #[.string (s.extract 0 (hdr s))] u fun e w' => e = .returned (.int .i64 (sumOf (bl (s.extract 0 (hdr s))))) ∧ w' = u) := fun u => s_SumOf _ u (by rw [ByteArray.size_extract]; omega)
  obtain ⟨hb00, hb01⟩ := hbb 0 (by omega)
  have W0 : wrap64 (bt s 0) = bt s 0 := by unfold wrap64; omega
  have W1 : wrap64 (bt s 0 - 64) = bt s 0 - 64 := by unfold wrap64; omega
  have W2 : wrap64 (4 * (bt s 0 - 64)) = 4 * (bt s 0 - 64) := by unfold wrap64; omega
  obtain ⟨hb10, hb11⟩ := hbb 1 (by omega)
  obtain ⟨hb80, hb81⟩ := hbb 8 (by omega)
  obtain ⟨hb90, hb91⟩ := hbb 9 (by omega)
  have V1 : IntKind.i64.wrap (bt s 1) = bt s 1 := wraps_i64 _ (by omega) (by omega)
  have V8 : IntKind.i64.wrap (bt s 8) = bt s 8 := wraps_i64 _ (by omega) (by omega)
  have V9 : IntKind.i64.wrap (bt s 9) = bt s 9 := wraps_i64 _ (by omega) (by omega)
  clear hbb k1 k2 k3
  go_enter Tryd.func23, Tryd.ntmps23
  go_wp2_with (first | (go_at_call 60; refine (s_In _ _ _ _).mono ?_; rintro e wq ⟨rfl, hq⟩; rw [hq]; clear hq wq) | (go_at_call 44; refine (CA.out _ _ _ (by decide) (by decide) (by decide) (by omega)).mono ?_; rintro e wq ⟨rfl, hq⟩; rw [hq]; clear hq wq) | (go_at_call 56; refine (CS.out _).mono ?_; rintro e wq ⟨rfl, hq⟩; rw [hq]; clear hq wq))
  generalize hW : w.alloc _ = w1 at *
  clear hW
  refine wp_region_inv (fun v => ⟨#[.string s, undef, .pointer (some ⟨w.heap.size, 0, none⟩), .int .i64 0, .int .i64 (s.size : Int), .int .i64 (4 * (bt s 0 - 64)), .int .i64 (fld s 6 2), v 22, .string s, .int .i64 (s.size : Int), .int .i64 (s.size : Int), .bool false, undef, .string s, .int .u8 (bt s 0), .int .i64 (bt s 0), .int .i64 (bt s 0 - 64), .int .i64 (4 * (bt s 0 - 64)), .bool false, .string s, .int .u8 (bt s 0), .int .i64 (bt s 0), .bool true, .bool false, undef, .bool false, .int .i64 (s.size : Int), .int .i64 (4 * (bt s 0 - 64)), .bool false, .bool false, .int .i64 (s.size : Int), .string s, .int .i64 (fld s 2 2), .bool false, .bool false, undef, .bool false, .string s, .int .i64 (4 * (bt s 0 - 64)), .string (s.extract 0 (hdr s)), .int .i64 (sumOf (bl (s.extract 0 (hdr s)))), .bool false, undef, .string s, .int .i64 (fld s 6 2), v 0, v 1, v 2, v 3, v 4, v 5, v 6, v 7, v 8, v 9, v 10, v 11, v 12, v 13, v 14, v 15, v 16, v 17, v 18, v 19, v 20, v 21, undef, undef, undef, undef, undef, undef, undef, undef, undef, undef, undef, undef, undef, undef, undef, undef, undef, undef, undef, undef, undef, undef, undef, undef], []⟩) (QJ 23 22 (fun u => Below w1.heap.size w1 u) (spF s w1.heap.size) (fun x u => ∃ g, x = .pointer (some ⟨g, 0, none⟩) ∧ w1.heap.size ≤ g ∧ Bx u g (spR s).toList ∧ Fx u g)) (fun _ => undef) (by kernel_rfl) (by kernel_rfl) rfl ?_ ?_ ?_
  case refine_1 =>
    intro L hL
    refine QJ.start (Below.refl _ w1).drew (fun i x hi => ?_) hL
    obtain ⟨m, rfl⟩ : ∃ m, i = m + 23 := ⟨i - 23, by omega⟩
    trivial
  case refine_2 =>
    refine Steps.cons rfl (fun L v u hJ hL hd K hK => ?_) ?_
    · have hI := hJ.inv
      clear hd
      go_simp
      exact hK (updV v 0 _) _ (hJ.next 0 _ (by decide) hL hI (fun _ _ h => h) rfl)
    refine Steps.cons rfl (fun L v u hJ hL hd K hK => ?_) ?_
    · have hI := hJ.inv
      have hF := hJ.F (hJ.hN (by decide) hL)
      have e0 : v 0 = .string s := hF 0 (hd ⟨0, .data⟩ (by simp) rfl)
      clear hF
      clear hd
      have p1 : (1 : Int) < (s.size : Int) := by omega
      go_simp
      exact hK (updV (updV v 0 (.string s)) 1 _) _ (by rw [updV_eq e0]; exact hJ.next 1 _ (by decide) hL hI (fun _ _ h => h) rfl)
    refine Steps.cons rfl (fun L v u hJ hL hd K hK => ?_) ?_
    · have hI := hJ.inv
      have hF := hJ.F (hJ.hN (by decide) hL)
      have e1 : v 1 = .int .u8 (bt s 1) := hF 1 (hd ⟨1, .data⟩ (by simp) rfl)
      clear hF
      clear hd
      go_simp
      exact hK (updV (updV v 1 (.int .u8 (bt s 1))) 2 _) _ (by rw [updV_eq e1]; exact hJ.next 2 _ (by decide) hL hI (fun _ _ h => h) rfl)
    refine Steps.cons rfl (fun L v u hJ hL hd K hK => ?_) ?_
    · have hI := hJ.inv
      clear hd
      go_simp
      exact hK (updV v 3 _) _ (hJ.next 3 _ (by decide) hL hI (fun _ _ h => h) rfl)
    refine Steps.cons rfl (fun L v u hJ hL hd K hK => ?_) ?_
    · have hI := hJ.inv
      have hF := hJ.F (hJ.hN (by decide) hL)
      have e3 : v 3 = .string s := hF 3 (hd ⟨3, .data⟩ (by simp) rfl)
      clear hF
      clear hd
      go_simp
      refine (CA.out 4 2 _ (by decide) (by decide) (by decide) (by omega)).mono ?_
      rintro e u1 ⟨rfl, hq⟩
      rw [hq]
      exact hK (updV (updV v 3 (.string s)) 4 _) _ (by rw [updV_eq e3]; exact hJ.next 4 _ (by decide) hL hI (fun _ _ h => h) rfl)
    refine Steps.cons rfl (fun L v u hJ hL hd K hK => ?_) ?_
    · have hI := hJ.inv
      clear hd
      go_simp
      exact hK (updV v 5 _) _ (hJ.next 5 _ (by decide) hL hI (fun _ _ h => h) rfl)
    refine Steps.cons rfl (fun L v u hJ hL hd K hK => ?_) ?_
    · have hI := hJ.inv
      have hF := hJ.F (hJ.hN (by decide) hL)
      have e5 : v 5 = .int .i64 (fld s 6 2) := hF 5 (hd ⟨5, .data⟩ (by simp) rfl)
      clear hF
      clear hd
      go_simp
      exact hK (updV (updV v 5 (.int .i64 (fld s 6 2))) 6 _) _ (by rw [updV_eq e5]; exact hJ.next 6 _ (by decide) hL hI (fun _ _ h => h) rfl)
    refine Steps.cons rfl (fun L v u hJ hL hd K hK => ?_) ?_
    · have hI := hJ.inv
      have hF := hJ.F (hJ.hN (by decide) hL)
      have e6 : v 6 = .int .i64 (fld s 6 2 / 16384) := hF 6 (hd ⟨6, .data⟩ (by simp) rfl)
      clear hF
      clear hd
      go_simp
      exact hK (updV (updV v 6 (.int .i64 (fld s 6 2 / 16384))) 7 _) _ (by rw [updV_eq e6]; exact hJ.next 7 _ (by decide) hL hI (fun _ _ h => h) rfl)
    refine Steps.cons rfl (fun L v u hJ hL hd K hK => ?_) ?_
    · have hI := hJ.inv
      have hF := hJ.F (hJ.hN (by decide) hL)
      have e7 : v 7 = .int .i64 (bits .and .i64 (fld s 6 2 / 16384) 1) := hF 7 (hd ⟨7, .data⟩ (by simp) rfl)
      clear hF
      clear hd
      go_simp
      exact hK (updV (updV v 7 (.int .i64 (bits .and .i64 (fld s 6 2 / 16384) 1))) 8 _) _ (by rw [updV_eq e7]; exact hJ.next 8 _ (by decide) hL hI (fun _ _ h => h) rfl)
    refine Steps.cons rfl (fun L v u hJ hL hd K hK => ?_) ?_
    · have hI := hJ.inv
      clear hd
      go_simp
      exact hK (updV v 9 _) _ (hJ.next 9 _ (by decide) hL hI (fun _ _ h => h) rfl)
    refine Steps.cons rfl (fun L v u hJ hL hd K hK => ?_) ?_
    · have hI := hJ.inv
      have hF := hJ.F (hJ.hN (by decide) hL)
      have e9 : v 9 = .int .i64 (fld s 6 2) := hF 9 (hd ⟨9, .data⟩ (by simp) rfl)
      clear hF
      clear hd
      go_simp
      exact hK (updV (updV v 9 (.int .i64 (fld s 6 2))) 10 _) _ (by rw [updV_eq e9]; exact hJ.next 10 _ (by decide) hL hI (fun _ _ h => h) rfl)
    refine Steps.cons rfl (fun L v u hJ hL hd K hK => ?_) ?_
    · have hI := hJ.inv
      have hF := hJ.F (hJ.hN (by decide) hL)
      have e10 : v 10 = .int .i64 (fld s 6 2 / 8192) := hF 10 (hd ⟨10, .data⟩ (by simp) rfl)
      clear hF
      clear hd
      go_simp
      exact hK (updV (updV v 10 (.int .i64 (fld s 6 2 / 8192))) 11 _) _ (by rw [updV_eq e10]; exact hJ.next 11 _ (by decide) hL hI (fun _ _ h => h) rfl)
    refine Steps.cons rfl (fun L v u hJ hL hd K hK => ?_) ?_
    · have hI := hJ.inv
      have hF := hJ.F (hJ.hN (by decide) hL)
      have e11 : v 11 = .int .i64 (bits .and .i64 (fld s 6 2 / 8192) 1) := hF 11 (hd ⟨11, .data⟩ (by simp) rfl)
      clear hF
      clear hd
      go_simp
      exact hK (updV (updV v 11 (.int .i64 (bits .and .i64 (fld s 6 2 / 8192) 1))) 12 _) _ (by rw [updV_eq e11]; exact hJ.next 12 _ (by decide) hL hI (fun _ _ h => h) rfl)
    refine Steps.cons rfl (fun L v u hJ hL hd K hK => ?_) ?_
    · have hI := hJ.inv
      clear hd
      go_simp
      exact hK (updV v 13 _) _ (hJ.next 13 _ (by decide) hL hI (fun _ _ h => h) rfl)
    refine Steps.cons rfl (fun L v u hJ hL hd K hK => ?_) ?_
    · have hI := hJ.inv
      have hF := hJ.F (hJ.hN (by decide) hL)
      have e13 : v 13 = .int .i64 (fld s 6 2) := hF 13 (hd ⟨13, .data⟩ (by simp) rfl)
      clear hF
      clear hd
      go_simp
      exact hK (updV (updV v 13 (.int .i64 (fld s 6 2))) 14 _) _ (by rw [updV_eq e13]; exact hJ.next 14 _ (by decide) hL hI (fun _ _ h => h) rfl)
    refine Steps.cons rfl (fun L v u hJ hL hd K hK => ?_) ?_
    · have hI := hJ.inv
      clear hd
      go_simp
      exact hK (updV v 15 _) _ (hJ.next 15 _ (by decide) hL hI (fun _ _ h => h) rfl)
    refine Steps.cons rfl (fun L v u hJ hL hd K hK => ?_) ?_
    · have hI := hJ.inv
      have hF := hJ.F (hJ.hN (by decide) hL)
      have e15 : v 15 = .string s := hF 15 (hd ⟨15, .data⟩ (by simp) rfl)
      clear hF
      clear hd
      have p1 : (8 : Int) < (s.size : Int) := by omega
      go_simp
      exact hK (updV (updV v 15 (.string s)) 16 _) _ (by rw [updV_eq e15]; exact hJ.next 16 _ (by decide) hL hI (fun _ _ h => h) rfl)
    refine Steps.cons rfl (fun L v u hJ hL hd K hK => ?_) ?_
    · have hI := hJ.inv
      have hF := hJ.F (hJ.hN (by decide) hL)
      have e16 : v 16 = .int .u8 (bt s 8) := hF 16 (hd ⟨16, .data⟩ (by simp) rfl)
      clear hF
      clear hd
      go_simp
      exact hK (updV (updV v 16 (.int .u8 (bt s 8))) 17 _) _ (by rw [updV_eq e16]; exact hJ.next 17 _ (by decide) hL hI (fun _ _ h => h) rfl)
    refine Steps.cons rfl (fun L v u hJ hL hd K hK => ?_) ?_
    · have hI := hJ.inv
      clear hd
      go_simp
      exact hK (updV v 18 _) _ (hJ.next 18 _ (by decide) hL hI (fun _ _ h => h) rfl)
    refine Steps.cons rfl (fun L v u hJ hL hd K hK => ?_) ?_
    · have hI := hJ.inv
      have hF := hJ.F (hJ.hN (by decide) hL)
      have e18 : v 18 = .string s := hF 18 (hd ⟨18, .data⟩ (by simp) rfl)
      clear hF
      clear hd
      have p1 : (9 : Int) < (s.size : Int) := by omega
      go_simp
      exact hK (updV (updV v 18 (.string s)) 19 _) _ (by rw [updV_eq e18]; exact hJ.next 19 _ (by decide) hL hI (fun _ _ h => h) rfl)
    refine Steps.cons rfl (fun L v u hJ hL hd K hK => ?_) ?_
    · have hI := hJ.inv
      have hF := hJ.F (hJ.hN (by decide) hL)
      have e19 : v 19 = .int .u8 (bt s 9) := hF 19 (hd ⟨19, .data⟩ (by simp) rfl)
      clear hF
      clear hd
      go_simp
      exact hK (updV (updV v 19 (.int .u8 (bt s 9))) 20 _) _ (by rw [updV_eq e19]; exact hJ.next 20 _ (by decide) hL hI (fun _ _ h => h) rfl)
    refine Steps.cons rfl (fun L v u hJ hL hd K hK => ?_) ?_
    · have hI := hJ.inv
      have hF := hJ.F (hJ.hN (by decide) hL)
      have e2 : v 2 = .int .i64 (bt s 1) := hF 2 (hd ⟨2, .data⟩ (by simp) rfl)
      have e4 : v 4 = .int .i64 (fld s 4 2) := hF 4 (hd ⟨4, .data⟩ (by simp) rfl)
      have e8 : v 8 = .bool (bits .and .i64 (fld s 6 2 / 16384) 1 == 1) := hF 8 (hd ⟨8, .data⟩ (by simp) rfl)
      have e12 : v 12 = .bool (bits .and .i64 (fld s 6 2 / 8192) 1 == 1) := hF 12 (hd ⟨12, .data⟩ (by simp) rfl)
      have e14 : v 14 = .int .i64 (anD s 8191) := hF 14 (hd ⟨14, .data⟩ (by simp) rfl)
      have e17 : v 17 = .int .i64 (bt s 8) := hF 17 (hd ⟨17, .data⟩ (by simp) rfl)
      have e20 : v 20 = .int .i64 (bt s 9) := hF 20 (hd ⟨20, .data⟩ (by simp) rfl)
      clear hF
      clear hd
      go_simp
      exact hK (updV (updV (updV (updV (updV (updV (updV (updV v 2 (.int .i64 (bt s 1))) 4 (.int .i64 (fld s 4 2))) 8 (.bool (bits .and .i64 (fld s 6 2 / 16384) 1 == 1))) 12 (.bool (bits .and .i64 (fld s 6 2 / 8192) 1 == 1))) 14 (.int .i64 (anD s 8191))) 17 (.int .i64 (bt s 8))) 20 (.int .i64 (bt s 9))) 21 _) _ (by rw [updV_eq e2, updV_eq e4, updV_eq e8, updV_eq e12, updV_eq e14, updV_eq e17, updV_eq e20]; exact hJ.next 21 _ (by decide) hL hI (fun _ _ h => h) rfl)
    refine Steps.cons rfl (fun L v u hJ hL hd K hK => ?_) ?_
    · have hI := hJ.inv
      clear hd
      go_simp
      exact hK (updV v 22 _) _ (hJ.next 22 _ (by decide) hL (hI.alloc hI.size _) (spF_same ((Below.refl _ u).alloc (Nat.le_refl _) _)) ⟨_, rfl, hI.size, Bx.new u _ _, Fx.newR u _ _⟩)
    refine Steps.cons rfl (fun L v u hJ hL hd K hK => ?_) ?_
    · have hI := hJ.inv
      have hF := hJ.F hL
      have e21 : v 21 = .agg (spR s) := hF 21 (hd ⟨21, .data⟩ (by simp) rfl)
      obtain ⟨g, e22, hg, hG, hFG⟩ := hF 22 (hd ⟨22, .data⟩ (by simp) rfl)
      clear hF
      have e21r := e21
      unfold spR at e21
      have z0 := hG.2 0 _ rfl
      have z1 := hG.2 1 _ rfl
      have z2 := hG.2 2 _ rfl
      have z3 := hG.2 3 _ rfl
      have z4 := hG.2 4 _ rfl
      have z5 := hG.2 5 _ rfl
      have z6 := hG.2 6 _ rfl
      have z7 := hG.2 7 _ rfl
      have z8 := hG.2 8 _ rfl
      have z9 := hG.2 9 _ rfl
      have z10 := hG.2 10 _ rfl
      have q0 := hFG.2
      go_simp
      have hBs := ((((((((((((Below.refl w1.heap.size u).setCell (p := ⟨g, 0, none⟩) hg (.int .i64 (bt s 1))).setCell (p := ⟨g, 1, none⟩) hg (.int .i64 (fld s 4 2))).setCell (p := ⟨g, 2, none⟩) hg (.bool (bits .and .i64 (fld s 6 2 / 16384) 1 == 1))).setCell (p := ⟨g, 3, none⟩) hg (.bool (bits .and .i64 (fld s 6 2 / 8192) 1 == 1))).setCell (p := ⟨g, 4, none⟩) hg (.int .i64 (anD s 8191))).setCell (p := ⟨g, 5, none⟩) hg (.int .i64 (bt s 8))).setCell (p := ⟨g, 6, none⟩) hg (.int .i64 (bt s 9))).setCell (p := ⟨g, 7, none⟩) hg (.int .i64 0)).setCell (p := ⟨g, 8, none⟩) hg (.int .i64 0)).setCell (p := ⟨g, 9, none⟩) hg (.string ⟨#[]⟩)).setCell (p := ⟨g, 10, none⟩) hg (.string ⟨#[]⟩))
      have hGs := (((((((((((hG.put 0 (.int .i64 (bt s 1))).put 1 (.int .i64 (fld s 4 2))).put 2 (.bool (bits .and .i64 (fld s 6 2 / 16384) 1 == 1))).put 3 (.bool (bits .and .i64 (fld s 6 2 / 8192) 1 == 1))).put 4 (.int .i64 (anD s 8191))).put 5 (.int .i64 (bt s 8))).put 6 (.int .i64 (bt s 9))).put 7 (.int .i64 0)).put 8 (.int .i64 0)).put 9 (.string ⟨#[]⟩)).put 10 (.string ⟨#[]⟩))
      have hFs := (((((((((((hFG.put ⟨g, 0, none⟩ (.int .i64 (bt s 1))).put ⟨g, 1, none⟩ (.int .i64 (fld s 4 2))).put ⟨g, 2, none⟩ (.bool (bits .and .i64 (fld s 6 2 / 16384) 1 == 1))).put ⟨g, 3, none⟩ (.bool (bits .and .i64 (fld s 6 2 / 8192) 1 == 1))).put ⟨g, 4, none⟩ (.int .i64 (anD s 8191))).put ⟨g, 5, none⟩ (.int .i64 (bt s 8))).put ⟨g, 6, none⟩ (.int .i64 (bt s 9))).put ⟨g, 7, none⟩ (.int .i64 0)).put ⟨g, 8, none⟩ (.int .i64 0)).put ⟨g, 9, none⟩ (.string ⟨#[]⟩)).put ⟨g, 10, none⟩ (.string ⟨#[]⟩))
      refine hK (updV (updV v 21 (.agg (spR s))) 22 (.pointer (some ⟨g, 0, none⟩))) _ ?_
      rw [updV_eq (v := updV v 21 _) (by rw [updV_eq e21r]; exact e22), updV_eq e21r]
      refine QJ.last (hI.trans hBs) (fun j hj => ?_) ⟨g, e22, hg, hGs, hFs⟩
      have hjs : j ∈ List.range 23 := by simpa using hj
      have hall : ∀ j ∈ List.range 23, L j = true := by
        simp only [List.range_succ, List.range_zero, List.nil_append, List.mem_append, List.mem_singleton]
        rintro j hj
        repeat (first | (rcases hj with hj | rfl; rotate_left; exact hd ⟨_, .phase⟩ (by simp) rfl) | (subst hj; exact hd ⟨_, .phase⟩ (by simp) rfl))
      exact hall j hjs
    exact Steps.nil
  case refine_3 =>
    intro L v u hJ hL
    obtain ⟨g, eg, hg, hG, hFG⟩ := hJ.E (hL 23 (by decide))
    have hB5 := hb0.trans (hJ.inv.mono hb0.size)
    have hR := hR0.below hJ.inv
    have hF := hF0.belowR hJ.inv
    have hgw : w.heap.size < g := Nat.lt_of_lt_of_le hR0.1 hg
    have hfb := fld_bd2 s 6
    have CI : Hid (∀ u : World, Calls Tryd.prog 25 #[.agg (spQ s)] u fun e w' => e = .returned (.bool (ipOk (ipV s))) ∧ Below u.heap.size u w') := fun u => by
      rw [spQ_eq]
      exact s_IpOk (ipV s) u (by show (s.extract 20 (hdr s)).size ≤ _; rw [ByteArray.size_extract]; omega) (by show (s.extract (hdr s) s.size).size ≤ _; rw [ByteArray.size_extract]; omega)
    have HI : Hid (ipL (ipV s) = spQ s) := (spQ_eq s).symm
    have hhi : (fld s 6 2 / 32768 == 1) = decide (32768 ≤ fld s 6 2) := by rw [Bool.eq_iff_iff]; simp; omega
    have HC : Hid ((if ipOk (ipV s) = false ∨ 32768 ≤ fld s 6 2 then (5 : Int) else 0) = ipCode s) := by
      have := h0
      unfold mhCode at this
      show _ = _
      unfold ipCode
      split at this
      · cases this
      · split at this
        · cases this
        · split at this
          · cases this
          · split at this
            · cases this
            · rename_i k1 k2 k3 k4
              rw [if_neg k1, if_neg k2, if_neg k3, if_neg k4]
    clear hJ hL hR0 hF0 hb0 h0 hin E0 E1 E8 E9 W0 W1 W2 V1 V8 V9 hL1d hL2 hS' CS
    have p1 : (20 : Int) ≤ 4 * (bt s 0 - 64) := by omega
    have p2 : 4 * (bt s 0 - 64) ≤ (s.size : Int) := by omega
    have x0 := hG.2 0 _ rfl; have x1 := hG.2 1 _ rfl; have x2 := hG.2 2 _ rfl; have x3 := hG.2 3 _ rfl; have x4 := hG.2 4 _ rfl; have x5 := hG.2 5 _ rfl; have x6 := hG.2 6 _ rfl; have x7 := hG.2 7 _ rfl; have x8 := hG.2 8 _ rfl; have x9 := hG.2 9 _ rfl; have x10 := hG.2 10 _ rfl
    have f9 := hFG.2
    have hgB : Below w.heap.size w u := hB5
    go_wp2_with (go_at_call 44; refine (CA.out _ _ _ (by decide) (by decide) (by decide) (by omega)).mono ?_; rintro e wq ⟨rfl, hq⟩; rw [hq]; clear hq wq)
    have hG2 := ((((hG.put 7 (.int .i64 (fld s 12 4))).put 8 (.int .i64 (fld s 16 4))).put 9 (.string (s.extract 20 (hdr s)))).put 10 (.string (s.extract (hdr s) s.size)))
    have hFG2 := ((((hFG.put ⟨g, 7, none⟩ (.int .i64 (fld s 12 4))).put ⟨g, 8, none⟩ (.int .i64 (fld s 16 4))).put ⟨g, 9, none⟩ (.string (s.extract 20 (hdr s)))).put ⟨g, 10, none⟩ (.string (s.extract (hdr s) s.size)))
    have hR2 := ((((hR.othR (c := g) (j := 7) (by omega) (.int .i64 (fld s 12 4))).othR (c := g) (j := 8) (by omega) (.int .i64 (fld s 16 4))).othR (c := g) (j := 9) (by omega) (.string (s.extract 20 (hdr s)))).othR (c := g) (j := 10) (by omega) (.string (s.extract (hdr s) s.size)))
    have hF2 := ((((hF.put ⟨g, 7, none⟩ (.int .i64 (fld s 12 4))).put ⟨g, 8, none⟩ (.int .i64 (fld s 16 4))).put ⟨g, 9, none⟩ (.string (s.extract 20 (hdr s)))).put ⟨g, 10, none⟩ (.string (s.extract (hdr s) s.size)))
    have hB2 := ((((hgB.setCell (p := ⟨g, 7, none⟩) (Nat.le_of_lt hgw) (.int .i64 (fld s 12 4))).setCell (p := ⟨g, 8, none⟩) (Nat.le_of_lt hgw) (.int .i64 (fld s 16 4))).setCell (p := ⟨g, 9, none⟩) (Nat.le_of_lt hgw) (.string (s.extract 20 (hdr s)))).setCell (p := ⟨g, 10, none⟩) (Nat.le_of_lt hgw) (.string (s.extract (hdr s) s.size)))
    generalize hWW : (((u.setCell _ _).setCell _ _).setCell _ _).setCell _ _ = u2 at *
    clear hWW hG hFG hR hF hgB f9 x0 x1 x2 x3 x4 x5 x6 x7 x8 x9 x10
    refine (CI.out _).mono ?_
    rintro e w6 ⟨rfl, hb⟩
    have hG3 := hG2.below hb
    have hR3 := hR2.below hb
    have hF3 := hF2.belowR hb
    have hB3 := hB2.trans (hb.mono hB2.size)
    clear hb CI hG2 hR2 hF2 hB2 hFG2 CA hB5
    have x0 := hG3.2 0 _ rfl; have x1 := hG3.2 1 _ rfl; have x2 := hG3.2 2 _ rfl; have x3 := hG3.2 3 _ rfl; have x4 := hG3.2 4 _ rfl; have x5 := hG3.2 5 _ rfl; have x6 := hG3.2 6 _ rfl; have x7 := hG3.2 7 _ rfl; have x8 := hG3.2 8 _ rfl; have x9 := hG3.2 9 _ rfl; have x10 := hG3.2 10 _ rfl
    have r0 := hR3.2 0 _ rfl; have r1 := hR3.2 1 _ rfl; have r2 := hR3.2 2 _ rfl; have r3 := hR3.2 3 _ rfl; have r4 := hR3.2 4 _ rfl; have r5 := hR3.2 5 _ rfl; have r6 := hR3.2 6 _ rfl; have r7 := hR3.2 7 _ rfl; have r8 := hR3.2 8 _ rfl; have r9 := hR3.2 9 _ rfl; have r10 := hR3.2 10 _ rfl; have f0 := hF3.2
    have hne1 : ¬ (g = w.heap.size) := by omega
    have hne2 : ¬ (w.heap.size = g) := by omega
    cases hok : ipOk (ipV s)
    · have HRES : Hid (ipCode s = 5 ∧ readIp s = ip0) := by
        have hC5 : ipCode s = 5 := by rw [← HC.out, if_pos (.inl hok)]
        exact ⟨hC5, by unfold readIp; rw [if_neg (by rw [hC5]; decide)]⟩
      clear HC HI
      go_wp2
      refine bodyPost_ret (v := .tuple #[.agg #[.int .i64 0, .int .i64 0, .bool false, .bool false, .int .i64 0, .int .i64 0, .int .i64 0, .int .i64 0, .int .i64 0, .string ⟨#[]⟩, .string ⟨#[]⟩], .int .i64 5]) ?_ rfl ⟨by rw [HRES.out.1, HRES.out.2]; rfl, ?_⟩
      · simp [results, Tryd.results23, go_sem, r0, r1, r2, r3, r4, r5, r6, r7, r8, r9, r10]
      · go_grown
    · cases hh : decide (32768 ≤ fld s 6 2)
      · have HRES : Hid (ipCode s = 0 ∧ ipL (readIp s) = spQ s) := by
          have hC5 : ipCode s = 0 := by rw [← HC.out, if_neg (by rw [hok]; simpa using hh)]
          exact ⟨hC5, by unfold readIp; rw [if_pos hC5]; exact HI.out⟩
        rw [hh] at hhi
        clear HC HI hh
        go_wp2
        refine bodyPost_ret (v := .tuple #[.agg (spQ s), .int .i64 0]) ?_ rfl ⟨by rw [HRES.out.1, HRES.out.2], ?_⟩
        · simp [results, Tryd.results23, go_sem, r0, r1, r2, r3, r4, r5, r6, r7, r8, r9, r10, spQ]
        · go_grown
      · have HRES : Hid (ipCode s = 5 ∧ readIp s = ip0) := by
          have hC5 : ipCode s = 5 := by rw [← HC.out, if_pos (.inr (by simpa using hh))]
          exact ⟨hC5, by unfold readIp; rw [if_neg (by rw [hC5]; decide)]⟩
        rw [hh] at hhi
        clear HC HI hh
        go_wp2
        refine bodyPost_ret (v := .tuple #[.agg #[.int .i64 0, .int .i64 0, .bool false, .bool false, .int .i64 0, .int .i64 0, .int .i64 0, .int .i64 0, .int .i64 0, .string ⟨#[]⟩, .string ⟨#[]⟩], .int .i64 5]) ?_ rfl ⟨by rw [HRES.out.1, HRES.out.2]; rfl, ?_⟩
        · simp [results, Tryd.results23, go_sem, r0, r1, r2, r3, r4, r5, r6, r7, r8, r9, r10]
        · go_grown
end Go.Proofs.YtgknkhhoelgnhaaDoor

