/-
  The text of a mark.
-/
import Derived.Test.YtiolhmdbbibbbaaDoorRecsV
import Derived.Test.YtiolhmdbbibbbaaDoorStrs
namespace Go.Proofs.YtiolhmdbbibbbaaDoor
open Go.RowKit Go.PlainAid
def mdigs : Nat → Nat → List UInt8
  | 0, _ => []
  | f + 1, k => if k = 0 then [] else mdigs f (k / 10) ++ [UInt8.ofNat (48 + k % 10)]
theorem mdigs_fuel : ∀ f f' k, k ≤ f → k ≤ f' → mdigs f k = mdigs f' k := by
  intro f
  induction f with
  | zero =>
    intro f' k h h'
    have : k = 0 := by omega
    subst this
    cases f' with
    | zero => rfl
    | succ f' => simp [mdigs]
  | succ f ih =>
    intro f' k h h'
    cases f' with
    | zero =>
      have : k = 0 := by omega
      subst this; simp [mdigs]
    | succ f' =>
      unfold mdigs
      by_cases hk : k = 0
      · rw [if_pos hk, if_pos hk]
      · rw [if_neg hk, if_neg hk, ih f' (k / 10) (by omega) (by omega)]
def dg (k : Nat) : List UInt8 := mdigs k k
theorem dg_step {k : Nat} (h : 0 < k) : dg k = dg (k / 10) ++ [UInt8.ofNat (48 + k % 10)] := by
  unfold dg
  obtain ⟨n, rfl⟩ : ∃ n, k = n + 1 := ⟨k - 1, by omega⟩
  conv => lhs; unfold mdigs
  rw [if_neg (by omega), mdigs_fuel n ((n + 1) / 10) _ (by omega) (by omega)]
theorem mdigs_len : ∀ f k, (mdigs f k).length ≤ f := by
  intro f
  induction f with
  | zero => intro k; simp [mdigs]
  | succ f ih =>
    intro k; unfold mdigs; split
    · simp
    · rw [List.length_append]; have := ih (k / 10); simp; omega
def mkT (k : Nat) : ByteArray := str (109 :: dg k)
theorem mkT_size (k : Nat) : (mkT k).size ≤ k + 1 := by
  unfold mkT dg; rw [str_size]; have := mdigs_len k k; simp; omega
theorem one_byte (w : World) (c : UInt8) : (convert 36 9 (.slice (some ⟨w.heap.size, 0, none⟩) 1 1)).run Tryd.prog (w.alloc (.cells #[.int .u8 (c.toNat : Int)] 5)) = .ok (.string ⟨#[c]⟩) (w.alloc (.cells #[.int .u8 (c.toNat : Int)] 5)) := by
  have h : ownB (w.alloc (.cells #[.int .u8 (c.toNat : Int)] 5)) w.heap.size (.slice (some ⟨w.heap.size, 0, none⟩) 1 1) [c] := World.ownsRow_lit w #[.int .u8 (c.toNat : Int)] 1 (Nat.le_refl _) (by decide) rfl
  exact run_string_own h
set_option maxRecDepth 100000 in
set_option maxHeartbeats 1600000 in
theorem l_markText (k : Nat) (w : World) (h0 : 1 ≤ k) (hk : k ≤ 1000000000) :
    Calls Tryd.prog 14 #[.int .i64 (k : Int)] w fun e w' => e = .returned (.string (mkT k)) ∧ Below w.heap.size w w' := by
  have h0i : ¬ (k : Int) ≤ 0 := by omega
  have HT : Hid (mkT k = ⟨#[109]⟩ ++ str (dg k)) := by
    show _ = _
    have e : (⟨#[109]⟩ : ByteArray) = str [109] := rfl
    rw [e, str_app]; rfl
  go_enter Tryd.func14, Tryd.ntmps14
  go_wp2
  go_loopw [0, 3] (fun q v wr => ∃ (j : Nat) (o : List UInt8), q = .int .i64 (j : Int) ∧ v = .string (str o) ∧ j ≤ k ∧ o.length + j ≤ k ∧ Hid (dg k = dg j ++ o) ∧ Below w.heap.size w wr) (fun q _ _ => (intOf q).toNat)
  case atStart => exact ⟨k, [], rfl, rfl, by omega, by simp, by show _ = _; simp, Below.refl _ _⟩
  case round =>
    obtain ⟨j, o, rfl, rfl, hj, hol, HD, hB⟩ := hrel
    by_cases hj0 : 0 < j
    · have hj1 : (0 : Int) < (j : Int) := by omega
      have hm : Int.tmod (j : Int) 10 = ((j % 10 : Nat) : Int) := by rw [Int.tmod_eq_emod_of_nonneg (by omega)]; omega
      have hd : Int.tdiv (j : Int) 10 = ((j / 10 : Nat) : Int) := by rw [Int.tdiv_eq_ediv_of_nonneg (by omega)]; omega
      have hc : (UInt8.ofNat (48 + j % 10)).toNat = 48 + j % 10 := by simp [UInt8.toNat_ofNat']; omega
      have hs := one_byte wr (UInt8.ofNat (48 + j % 10))
      rw [hc] at hs
      have hwu : IntKind.u8.wrap (48 + ((j % 10 : Nat) : Int)) = 48 + ((j % 10 : Nat) : Int) := by rw [IntKind.wrap_u8]; omega
      have hcc : ((48 + j % 10 : Nat) : Int) = 48 + ((j % 10 : Nat) : Int) := by omega
      rw [hcc] at hs
      have HN : Hid (dg k = dg (j / 10) ++ (UInt8.ofNat (48 + j % 10) :: o)) := by show _ = _; rw [HD.out, dg_step hj0]; simp
      have HO : Hid ((⟨#[UInt8.ofNat (48 + j % 10)]⟩ : ByteArray) ++ str o = str (UInt8.ofNat (48 + j % 10) :: o)) := by
        show _ = _
        have e : (⟨#[UInt8.ofNat (48 + j % 10)]⟩ : ByteArray) = str [UInt8.ofNat (48 + j % 10)] := rfl
        rw [e, str_app]; rfl
      have hB2 := hB.alloc hB.size (.cells #[.int .u8 (48 + ((j % 10 : Nat) : Int))] 5)
      generalize UInt8.ofNat (48 + j % 10) = cc at *
      have h10 : j % 10 < 10 := by omega
      obtain ⟨m10, hm10⟩ : ∃ m10 : Nat, m10 = j % 10 := ⟨_, rfl⟩
      rw [← hm10] at hs hwu hB2 hm h10
      clear hc hcc hm10
      go_wp2
      go_roundw
      case rel => exact ⟨j / 10, cc :: o, by first | rfl | go_num, by rw [HO.out], by omega, by simp; omega, HN, hB2⟩
      case measure => simp [intOf]; omega
    · have hj0' : j = 0 := by omega
      subst hj0'
      have HD2 : Hid (str o = str (dg k)) := by show _ = _; rw [HD.out]; rfl
      go_wp2
      go_ret
      exact ⟨by rw [HT.out, ← HD2.out]; rfl, hB⟩
end Go.Proofs.YtiolhmdbbibbbaaDoor
