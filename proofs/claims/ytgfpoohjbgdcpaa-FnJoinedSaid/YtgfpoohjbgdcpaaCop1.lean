/-
  Options one behind the other, plainly; the program's iterator over them.
-/
import Derived.RangeFuncBox
import Derived.RangeFuncBound
import Derived.RangeFuncCalls
import Derived.RangeFuncLeaves
import Derived.Shelf.Abstract
import Derived.WalkKit
import Derived.OwnWalkIn
import Derived.TacticsInMore
import Derived.LoopNIn
import Derived.LoopIn
import Derived.Maps.AppendAt
import Derived.Test.YtgfpoohjbgdcpaaStrs
import Derived.Test.YtgfpoohjbgdcpaaWalks3
namespace Go.Proofs.Ytgfpoohjbgdcpaa
open Go.RowKit Go.PlainAid Go.Shelf
attribute [local go_sem] Oper.semAt_some
/-- how many bytes the first option has, and whether it is whole -/
def oN (t : ByteArray) : Nat := if bt t 0 = 1 then 1 else if t.size < 2 then 0 else (bt t 1).toNat
def oW (t : ByteArray) : Bool := decide (bt t 0 = 1) || (decide (2 ≤ t.size) && decide (2 ≤ bt t 1) && decide (bt t 1 ≤ t.size))
theorem bt_bd (t : ByteArray) (k : Nat) : 0 ≤ bt t k ∧ bt t k ≤ 255 := by
  unfold bt; split
  · have := (t[k]).toNat_lt; omega
  · omega
theorem oN_in {t : ByteArray} (h0 : 0 < t.size) (h : oW t = true) : 1 ≤ oN t ∧ oN t ≤ t.size := by
  unfold oW at h
  unfold oN
  simp only [Bool.or_eq_true, Bool.and_eq_true, decide_eq_true_iff] at h
  by_cases h1 : bt t 0 = 1
  · rw [if_pos h1]; omega
  · rw [if_neg h1, if_neg (by omega)]; omega
def oSeqF : Nat → ByteArray → List (ByteArray × Bool)
  | 0, _ => []
  | f + 1, t => if t.size = 0 ∨ bt t 0 = 0 then [] else if oW t then (t.extract 0 (oN t), true) :: oSeqF f (t.extract (oN t) t.size) else [(⟨#[]⟩, false)]
theorem oSeqF_fuel : ∀ f f' t, t.size ≤ f → t.size ≤ f' → oSeqF f t = oSeqF f' t := by
  intro f
  induction f with
  | zero =>
    intro f' t h h'
    have h0 : t.size = 0 := by omega
    cases f' with
    | zero => rfl
    | succ f' => simp [oSeqF, h0]
  | succ f ih =>
    intro f' t h h'
    cases f' with
    | zero =>
      have h0 : t.size = 0 := by omega
      simp [oSeqF, h0]
    | succ f' =>
      unfold oSeqF
      by_cases h0 : t.size = 0 ∨ bt t 0 = 0
      · rw [if_pos h0, if_pos h0]
      · rw [if_neg h0, if_neg h0]
        cases hw : oW t
        · rfl
        · have hn := oN_in (by omega) hw
          have hs : (t.extract (oN t) t.size).size = t.size - oN t := by simp
          simp only [if_true]
          rw [ih f' _ (by omega) (by omega)]
def oSeq (t : ByteArray) : List (ByteArray × Bool) := oSeqF t.size t
theorem oSeq_end {t : ByteArray} (h : t.size = 0 ∨ bt t 0 = 0) : oSeq t = [] := by
  unfold oSeq
  by_cases h0 : t.size = 0
  · rw [h0]; rfl
  · obtain ⟨k, hk⟩ : ∃ k, t.size = k + 1 := ⟨t.size - 1, by omega⟩
    rw [hk]; unfold oSeqF; rw [if_pos h]
theorem oSeq_bad {t : ByteArray} (h0 : 0 < t.size) (h1 : bt t 0 ≠ 0) (hw : oW t = false) : oSeq t = [(⟨#[]⟩, false)] := by
  unfold oSeq
  obtain ⟨k, hk⟩ : ∃ k, t.size = k + 1 := ⟨t.size - 1, by omega⟩
  rw [hk]; unfold oSeqF; rw [if_neg (by omega), hw]; rfl
theorem oSeq_go {t : ByteArray} (h0 : 0 < t.size) (h1 : bt t 0 ≠ 0) (hw : oW t = true) : oSeq t = (t.extract 0 (oN t), true) :: oSeq (t.extract (oN t) t.size) := by
  unfold oSeq
  obtain ⟨k, hk⟩ : ∃ k, t.size = k + 1 := ⟨t.size - 1, by omega⟩
  have hn := oN_in h0 hw
  have hs : (t.extract (oN t) t.size).size = t.size - oN t := by simp
  conv => lhs; rw [hk]; unfold oSeqF
  rw [if_neg (by omega), hw]
  simp only [if_true]
  rw [oSeqF_fuel k (t.extract (oN t) t.size).size _ (by omega) (Nat.le_refl _)]
set_option maxRecDepth 100000 in
theorem i_optionSize (t : ByteArray) (w : World) (h0 : 0 < t.size) (hs : t.size ≤ 1048576) :
    Calls Try.prog 74 #[.string t] w fun e w' => e = .returned (.tuple #[.int .i64 (oN t), .bool (oW t)]) ∧ w' = w := by
  have E0 := get_bt t 0 h0
  have b0 := bt_bd t 0
  have b1 := bt_bd t 1
  by_cases h1 : bt t 0 = 1
  · have HN : Hid (oN t = 1 ∧ oW t = true) := ⟨by unfold oN; rw [if_pos h1], by unfold oW; rw [h1]; rfl⟩
    have z0 : (((t[0]'h0).toNat : Int) == 1) = true := by rw [E0, h1]; rfl
    clear E0 h1 b0 b1
    go_enter Try.func74, Try.ntmps74
    go_wp2
    go_ret2
    exact ⟨by rw [HN.out.1, HN.out.2]; rfl, rfl⟩
  · have z0 : (((t[0]'h0).toNat : Int) == 1) = false := by rw [E0]; simp [h1]
    by_cases h2 : t.size < 2
    · have HN : Hid (oN t = 0 ∧ oW t = false) := ⟨by unfold oN; rw [if_neg h1, if_pos h2], by unfold oW; rw [decide_eq_false h1, decide_eq_false (by omega : ¬ 2 ≤ t.size)]; rfl⟩
      have h2i : (t.size : Int) < 2 := by omega
      clear E0 h1 b0 b1
      go_enter Try.func74, Try.ntmps74
      go_wp2
      go_ret2
      exact ⟨by rw [HN.out.1, HN.out.2]; rfl, rfl⟩
    · have h2i : ¬ (t.size : Int) < 2 := by omega
      have h2j : (1 : Int) < (t.size : Int) := by omega
      have E1 : wrap64 (((t[1]'(by omega)).toNat : Int)) = bt t 1 := by
        rw [get_bt t 1 (by omega)]; unfold wrap64; omega
      have HN : Hid (((oN t : Nat) : Int) = bt t 1 ∧ oW t = (decide (2 ≤ bt t 1) && decide (bt t 1 ≤ t.size))) := ⟨by unfold oN; rw [if_neg h1, if_neg h2]; omega, by unfold oW; rw [decide_eq_false h1, decide_eq_true (by omega : 2 ≤ t.size)]; rfl⟩
      clear E0 h1 b0
      generalize bt t 1 = b at *
      by_cases h3 : 2 ≤ b
      · by_cases h4 : b ≤ (t.size : Int)
        · go_enter Try.func74, Try.ntmps74
          go_wp2
          go_ret2
          exact ⟨by rw [HN.out.1, HN.out.2]; simp [h3, h4], rfl⟩
        · go_enter Try.func74, Try.ntmps74
          go_wp2
          go_ret2
          exact ⟨by rw [HN.out.1, HN.out.2]; simp [h3, h4], rfl⟩
      · go_enter Try.func74, Try.ntmps74
        go_wp2
        go_ret2
        exact ⟨by rw [HN.out.1, HN.out.2, decide_eq_false (by omega : ¬ 2 ≤ b)]; rfl, rfl⟩
/-- what may come in a round -/
abbrev OA := { x : ByteArray × Bool // (x.2 = true → 0 < x.1.size) ∧ x.1.size ≤ 1048576 }
/-- the iterator's two values of a round -/
def oEnc (x : OA) : Array Value := #[.string x.1.1, .bool x.1.2]
def oP (pre : List OA) : List (ByteArray × Bool) := pre.map (·.1)
theorem oP_snoc (pre : List OA) (x : OA) : oP (pre ++ [x]) = oP pre ++ [x.1] := by unfold oP; simp
theorem oP_len (pre : List OA) : (oP pre).length = pre.length := by unfold oP; simp
set_option maxRecDepth 100000 in
set_option maxHeartbeats 3200000 in
theorem o_iter (n : Nat) (hn : 1 ≤ n) (l Bn n₀ : Nat) (t : ByteArray) (J Jx : List OA → World → Prop)
    (hY : ∀ pre x W, J pre W → pre.length < (oSeq t).length → YieldAt Fence.wide (n - 1) Try.prog l (oEnc x) W fun e W' =>
      (e = .returned (.bool true) ∧ J (pre ++ [x]) W' ∧ Below n₀ W W') ∨ (e = .returned (.bool false) ∧ Jx (pre ++ [x]) W'))
    (W : World) (hBn : W.cell? ⟨Bn, 0, none⟩ = some (.string t)) (ht : t.size ≤ 1048576) (h0 : J [] W) :
    CallsIn Fence.wide n Try.prog 73 #[.func (.yield l) #[] #[], .pointer (some ⟨Bn, 0, none⟩)] W fun e W' => (∃ v, e = .returned v) ∧
      ((∃ ys, oP ys = oSeq t ∧ J ys W') ∨ (∃ pre, oP pre <+: oSeq t ∧ Jx pre W')) := by
  have CO : Hid (∀ (u : ByteArray) (w : World), 0 < u.size → u.size ≤ 1048576 → Calls Try.prog 74 #[.string u] w fun e w' => e = .returned (.tuple #[.int .i64 (oN u), .bool (oW u)]) ∧ w' = w) := fun u w h1 h2 => i_optionSize u w h1 h2
  refine callsIn_of_wp Try.func73 rfl trivial ?_ rfl
  simp only [Try.ntmps73, List.size_toArray, List.length_cons, List.length_nil, Nat.reduceAdd, Nat.reduceSub, Array.replicate_succ, Array.replicate_zero, List.push_toArray, List.append_toArray, List.nil_append, List.cons_append]
  gi_wp2
  gi_loopw [3] (fun p wr => ∃ (pre : List OA) (u : ByteArray), p = .string u ∧ u.size ≤ t.size ∧ oSeq t = oP pre ++ oSeq u ∧ J pre wr) (fun p _ => strLen p)
  case atStart => exact ⟨[], t, rfl, Nat.le_refl _, rfl, h0⟩
  case round =>
    obtain ⟨pre, u, rfl, hu, hx, hJs⟩ := hrel
    by_cases hu0 : u.size = 0
    · have e : u = ⟨#[]⟩ := ByteArray.ext (Array.eq_empty_of_size_eq_zero hu0)
      subst e
      have hS : oSeq ⟨#[]⟩ = [] := oSeq_end (.inl rfl)
      rw [hS] at hx
      gi_wp2
      go_end0
      exact ⟨⟨_, rfl⟩, .inl ⟨pre, by rw [hx]; simp, hJs⟩⟩
    · have hpos : 0 < u.size := by omega
      have hposi : (0 : Int) < (u.size : Int) := by omega
      have hl : ¬ u.toList = [] := fun hh => by
        have := str_ne (T := u) (s := ⟨#[]⟩) (fun e => hu0 (by rw [e]; rfl))
        rw [hh] at this; simp at this
      have hl2 : u.toList.isEmpty = false := by cases hh : u.toList with
        | nil => exact absurd hh hl
        | cons a b => rfl
      have E0 := get_bt u 0 hpos
      by_cases hb0 : bt u 0 = 0
      · have hS : oSeq u = [] := oSeq_end (.inr hb0)
        rw [hS] at hx
        have z0 : (((u[0]'hpos).toNat : Int) != 0) = false := by rw [E0, hb0]; rfl
        clear E0 hb0
        gi_wp2
        go_end0
        exact ⟨⟨_, rfl⟩, .inl ⟨pre, by rw [hx]; simp, hJs⟩⟩
      · have z0 : (((u[0]'hpos).toNat : Int) != 0) = true := by rw [E0]; simp [hb0]
        clear E0
        cases hw : oW u
        · have hS := oSeq_bad hpos hb0 hw
          rw [hS] at hx
          obtain ⟨fn, tmps, assign, body, hy, hR⟩ := hY pre ⟨(⟨#[]⟩, false), by simp; decide⟩ wr hJs (by rw [hx]; simp [oP_len])
          simp only [oEnc] at hy
          have C1 : Hid (Calls Try.prog 74 #[.string u] wr fun e w' => e = .returned (.tuple #[.int .i64 (oN u), .bool false]) ∧ w' = wr) := by
            have := CO.out u wr hpos (by omega); rw [hw] at this; exact this
          clear hb0 hw hS CO
          gi_wp2_with (refine ⟨trivial, ?_⟩; gi_at_call 74; refine (callsIn_wide.2 C1.out).mono ?_; rintro e w' ⟨rfl, rfl⟩)
          refine hR.mono ?_
          rintro e W3 (⟨rfl, hJ3, hk3⟩ | ⟨rfl, hJx3⟩)
          · gi_wp2
            refine bodyPost_ret (results_none rfl _ _ _) rfl ?_
            exact ⟨⟨_, rfl⟩, .inl ⟨_, by rw [oP_snoc, hx], hJ3⟩⟩
          · gi_wp2
            refine bodyPost_ret (results_none rfl _ _ _) rfl ?_
            exact ⟨⟨_, rfl⟩, .inr ⟨_, ⟨[], by rw [oP_snoc, hx]; simp⟩, hJx3⟩⟩
        · have hS := oSeq_go hpos hb0 hw
          have hn := oN_in hpos hw
          obtain ⟨k, hke⟩ : ∃ k, k = oN u := ⟨_, rfl⟩
          rw [← hke] at hS hn
          rw [hS] at hx
          have hxp : ((((u.extract 0 k, true) : ByteArray × Bool).2 = true → 0 < ((u.extract 0 k, true) : ByteArray × Bool).1.size) ∧ ((u.extract 0 k, true) : ByteArray × Bool).1.size ≤ 1048576) := by simp; omega
          obtain ⟨fn, tmps, assign, body, hy, hR⟩ := hY pre ⟨(u.extract 0 k, true), hxp⟩ wr hJs (by rw [hx]; simp [oP_len])
          simp only [oEnc] at hy
          have C1 : Hid (Calls Try.prog 74 #[.string u] wr fun e w' => e = .returned (.tuple #[.int .i64 (k : Int), .bool true]) ∧ w' = wr) := by
            have := CO.out u wr hpos (by omega); rw [hw, ← hke] at this; exact this
          have hsz : (u.extract k u.size).size = u.size - k := by simp
          have hk0 : (0 : Int) ≤ (k : Int) := by omega
          have hk1 : (k : Int) ≤ (u.size : Int) := by omega
          clear hb0 hw hS CO hke
          gi_wp2_with (refine ⟨trivial, ?_⟩; gi_at_call 74; refine (callsIn_wide.2 C1.out).mono ?_; rintro e w' ⟨rfl, rfl⟩)
          refine hR.mono ?_
          rintro e W3 (⟨rfl, hJ3, hk3⟩ | ⟨rfl, hJx3⟩)
          · gi_wp2
            go_roundw
            case rel => exact ⟨pre ++ [⟨(u.extract 0 k, true), hxp⟩], u.extract k u.size, rfl, by omega, by rw [oP_snoc, hx]; simp, hJ3⟩
            case measure => simp only [strLen]; omega
          · gi_wp2
            refine bodyPost_ret (results_none rfl _ _ _) rfl ?_
            exact ⟨⟨_, rfl⟩, .inr ⟨_, ⟨oSeq (u.extract k u.size), by rw [oP_snoc, hx]; simp⟩, hJx3⟩⟩
end Go.Proofs.Ytgfpoohjbgdcpaa
