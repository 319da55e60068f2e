/-
  The law on what is copied of options: its walk.
-/
import Derived.Test.YtegongkecbdkkaaCpd2
namespace Go.Proofs.Ytegongkecbdkkaa
open Go.RowKit Go.PlainAid
set_option maxRecDepth 100000 in
set_option maxHeartbeats 6400000 in
theorem walk_FnCopied (a : Option Addr) (len cap : Nat) (zs : List Int) (w : World) (w0 : IsRow .u8 w a len cap zs) :
    Calls Try.prog 6 #[.slice a len cap] w fun e w' => e = .returned (.bool true) ∧ Below w.heap.size w w' := by
  have hl := row_len w0
  by_cases hz : 1048576 < len
  · go_enter Try.func6, Try.ntmps6
    go_wp2
    go_ret
    exact ⟨rfl, Below.refl _ _⟩
  have hCo := code_of_row w0 (by omega)
  clear w0
  have CS : Hid (∀ (t : ByteArray) (u : World), t.size ≤ 1048576 → Calls Try.prog 24 #[.string t] u fun e w' => e = .returned (.tuple #[.string (cpText t), .bool (cpOk t)]) ∧ w' = u) := fun t u h => s_CopiedOpts t u (by omega)
  have CI : Hid (∀ (t : ByteArray) (u : World), t.size ≤ 1048576 → Calls Try.prog 27 #[.string t] u fun e w' => e = .returned (.tuple #[.string (cpText t), .bool (cpOk t)]) ∧ Below u.heap.size u w') := fun t u h => i_CopiedOpts t u (by omega)
  go_enter Try.func6, Try.ntmps6
  go_wp2_with fail
  refine (big_no _ _ _ _ (by omega)).mono ?_
  rintro e w' ⟨rfl, rfl⟩
  go_wp2_with fail
  refine (d_CopiedOpts _ a len cap _ hCo).mono ?_
  rintro e w1 ⟨t, rfl, ht, hb⟩
  have HA : Hid (cpOk t = true → cpOk (cpText t) = true ∧ cpText (cpText t) = cpText t ∧ (cpText t).size % 4 = 0 ∧ (cpText t).size ≤ t.size + 3 ∧ (cpText t = ⟨#[]⟩ ∨ 0 < (cpText t).size ∧ 128 ≤ bt (cpText t) 0)) := fun h => copied_again h
  have C1 : Hid (∀ u : World, Calls Try.prog 27 #[.string t] u fun e w' => e = .returned (.tuple #[.string (cpText t), .bool (cpOk t)]) ∧ Below u.heap.size u w') := fun u => CI.out t u (by omega)
  have C2 : Hid (∀ u : World, Calls Try.prog 24 #[.string t] u fun e w' => e = .returned (.tuple #[.string (cpText t), .bool (cpOk t)]) ∧ w' = u) := fun u => CS.out t u (by omega)
  clear CS hCo
  have C3 : Hid (cpOk t = true → ∀ u : World, Calls Try.prog 27 #[.string (cpText t)] u fun e w' => e = .returned (.tuple #[.string (cpText t), .bool true]) ∧ Below u.heap.size u w') := fun h u => by
    obtain ⟨k1, k2, k3, k4, k5⟩ := HA.out h
    have := CI.out (cpText t) u (by omega)
    rw [k1, k2] at this; exact this
  have HE : Hid (cpOk t = true → (cpText t).size % 4 = 0 ∧ (cpText t).size ≤ t.size + 3 ∧ (cpText t = ⟨#[]⟩ ∨ 0 < (cpText t).size ∧ 128 ≤ bt (cpText t) 0)) := fun h => (HA.out h).2.2
  clear HA CI
  generalize cpText t = u at *
  generalize cpOk t = ok at *
  have q1 : (u.toList != u.toList) = false := by simp
  have q2 : (ok != ok) = false := by simp
  have q3 : (u.toList == u.toList) = true := by simp
  have q4 : (ok == ok) = true := by simp
  go_wp2_with fail
  go_at_call 27
  refine (C1.out _).mono ?_
  rintro e w2 ⟨rfl, hb2⟩
  replace hb := hb.trans (hb2.mono hb.size)
  clear hb2 C1
  go_wp2_with fail
  go_at_call 24
  refine (C2.out _).mono ?_
  rintro e w3 ⟨rfl, rfl⟩
  clear C2
  cases ok
  · clear C3 HE
    go_wp2
    go_ret
    exact ⟨rfl, hb⟩
  · obtain ⟨h4, h3, hh⟩ := HE.out rfl
    have C4 : Hid (∀ v : World, Calls Try.prog 27 #[.string u] v fun e w' => e = .returned (.tuple #[.string u, .bool true]) ∧ Below v.heap.size v w') := fun v => C3.out rfl v
    clear C3 HE
    go_wp2_with fail
    go_at_call 27
    refine (C4.out _).mono ?_
    rintro e w4 ⟨rfl, hb2⟩
    replace hb := hb.trans (hb2.mono hb.size)
    clear hb2 C4
    have hm : Int.tmod (u.size : Int) 4 = 0 := by rw [Int.tmod_eq_emod_of_nonneg (by omega)]; omega
    have h3i : (u.size : Int) ≤ (t.size : Int) + 3 := by omega
    rcases hh with rfl | ⟨hp, h128⟩
    · go_wp2
      go_ret
      exact ⟨rfl, hb⟩
    · have hpi : (0 : Int) < (u.size : Int) := by omega
      have e2 : ¬ u.toList = [] := fun hh => by
        have := str_ne (T := u) (s := ⟨#[]⟩) (fun e => by rw [e] at hp; exact absurd hp (by decide))
        rw [hh] at this; simp at this
      have e3 : u.toList.isEmpty = false := by cases hh : u.toList with
        | nil => exact absurd hh e2
        | cons a b => rfl
      have E0 := get_bt u 0 hp
      clear h4 h3
      go_wp2
      go_ret
      exact ⟨rfl, hb⟩
end Go.Proofs.Ytegongkecbdkkaa
