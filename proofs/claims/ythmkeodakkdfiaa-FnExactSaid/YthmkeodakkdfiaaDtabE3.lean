/-
  The law on tables asked exactly: a rule that is put is found, and no other key's is another one; dropped it is not there.
-/
import Derived.Test.YthmkeodakkdfiaaDtabE2
namespace Go.Proofs.Ythmkeodakkdfiaa
open Go.RowKit Go.PlainAid
set_option maxRecDepth 100000 in
set_option maxHeartbeats 12800000 in
theorem walk_FnExact (a : Option Addr) (len cap : Nat) (zs : List Int) (a1 : Option Addr) (len1 cap1 : Nat) (zs1 : List Int) (w : World) (w0 : IsRow .u8 w a len cap zs) (w1 : IsRow .u8 w a1 len1 cap1 zs1) :
    Calls Try.prog 3 #[.slice a len cap, .slice a1 len1 cap1] w fun e w' => e = .returned (.bool true) ∧ Below w.heap.size w w' := by
  have hl := row_len w0
  have hl1 := row_len w1
  by_cases hz : 1048576 < len
  · go_enter Try.func3, Try.ntmps3
    go_wp2
    go_ret
    exact ⟨rfl, Below.refl _ _⟩
  by_cases hz1 : 1048576 < len1
  · go_enter Try.func3, Try.ntmps3
    go_wp2_with fail
    refine (big_no _ _ _ _ (by omega)).mono ?_
    rintro e w' ⟨rfl, rfl⟩
    go_wp2
    go_ret
    exact ⟨rfl, Below.refl _ _⟩
  have hCo := code_of_row w0 (by omega)
  have hCm := code_of_row w1 (by omega)
  clear w0 w1
  go_enter Try.func3, Try.ntmps3
  go_wp2_with fail
  refine (big_no _ _ _ _ (by omega)).mono ?_
  rintro e w' ⟨rfl, rfl⟩
  go_wp2_with fail
  refine (big_no _ _ _ _ (by omega)).mono ?_
  rintro e w' ⟨rfl, rfl⟩
  go_wp2_with fail
  refine (d_ExactPut _ a len cap _ hCo).mono ?_
  rintro e w1 ⟨g, c, l, key, act, rfl, hL, hll, hlc, hb⟩
  go_wp2_with fail
  refine (d_ExactPut _ a1 len1 cap1 _ (hCm.below hb)).mono ?_
  rintro e w2 ⟨g2, c2, l2, other, act2, rfl, _, _, _, hbq⟩
  replace hL := hL.far hbq
  replace hb := hb.trans (hbq.mono hb.size)
  clear hbq hCo hCm
  have CIP : Hid (∀ u : World, IntsAt u (some ⟨g, 0, none⟩) (exF l) → Calls Try.prog 13 #[.slice (some ⟨g, 0, none⟩) l.length c, .int .i64 key, .int .i64 act] u fun e w' => ∃ v, e = .returned (.tuple #[v, .int .i64 (exPutC l ⟨key, act⟩)]) ∧ ownR w' u.heap.size 65 2 v (exPutR l ⟨key, act⟩).length (exF (exPutR l ⟨key, act⟩)) ∧ Below u.heap.size u w') := fun u hu => i_ExactPut g 0 c l ⟨key, act⟩ u hu hlc (by omega)
  have CSP : Hid (∀ u : World, IntsAt u (some ⟨g, 0, none⟩) (exF l) → Calls Try.prog 14 #[.slice (some ⟨g, 0, none⟩) l.length c, .int .i64 key, .int .i64 act] u fun e w' => ∃ v, e = .returned (.tuple #[v, .int .i64 (exPutC l ⟨key, act⟩)]) ∧ ownR w' u.heap.size 65 2 v (exPutR l ⟨key, act⟩).length (exF (exPutR l ⟨key, act⟩)) ∧ Below u.heap.size u w') := fun u hu => s_ExactPut (some ⟨g, 0, none⟩) c l ⟨key, act⟩ u hu (by omega)
  have CFl : Hid (∀ u : World, IntsAt u (some ⟨g, 0, none⟩) (exF l) → Calls Try.prog 16 #[.slice (some ⟨g, 0, none⟩) l.length c, .int .i64 other] u fun e w' => e = .returned (.int .i64 (exFound l other)) ∧ Below u.heap.size u w') := fun u hu => i_ExactFind _ c l other u hu (by omega)
  have CSl : Hid (∀ u : World, IntsAt u (some ⟨g, 0, none⟩) (exF l) → Calls Try.prog 17 #[.slice (some ⟨g, 0, none⟩) l.length c, .int .i64 other] u fun e w' => e = .returned (.int .i64 (exFound l other)) ∧ Below u.heap.size u w') := fun u hu => s_ExactFind _ c l other u hu (by omega)
  have hpl := exPut_len l key act
  have hdl := exDrop_len l key
  have CMS : Hid (∀ (S1 S2 : Option Addr) (c1 c2 : Nat) (u : World), IntsAt u S1 (exF (exPutR l ⟨key, act⟩)) → IntsAt u S2 (exF (exPutR l ⟨key, act⟩)) → Calls Try.prog 15 #[.slice S1 (exPutR l ⟨key, act⟩).length c1, .slice S2 (exPutR l ⟨key, act⟩).length c2] u fun e w' => e = .returned (.bool true) ∧ Below u.heap.size u w') := fun S1 S2 c1 c2 u h1 h2 => l_sameExacts S1 S2 c1 c2 _ u h1 h2 (by omega)
  have CMD : Hid (∀ (S1 S2 : Option Addr) (c1 c2 : Nat) (u : World), IntsAt u S1 (exF (exDropR l ⟨key, 0⟩)) → IntsAt u S2 (exF (exDropR l ⟨key, 0⟩)) → Calls Try.prog 15 #[.slice S1 (exDropR l ⟨key, 0⟩).length c1, .slice S2 (exDropR l ⟨key, 0⟩).length c2] u fun e w' => e = .returned (.bool true) ∧ Below u.heap.size u w') := fun S1 S2 c1 c2 u h1 h2 => l_sameExacts S1 S2 c1 c2 _ u h1 h2 (by omega)
  have CSD : Hid (∀ u : World, IntsAt u (some ⟨g, 0, none⟩) (exF l) → Calls Try.prog 19 #[.slice (some ⟨g, 0, none⟩) l.length c, .int .i64 key] u fun e w' => ∃ v, e = .returned v ∧ ownR w' u.heap.size 65 2 v (exDropR l ⟨key, 0⟩).length (exF (exDropR l ⟨key, 0⟩)) ∧ Below u.heap.size u w') := fun u hu => s_ExactDrop _ c l key u hu (by omega)
  have CID : Hid (exPutC l ⟨key, act⟩ = 0 → ∀ (gm cm : Nat) (u : World), (exPutR l ⟨key, act⟩).length ≤ cm → IntsAt u (some ⟨gm, 0, none⟩) (exF (exPutR l ⟨key, act⟩)) → Calls Try.prog 18 #[.slice (some ⟨gm, 0, none⟩) (exPutR l ⟨key, act⟩).length cm, .int .i64 key] u fun e w' => ∃ v, e = .returned v ∧ ownR w' u.heap.size 65 2 v (exDropR l ⟨key, 0⟩).length (exF (exDropR l ⟨key, 0⟩)) ∧ Below u.heap.size u w') := fun h gm cm u hc hu => by
    have := i_ExactDrop gm 0 cm (exPutR l ⟨key, act⟩) key u hu hc (by omega)
    rw [show exDropR (exPutR l ⟨key, act⟩) ⟨key, 0⟩ = exDropR l ⟨key, 0⟩ from (ex_drop_eq (l := l) (r := ⟨key, act⟩) h).1] at this; exact this
  have CFm : Hid (exPutC l ⟨key, act⟩ = 0 → ∀ (S : Option Addr) (cm : Nat) (u : World), IntsAt u S (exF (exPutR l ⟨key, act⟩)) → Calls Try.prog 16 #[.slice S (exPutR l ⟨key, act⟩).length cm, .int .i64 key] u fun e w' => e = .returned (.int .i64 act) ∧ Below u.heap.size u w') := fun h S cm u hu => by
    have := i_ExactFind S cm (exPutR l ⟨key, act⟩) key u hu (by omega)
    rw [show exFound (exPutR l ⟨key, act⟩) key = act from ex_put_same (l := l) (r := ⟨key, act⟩) h] at this; exact this
  have CFo : Hid (exPutC l ⟨key, act⟩ = 0 → ¬ other = key → ∀ (S : Option Addr) (cm : Nat) (u : World), IntsAt u S (exF (exPutR l ⟨key, act⟩)) → Calls Try.prog 16 #[.slice S (exPutR l ⟨key, act⟩).length cm, .int .i64 other] u fun e w' => e = .returned (.int .i64 (exFound l other)) ∧ Below u.heap.size u w') := fun h ho S cm u hu => by
    have := i_ExactFind S cm (exPutR l ⟨key, act⟩) other u hu (by omega)
    rw [show exFound (exPutR l ⟨key, act⟩) other = exFound l other from ex_put_other (l := l) (r := ⟨key, act⟩) h ho] at this; exact this
  have CFd : Hid (exPutC l ⟨key, act⟩ = 0 → ∀ (S : Option Addr) (cm : Nat) (u : World), IntsAt u S (exF (exDropR l ⟨key, 0⟩)) → Calls Try.prog 16 #[.slice S (exDropR l ⟨key, 0⟩).length cm, .int .i64 key] u fun e w' => e = .returned (.int .i64 0) ∧ Below u.heap.size u w') := fun h S cm u hu => by
    have := i_ExactFind S cm (exDropR l ⟨key, 0⟩) key u hu (by omega)
    rw [show exFound (exDropR l ⟨key, 0⟩) key = 0 from ex_drop_same (l := l) (r := ⟨key, act⟩) h] at this; exact this
  have CFe : Hid (exPutC l ⟨key, act⟩ = 0 → ¬ other = key → ∀ (S : Option Addr) (cm : Nat) (u : World), IntsAt u S (exF (exDropR l ⟨key, 0⟩)) → Calls Try.prog 16 #[.slice S (exDropR l ⟨key, 0⟩).length cm, .int .i64 other] u fun e w' => e = .returned (.int .i64 (exFound l other)) ∧ Below u.heap.size u w') := fun h ho S cm u hu => by
    have := i_ExactFind S cm (exDropR l ⟨key, 0⟩) other u hu (by omega)
    rw [show exFound (exDropR l ⟨key, 0⟩) other = exFound l other from ex_drop_other (l := l) (r := ⟨key, act⟩) h ho] at this; exact this
  have HP1 : Hid (exPutC l ⟨key, act⟩ = 0 → 1 ≤ (exPutR l ⟨key, act⟩).length) := fun h => exPut_pos l _ h
  generalize exFound l other = fo at *
  generalize exPutC l ⟨key, act⟩ = pc at *
  generalize exPutR l ⟨key, act⟩ = pm at *
  generalize exDropR l ⟨key, 0⟩ = pd at *
  have hpc : (pc != pc) = false := by simp
  have hfo : (fo != fo) = false := by simp
  go_wp2_with fail
  go_at_call 13
  refine (CIP.out _ hL.reads.2).mono ?_
  rintro e w3 ⟨vM, rfl, hM, hbq⟩
  have hMs := hM.shape
  replace hL := hL.far hbq
  replace hb := hb.trans (hbq.mono hb.size)
  clear hbq
  go_wp2_with fail
  go_at_call 14
  refine (CSP.out _ hL.reads.2).mono ?_
  rintro e w4 ⟨vW, rfl, hW, hbq⟩
  obtain ⟨TW, cW, rfl⟩ := hW.form
  replace hL := hL.far hbq
  replace hM := hM.far hbq
  replace hb := hb.trans (hbq.mono hb.size)
  clear hbq
  by_cases hk : pc = 0
  · subst hk
    have hp1 := HP1.out (by trivial)
    rcases hMs with ⟨_, hn, _⟩ | ⟨gm, cm, rfl, _, _, hcm, _⟩
    · omega
    go_wp2_with fail
    go_at_call 15
    refine (CMS.out _ _ _ _ _ hM.reads.2 hW.reads.2).mono ?_
    rintro e w5 ⟨rfl, hbq⟩
    replace hL := hL.far hbq
    replace hM := hM.far hbq
    replace hW := hW.far hbq
    replace hb := hb.trans (hbq.mono hb.size)
    clear hbq
    go_wp2_with fail
    go_at_call 16
    refine (CFl.out _ hL.reads.2).mono ?_
    rintro e w6 ⟨rfl, hbq⟩
    replace hL := hL.far hbq
    replace hM := hM.far hbq
    replace hW := hW.far hbq
    replace hb := hb.trans (hbq.mono hb.size)
    clear hbq
    go_wp2_with fail
    go_at_call 17
    refine (CSl.out _ hL.reads.2).mono ?_
    rintro e w7 ⟨rfl, hbq⟩
    replace hL := hL.far hbq
    replace hM := hM.far hbq
    replace hW := hW.far hbq
    replace hb := hb.trans (hbq.mono hb.size)
    clear hbq
    go_wp2_with fail
    go_at_call 18
    refine (CID.out (by trivial) _ _ _ hcm hM.reads.2).mono ?_
    rintro e w8 ⟨vD, rfl, hD, hbq⟩
    obtain ⟨TD, cD, rfl⟩ := hD.form
    replace hL := hL.far hbq
    replace hM := hM.far hbq
    replace hb := hb.trans (hbq.mono hb.size)
    clear hbq
    go_wp2_with fail
    go_at_call 16
    refine (CFm.out (by trivial) _ _ _ hM.reads.2).mono ?_
    rintro e w9 ⟨rfl, hbq⟩
    replace hL := hL.far hbq
    replace hM := hM.far hbq
    replace hD := hD.far hbq
    replace hb := hb.trans (hbq.mono hb.size)
    clear hbq
    by_cases ho : other = key
    · have hob : (other == key) = true := by simp [ho]
      clear ho
      go_wp2_with fail
      go_at_call 16
      refine (CFd.out (by trivial) _ _ _ hD.reads.2).mono ?_
      rintro e w15 ⟨rfl, hbq⟩
      replace hL := hL.far hbq
      replace hD := hD.far hbq
      replace hb := hb.trans (hbq.mono hb.size)
      clear hbq
      go_wp2_with fail
      go_at_call 19
      refine (CSD.out _ hL.reads.2).mono ?_
      rintro e w16 ⟨vE, rfl, hE, hbq⟩
      obtain ⟨TE, cE, rfl⟩ := hE.form
      replace hD := hD.far hbq
      replace hb := hb.trans (hbq.mono hb.size)
      clear hbq
      go_wp2_with fail
      go_at_call 15
      refine (CMD.out _ _ _ _ _ hD.reads.2 hE.reads.2).mono ?_
      rintro e w17 ⟨rfl, hbq⟩
      replace hb := hb.trans (hbq.mono hb.size)
      clear hbq
      go_wp2
      go_ret
      exact ⟨rfl, hb⟩
    · have hob : (other == key) = false := by simp [ho]
      go_wp2_with fail
      go_at_call 16
      refine (CFo.out (by trivial) ho _ _ _ hM.reads.2).mono ?_
      rintro e w10 ⟨rfl, hbq⟩
      replace hL := hL.far hbq
      replace hM := hM.far hbq
      replace hD := hD.far hbq
      replace hb := hb.trans (hbq.mono hb.size)
      clear hbq
      go_wp2_with fail
      go_at_call 16
      refine (CFl.out _ hL.reads.2).mono ?_
      rintro e w11 ⟨rfl, hbq⟩
      replace hL := hL.far hbq
      replace hD := hD.far hbq
      replace hb := hb.trans (hbq.mono hb.size)
      clear hbq
      go_wp2_with fail
      go_at_call 16
      refine (CFe.out (by trivial) ho _ _ _ hD.reads.2).mono ?_
      rintro e w12 ⟨rfl, hbq⟩
      replace hL := hL.far hbq
      replace hD := hD.far hbq
      replace hb := hb.trans (hbq.mono hb.size)
      clear hbq
      go_wp2_with fail
      go_at_call 16
      refine (CFl.out _ hL.reads.2).mono ?_
      rintro e w13 ⟨rfl, hbq⟩
      replace hL := hL.far hbq
      replace hD := hD.far hbq
      replace hb := hb.trans (hbq.mono hb.size)
      clear hbq
      go_wp2_with fail
      go_at_call 16
      refine (CFd.out (by trivial) _ _ _ hD.reads.2).mono ?_
      rintro e w15 ⟨rfl, hbq⟩
      replace hL := hL.far hbq
      replace hD := hD.far hbq
      replace hb := hb.trans (hbq.mono hb.size)
      clear hbq
      go_wp2_with fail
      go_at_call 19
      refine (CSD.out _ hL.reads.2).mono ?_
      rintro e w16 ⟨vE, rfl, hE, hbq⟩
      obtain ⟨TE, cE, rfl⟩ := hE.form
      replace hD := hD.far hbq
      replace hb := hb.trans (hbq.mono hb.size)
      clear hbq
      go_wp2_with fail
      go_at_call 15
      refine (CMD.out _ _ _ _ _ hD.reads.2 hE.reads.2).mono ?_
      rintro e w17 ⟨rfl, hbq⟩
      replace hb := hb.trans (hbq.mono hb.size)
      clear hbq
      go_wp2
      go_ret
      exact ⟨rfl, hb⟩
  · have hkb : (pc != 0) = true := by simpa using hk
    obtain ⟨TM, cM, rfl⟩ := hM.form
    go_wp2_with fail
    go_at_call 15
    refine (CMS.out _ _ _ _ _ hM.reads.2 hW.reads.2).mono ?_
    rintro e w5 ⟨rfl, hbq⟩
    replace hL := hL.far hbq
    replace hM := hM.far hbq
    replace hW := hW.far hbq
    replace hb := hb.trans (hbq.mono hb.size)
    clear hbq
    go_wp2_with fail
    go_at_call 16
    refine (CFl.out _ hL.reads.2).mono ?_
    rintro e w6 ⟨rfl, hbq⟩
    replace hL := hL.far hbq
    replace hM := hM.far hbq
    replace hW := hW.far hbq
    replace hb := hb.trans (hbq.mono hb.size)
    clear hbq
    go_wp2_with fail
    go_at_call 17
    refine (CSl.out _ hL.reads.2).mono ?_
    rintro e w7 ⟨rfl, hbq⟩
    replace hL := hL.far hbq
    replace hM := hM.far hbq
    replace hW := hW.far hbq
    replace hb := hb.trans (hbq.mono hb.size)
    clear hbq
    go_wp2_with fail
    go_at_call 15
    refine (CMS.out _ _ _ _ _ hM.reads.2 hW.reads.2).mono ?_
    rintro e w8 ⟨rfl, hbq⟩
    replace hL := hL.far hbq
    replace hb := hb.trans (hbq.mono hb.size)
    clear hbq
    go_wp2_with fail
    go_at_call 16
    refine (CFl.out _ hL.reads.2).mono ?_
    rintro e w9 ⟨rfl, hbq⟩
    replace hL := hL.far hbq
    replace hb := hb.trans (hbq.mono hb.size)
    clear hbq
    go_wp2_with fail
    go_at_call 17
    refine (CSl.out _ hL.reads.2).mono ?_
    rintro e w10 ⟨rfl, hbq⟩
    replace hb := hb.trans (hbq.mono hb.size)
    clear hbq
    go_wp2
    go_ret
    exact ⟨rfl, hb⟩
end Go.Proofs.Ythmkeodakkdfiaa
